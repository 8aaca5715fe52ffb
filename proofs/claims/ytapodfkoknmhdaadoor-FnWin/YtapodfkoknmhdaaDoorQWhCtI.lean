/- Whether one choice leads there, as the program looks (tools/gen_whct.py). -/
import Derived.Test.YtapodfkoknmhdaaDoorQWhRkM
import Derived.Test.YtapodfkoknmhdaaDoorQWhCnI
namespace Go.Proofs.YtapodfkoknmhdaaDoor
open Go.RowKit
theorem al_sm (X Y : Nat → Bool) (F : Nat → Int) (k : Nat) (h : ∀ j, Y j = !(X j)) : alB X F k = !(smB Y F k) := by
  induction k with
  | zero => rfl
  | succ k ih => unfold alB smB; rw [ih, h]; cases smB Y F k <;> cases X (F k).toNat <;> rfl
set_option maxHeartbeats 1000000 in
theorem iNear (o : Int) (la : Option Addr) (n lc : Nat) (F : Nat → Int) (near : Int) (b1 b2 : Nat) (w : World) (h1 : w.cell? ⟨b1, 0, none⟩ = some (.slice la n lc)) (h2 : w.cell? ⟨b2, 0, none⟩ = some (.int .i64 near)) (hl : IL w la n F) (o0 : 0 ≤ o) (o1 : o < (n : Int)) :
    Calls Tryd.prog 140 #[.int .i64 o, .pointer (some ⟨b1, 0, none⟩), .pointer (some ⟨b2, 0, none⟩)] w fun e w' => e = .returned (.bool (decide (F o.toNat ≤ near))) ∧ Below w.heap.size w w' := by
  obtain ⟨lb, lo, rfl, ll, hc⟩ := hl (by omega)
  have y1 := hc o.toNat (by omega)
  generalize F o.toNat = V at *
  clear hc hl
  go_enter Tryd.func140, Tryd.ntmps140
  go_wp2_with fail
  go_quiet (fail)
  go_wp2
  go_ret
  exact ⟨rfl, below_dr (Below.refl _ _) _⟩
set_option maxHeartbeats 1000000 in
theorem idxNear (a : Option Addr) (k c : Nat) (G : Nat → Int) (la : Option Addr) (n lc : Nat) (F : Nat → Int) (near : Int) (b1 b2 : Nat) (w : World) (hk : k ≤ 1048576) (ha : IL w a k G) (hG : ∀ j, j < k → 0 ≤ G j ∧ G j < (n : Int)) (l1 : b1 < w.heap.size) (l2 : b2 < w.heap.size) (h1 : w.cell? ⟨b1, 0, none⟩ = some (.slice la n lc)) (h2 : w.cell? ⟨b2, 0, none⟩ = some (.int .i64 near)) (hl : IL w la n F) :
    Calls Tryd.prog 132 #[.slice a k c, .func (.func 140) #[] #[.pointer (some ⟨b1, 0, none⟩), .pointer (some ⟨b2, 0, none⟩)]] w fun e w' => (∃ z : Int, e = .returned (.int .i64 z) ∧ smB (fun j => decide (F j ≤ near)) G k = decide (0 ≤ z)) ∧ Below w.heap.size w w' := by
  have HS : Hid (∀ j, smB (fun j => decide (F j ≤ near)) G (j + 1) = (smB (fun j => decide (F j ≤ near)) G j || (fun j => decide (F j ≤ near)) (G j).toNat)) := fun j => rfl
  have HY : Hid (∀ j, j < k → (fun j => decide (F j ≤ near)) (G j).toNat = true → smB (fun j => decide (F j ≤ near)) G k = true) := fun j hj h => smB_iff.2 ⟨j, hj, h⟩
  have HG : Hid (∀ j, j < k → 0 ≤ G j ∧ G j < (n : Int)) := hG
  clear hG
  have kC := fun o w2 g1 g2 g3 g4 g5 => iNear o la n lc F near b1 b2 w2 g1 g2 g3 g4 g5
  go_enter Tryd.func132, Tryd.ntmps132
  go_wp2
  go_loopw [8] (fun i wr => ∃ j : Nat, j ≤ k ∧ i = .int .i64 (j : Int) ∧ Hid (smB (fun j => decide (F j ≤ near)) G j = false) ∧ Below w.heap.size w wr) (fun i _ => k - (intOf i).toNat)
  case atStart => exact ⟨0, Nat.zero_le _, rfl, (rfl : smB (fun j => decide (F j ≤ near)) G 0 = false), Below.refl _ _⟩
  case round =>
    obtain ⟨j, hj, rfl, HE, hB⟩ := hrel
    by_cases hlt : j < k
    · obtain ⟨ab, ao, rfl, al, hc⟩ := (ha.below hB) (by omega)
      have y1 := hc j hlt
      have hr := HG.out j hlt
      have j0 : (0 : Int) ≤ (j : Int) := by omega
      have j1 : (j : Int) < (k : Int) := by omega
      have kD := kC (G j) wr ((hB.cell (p := ⟨b1, 0, none⟩) l1).trans h1) ((hB.cell (p := ⟨b2, 0, none⟩) l2).trans h2) (hl.below hB) hr.1 hr.2
      have HY2 : Hid (decide (F (G j).toNat ≤ near) = true → smB (fun j => decide (F j ≤ near)) G k = true) := HY.out j hlt
      have HN2 : Hid (decide (F (G j).toNat ≤ near) = false → smB (fun j => decide (F j ≤ near)) G (j + 1) = false) := fun h => by rw [HS.out, HE.out, h]; rfl
      clear hc ha kC HY HS HE HG hr
      generalize decide (F (G j).toNat ≤ near) = B at *
      generalize G j = V at *
      cases B with
      | true =>
        have HR : Hid (smB (fun j => decide (F j ≤ near)) G k = true) := HY2.out rfl
        clear HY2 HN2
        go_wp2_with (first | (go_at_call 140; refine kD.mono ?_; rintro e w9 ⟨rfl, hb9⟩) | fail)
        go_ret
        exact ⟨⟨(j : Int), rfl, by rw [HR.out]; simp⟩, stepA hB hb9⟩
      | false =>
        have HR : Hid (smB (fun j => decide (F j ≤ near)) G (j + 1) = false) := HN2.out rfl
        clear HY2 HN2
        go_wp2_with (first | (go_at_call 140; refine kD.mono ?_; rintro e w9 ⟨rfl, hb9⟩) | fail)
        exact ⟨⟨j + 1, by omega, by go_num, HR, stepA hB hb9⟩, by simp [intOf]; omega⟩
    · have : j = k := by omega
      subst this
      go_wp2
      go_ret
      exact ⟨⟨-1, rfl, by rw [HE.out]; rfl⟩, hB⟩
set_option maxHeartbeats 1000000 in
theorem conNear (a : Option Addr) (k c : Nat) (G : Nat → Int) (la : Option Addr) (n lc : Nat) (F : Nat → Int) (near : Int) (b1 b2 : Nat) (w : World) (hk : k ≤ 1048576) (ha : IL w a k G) (hG : ∀ j, j < k → 0 ≤ G j ∧ G j < (n : Int)) (l1 : b1 < w.heap.size) (l2 : b2 < w.heap.size) (h1 : w.cell? ⟨b1, 0, none⟩ = some (.slice la n lc)) (h2 : w.cell? ⟨b2, 0, none⟩ = some (.int .i64 near)) (hl : IL w la n F) :
    Calls Tryd.prog 104 #[.slice a k c, .func (.func 140) #[] #[.pointer (some ⟨b1, 0, none⟩), .pointer (some ⟨b2, 0, none⟩)]] w fun e w' => e = .returned (.bool (smB (fun j => decide (F j ≤ near)) G k)) ∧ Below w.heap.size w w' := by
  have kI := idxNear a k c G la n lc F near b1 b2 w hk ha hG l1 l2 h1 h2 hl
  generalize smB (fun j => decide (F j ≤ near)) G k = B at *
  clear hG
  go_enter Tryd.func104, Tryd.ntmps104
  go_wp2_with fail
  refine kI.mono ?_
  rintro e w2 ⟨⟨z, rfl, hz⟩, hb2⟩
  clear kI
  subst hz
  go_wp2
  go_ret
  exact ⟨rfl, hb2⟩
set_option maxHeartbeats 1000000 in
theorem iFar (o : Int) (la : Option Addr) (n lc : Nat) (F : Nat → Int) (near : Int) (b1 b2 : Nat) (w : World) (h1 : w.cell? ⟨b1, 0, none⟩ = some (.slice la n lc)) (h2 : w.cell? ⟨b2, 0, none⟩ = some (.int .i64 near)) (hl : IL w la n F) (o0 : 0 ≤ o) (o1 : o < (n : Int)) :
    Calls Tryd.prog 141 #[.int .i64 o, .pointer (some ⟨b1, 0, none⟩), .pointer (some ⟨b2, 0, none⟩)] w fun e w' => e = .returned (.bool (decide (near < F o.toNat))) ∧ Below w.heap.size w w' := by
  obtain ⟨lb, lo, rfl, ll, hc⟩ := hl (by omega)
  have y1 := hc o.toNat (by omega)
  generalize F o.toNat = V at *
  clear hc hl
  go_enter Tryd.func141, Tryd.ntmps141
  go_wp2_with fail
  go_quiet (fail)
  go_wp2
  go_ret
  exact ⟨rfl, below_dr (Below.refl _ _) _⟩
set_option maxHeartbeats 1000000 in
theorem idxFar (a : Option Addr) (k c : Nat) (G : Nat → Int) (la : Option Addr) (n lc : Nat) (F : Nat → Int) (near : Int) (b1 b2 : Nat) (w : World) (hk : k ≤ 1048576) (ha : IL w a k G) (hG : ∀ j, j < k → 0 ≤ G j ∧ G j < (n : Int)) (l1 : b1 < w.heap.size) (l2 : b2 < w.heap.size) (h1 : w.cell? ⟨b1, 0, none⟩ = some (.slice la n lc)) (h2 : w.cell? ⟨b2, 0, none⟩ = some (.int .i64 near)) (hl : IL w la n F) :
    Calls Tryd.prog 132 #[.slice a k c, .func (.func 141) #[] #[.pointer (some ⟨b1, 0, none⟩), .pointer (some ⟨b2, 0, none⟩)]] w fun e w' => (∃ z : Int, e = .returned (.int .i64 z) ∧ smB (fun j => decide (near < F j)) G k = decide (0 ≤ z)) ∧ Below w.heap.size w w' := by
  have HS : Hid (∀ j, smB (fun j => decide (near < F j)) G (j + 1) = (smB (fun j => decide (near < F j)) G j || (fun j => decide (near < F j)) (G j).toNat)) := fun j => rfl
  have HY : Hid (∀ j, j < k → (fun j => decide (near < F j)) (G j).toNat = true → smB (fun j => decide (near < F j)) G k = true) := fun j hj h => smB_iff.2 ⟨j, hj, h⟩
  have HG : Hid (∀ j, j < k → 0 ≤ G j ∧ G j < (n : Int)) := hG
  clear hG
  have kC := fun o w2 g1 g2 g3 g4 g5 => iFar o la n lc F near b1 b2 w2 g1 g2 g3 g4 g5
  go_enter Tryd.func132, Tryd.ntmps132
  go_wp2
  go_loopw [8] (fun i wr => ∃ j : Nat, j ≤ k ∧ i = .int .i64 (j : Int) ∧ Hid (smB (fun j => decide (near < F j)) G j = false) ∧ Below w.heap.size w wr) (fun i _ => k - (intOf i).toNat)
  case atStart => exact ⟨0, Nat.zero_le _, rfl, (rfl : smB (fun j => decide (near < F j)) G 0 = false), Below.refl _ _⟩
  case round =>
    obtain ⟨j, hj, rfl, HE, hB⟩ := hrel
    by_cases hlt : j < k
    · obtain ⟨ab, ao, rfl, al, hc⟩ := (ha.below hB) (by omega)
      have y1 := hc j hlt
      have hr := HG.out j hlt
      have j0 : (0 : Int) ≤ (j : Int) := by omega
      have j1 : (j : Int) < (k : Int) := by omega
      have kD := kC (G j) wr ((hB.cell (p := ⟨b1, 0, none⟩) l1).trans h1) ((hB.cell (p := ⟨b2, 0, none⟩) l2).trans h2) (hl.below hB) hr.1 hr.2
      have HY2 : Hid (decide (near < F (G j).toNat) = true → smB (fun j => decide (near < F j)) G k = true) := HY.out j hlt
      have HN2 : Hid (decide (near < F (G j).toNat) = false → smB (fun j => decide (near < F j)) G (j + 1) = false) := fun h => by rw [HS.out, HE.out, h]; rfl
      clear hc ha kC HY HS HE HG hr
      generalize decide (near < F (G j).toNat) = B at *
      generalize G j = V at *
      cases B with
      | true =>
        have HR : Hid (smB (fun j => decide (near < F j)) G k = true) := HY2.out rfl
        clear HY2 HN2
        go_wp2_with (first | (go_at_call 141; refine kD.mono ?_; rintro e w9 ⟨rfl, hb9⟩) | fail)
        go_ret
        exact ⟨⟨(j : Int), rfl, by rw [HR.out]; simp⟩, stepA hB hb9⟩
      | false =>
        have HR : Hid (smB (fun j => decide (near < F j)) G (j + 1) = false) := HN2.out rfl
        clear HY2 HN2
        go_wp2_with (first | (go_at_call 141; refine kD.mono ?_; rintro e w9 ⟨rfl, hb9⟩) | fail)
        exact ⟨⟨j + 1, by omega, by go_num, HR, stepA hB hb9⟩, by simp [intOf]; omega⟩
    · have : j = k := by omega
      subst this
      go_wp2
      go_ret
      exact ⟨⟨-1, rfl, by rw [HE.out]; rfl⟩, hB⟩
set_option maxHeartbeats 1000000 in
theorem conFar (a : Option Addr) (k c : Nat) (G : Nat → Int) (la : Option Addr) (n lc : Nat) (F : Nat → Int) (near : Int) (b1 b2 : Nat) (w : World) (hk : k ≤ 1048576) (ha : IL w a k G) (hG : ∀ j, j < k → 0 ≤ G j ∧ G j < (n : Int)) (l1 : b1 < w.heap.size) (l2 : b2 < w.heap.size) (h1 : w.cell? ⟨b1, 0, none⟩ = some (.slice la n lc)) (h2 : w.cell? ⟨b2, 0, none⟩ = some (.int .i64 near)) (hl : IL w la n F) :
    Calls Tryd.prog 104 #[.slice a k c, .func (.func 141) #[] #[.pointer (some ⟨b1, 0, none⟩), .pointer (some ⟨b2, 0, none⟩)]] w fun e w' => e = .returned (.bool (smB (fun j => decide (near < F j)) G k)) ∧ Below w.heap.size w w' := by
  have kI := idxFar a k c G la n lc F near b1 b2 w hk ha hG l1 l2 h1 h2 hl
  generalize smB (fun j => decide (near < F j)) G k = B at *
  clear hG
  go_enter Tryd.func104, Tryd.ntmps104
  go_wp2_with fail
  refine kI.mono ?_
  rintro e w2 ⟨⟨z, rfl, hz⟩, hb2⟩
  clear kI
  subst hz
  go_wp2
  go_ret
  exact ⟨rfl, hb2⟩

theorem bx_c3 {w : World} {b : Nat} {s t u v : Value} {l : List Value} (h : Bx w b (s :: t :: u :: v :: l)) : w.cell? ⟨b, 3, none⟩ = some v := h.c 3 (by simp)
theorem bx_c4 {w : World} {b : Nat} {r s t u v : Value} {l : List Value} (h : Bx w b (r :: s :: t :: u :: v :: l)) : w.cell? ⟨b, 4, none⟩ = some v := h.c 4 (by simp)
theorem bx_c5 {w : World} {b : Nat} {q r s t u v : Value} {l : List Value} (h : Bx w b (q :: r :: s :: t :: u :: v :: l)) : w.cell? ⟨b, 5, none⟩ = some v := h.c 5 (by simp)
/-- a contest as a value -/
abbrev ctL (a : Option Addr) (n c : Nat) (b : Option Addr) (m d : Nat) (x : Option Addr) (p q : Nat) (ka : Option Addr) (kc : Nat) (z : Int) (sd : Bool) : List Value := [.slice a n c, .slice b m d, .slice x p q, .slice ka n kc, .int .i64 z, .bool sd]
abbrev ctv (a : Option Addr) (n c : Nat) (b : Option Addr) (m d : Nat) (x : Option Addr) (p q : Nat) (ka : Option Addr) (kc : Nat) (z : Int) (sd : Bool) : Value := .agg #[.slice a n c, .slice b m d, .slice x p q, .slice ka n kc, .int .i64 z, .bool sd]
abbrev ctO (a : Option Addr) (n c : Nat) (b : Option Addr) (m d : Nat) (x : Option Addr) (p q : Nat) (ka : Option Addr) (kc : Nat) (z : Int) (sd : Bool) : Obj := .cells #[.slice a n c, .slice b m d, .slice x p q, .slice ka n kc, .int .i64 z, .bool sd] 135
set_option maxRecDepth 20000 in
set_option maxHeartbeats 4000000 in
theorem iComes (a : Option Addr) (n c : Nat) (b : Option Addr) (d : Nat) (x : Option Addr) (q : Nat) (f : Nat → ByteArray) (g : Nat → Bool) (K : Nat → Nat) (R : Nat → Nat → Int) (ka : Option Addr) (kc : Nat) (z : Int) (sd : Bool) (near : Int) (pt : Nat) (la : Option Addr) (lc : Nat) (F : Nat → Int) (w : World) (hK : ∀ i, i < n → K i ≤ 1048576) (hR : OnB n K R) (hpt : pt < n) (h : BD w a n f b n g x n K R) (hl : IL w la n F) :
    Calls Tryd.prog 131 #[ctv a n c b n d x n q ka kc z sd, .int .i64 near, .int .i64 (pt : Int), .slice la n lc] w fun e w' => e = .returned (.bool (stp g K R sd (fun j => decide (F j ≤ near)) pt)) ∧ Below w.heap.size w w' := by
  have hb1 : Below w.heap.size w (w.alloc (ctO a n c b n d x n q ka kc z sd)) := (Below.refl _ _).alloc (Nat.le_refl _) _
  have hb2 : Below w.heap.size w ((w.alloc (ctO a n c b n d x n q ka kc z sd)).alloc (.cells #[.int .i64 near] 3)) := hb1.alloc (by simp) _
  have hb3 : Below w.heap.size w (((w.alloc (ctO a n c b n d x n q ka kc z sd)).alloc (.cells #[.int .i64 near] 3)).alloc (.cells #[.slice la n lc] 41)) := hb2.alloc (by simp only [size_al]; omega) _
  have bC := ((bx_new (w := w) (ctL a n c b n d x n q ka kc z sd) 135 rfl).alloc (.cells #[.int .i64 near] 3)).alloc (.cells #[.slice la n lc] 41)
  have bN := (bx_new (w := w.alloc (ctO a n c b n d x n q ka kc z sd)) (b := w.heap.size + 1) [.int .i64 near] 3 (by simp)).alloc (.cells #[.slice la n lc] 41)
  have bL := (bx_new (w := (w.alloc (ctO a n c b n d x n q ka kc z sd)).alloc (.cells #[.int .i64 near] 3)) (b := w.heap.size + 2) [.slice la n lc] 41 (by simp))
  have hsz : (((w.alloc (ctO a n c b n d x n q ka kc z sd)).alloc (.cells #[.int .i64 near] 3)).alloc (.cells #[.slice la n lc] 41)).heap.size = w.heap.size + 3 := by simp
  have HV : Hid (stp g K R sd (fun j => decide (F j ≤ near)) pt = if (g pt == sd) = true then smB (fun j => decide (F j ≤ near)) (R pt) (K pt) else (decide (K pt ≠ 0) && alB (fun j => decide (F j ≤ near)) (R pt) (K pt))) := (rfl : stp g K R sd (fun j => decide (F j ≤ near)) pt = _)
  obtain ⟨A, C, hA⟩ := h.nx
  have hRp := hR pt hpt
  have hKp := hK pt hpt
  have x1 := bC.c1
  have x2 := bC.c2
  have x5 := bx_c5 bC
  have n0 := bN.c0
  have m0 := bL.c0
  have p0 : (0 : Int) ≤ (pt : Int) := by omega
  have p1 : (pt : Int) < (n : Int) := by omega
  obtain ⟨xb, xo, rfl, xl, hc1⟩ := (hA.below hb3).out (by omega)
  have y1 := hc1 pt hpt
  have hrow := (hA.below hb3).row pt hpt
  obtain ⟨mb, mo, rfl, ml, hc2⟩ := (h.mi.below hb3) (by omega)
  have y2 := hc2 pt hpt
  have hl3 := hl.below hb3
  have kN := fun w2 c g1 g2 g3 g4 g5 g6 => conNear (A pt) (K pt) c (R pt) la n lc F near (w.heap.size + 2) (w.heap.size + 1) w2 hKp g1 hRp g2 g3 g4 g5 g6
  have kF := fun w2 c g1 g2 g3 g4 g5 g6 => conFar (A pt) (K pt) c (R pt) la n lc F near (w.heap.size + 2) (w.heap.size + 1) w2 hKp g1 hRp g2 g3 g4 g5 g6
  have HA : Hid (alB (fun j => decide (F j ≤ near)) (R pt) (K pt) = !(smB (fun j => decide (near < F j)) (R pt) (K pt))) := al_sm _ _ _ _ fun j => by
    by_cases e : F j ≤ near
    · rw [decide_eq_true e, decide_eq_false (by omega)]; rfl
    · rw [decide_eq_false e, decide_eq_true (by omega)]; rfl
  rw [HA.out] at HV
  clear hc1 hc2 h hA hK hR hl hRp HA bC hb1 hb2
  generalize smB (fun j => decide (F j ≤ near)) (R pt) (K pt) = S1 at *
  generalize smB (fun j => decide (near < F j)) (R pt) (K pt) = S2 at *
  generalize stp g K R sd (fun j => decide (F j ≤ near)) pt = V at *
  generalize R pt = G at *
  generalize K pt = M at *
  generalize A pt = Z at *
  generalize C pt = Y at *
  generalize g pt = gp at *
  go_enter Tryd.func131, Tryd.ntmps131
  go_wp2_with fail
  obtain ⟨w8, hw8⟩ : ∃ w8, w8 = ((w.alloc (ctO a n c (some ⟨mb, mo, none⟩) n d (some ⟨xb, xo, none⟩) n q ka kc z sd)).alloc (.cells #[.int .i64 near] 3)).alloc (.cells #[.slice la n lc] 41) := ⟨_, rfl⟩
  rw [← hw8] at hb3 x1 x2 x5 n0 m0 y1 y2 xl ml hrow bN bL hl3 hsz ⊢
  clear hw8
  go_quiet (fail)
  have hb9 : Below w8.heap.size w8 (w8.drewN nq) := below_dr (Below.refl _ _) nq
  have hB9 := stepA hb3 hb9
  have n9 := (bN.on hb9).c0
  have m9 := (bL.on hb9).c0
  have r9 := hrow.below hb9
  have l9 := hl3.below hb9
  have s9 : w8.heap.size = (w8.drewN nq).heap.size := rfl
  have s10 : w.heap.size + 2 < (w8.drewN nq).heap.size := by omega
  have s11 : w.heap.size + 1 < (w8.drewN nq).heap.size := by omega
  clear x1 x2 x5 n0 m0 y1 y2 bN bL hrow hl3 hb9 hb3 s9
  generalize w8.drewN nq = w9 at *
  cases hg : (gp == sd) with
  | true =>
    have hv : V = S1 := by rw [HV.out, if_pos hg]
    subst hv
    clear kF HV
    go_wp2_with fail
    refine (kN _ _ r9 s10 s11 m9 n9 l9).mono ?_
    rintro e w10 ⟨rfl, hb10⟩
    have hB10 := stepA hB9 hb10
    go_wp2
    go_ret
    exact ⟨rfl, hB10⟩
  | false =>
    have hv : V = (decide (M ≠ 0) && !S2) := by rw [HV.out, if_neg (by rw [hg]; simp)]
    clear kN HV
    by_cases hM : M = 0
    · have j : ¬ (0 : Int) < (M : Int) := by omega
      have hv2 : V = false := by rw [hv, decide_eq_false (by omega)]; rfl
      subst hv2
      clear hv kF
      go_wp2
      go_ret
      exact ⟨rfl, hB9⟩
    · have j : (0 : Int) < (M : Int) := by omega
      have hv2 : V = !S2 := by rw [hv, decide_eq_true hM]; rfl
      subst hv2
      clear hv
      go_wp2_with fail
      refine (kF _ _ r9 s10 s11 m9 n9 l9).mono ?_
      rintro e w10 ⟨rfl, hb10⟩
      have hB10 := stepA hB9 hb10
      go_wp2
      go_ret
      exact ⟨by simp, hB10⟩
end Go.Proofs.YtapodfkoknmhdaaDoor
