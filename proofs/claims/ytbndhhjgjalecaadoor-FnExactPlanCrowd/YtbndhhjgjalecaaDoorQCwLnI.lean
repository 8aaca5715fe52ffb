/- The least cell to go to, as the program tells it. -/
import Derived.Test.YtbndhhjgjalecaaDoorQCwDfI
import Derived.BigQuiet
import Derived.Deep.Cut
namespace Go.Proofs.YtbndhhjgjalecaaDoor
open Go.RowKit

/-- is a cell one to go to -/
def opB (R : Nat → Nat → Int) (T J tk p : Nat) (Dk : Nat → Int) (e q : Int) : Bool := decide (Dk q.toNat = e) && !swB R T J tk (p : Int) q
set_option maxRecDepth 20000 in
set_option maxHeartbeats 2000000 in
theorem open_any (W H : Int) (a : Option Addr) (n c : Nat) (R : Nat → Nat → Int) (J Mb cnt : Nat) (t : Int) (Db T : Nat) (B : Nat → Nat) (D : Nat → Nat → Int) (tk p q : Nat) (e : Int) (ob tb db ab : Nat) (w : World) (hT2 : T ≤ 1000) (hn : n ≤ 256)
    (hbo : Bx w ob (olL W H a n c Mb t Db (T + 2))) (hbt : Bx w tb [.int .i64 (tk : Int)]) (hbd : Bx w db [.int .i64 e]) (hba : Bx w ab [.int .i64 (p : Int)]) (hm : MS w Mb cnt (mR R T J)) (hD : Dt w Db T n B D tk) (hk : tk ≤ T) (hp : p < n) (hq : q < n) :
    Calls Tryd.prog 86 #[.int .i64 (q : Int), .pointer (some ⟨ob, 0, none⟩), .pointer (some ⟨tb, 0, none⟩), .pointer (some ⟨db, 0, none⟩), .pointer (some ⟨ab, 0, none⟩)] w fun r w' => r = .returned (.bool (opB R T J tk p (D tk) e (q : Int))) ∧ Below w.heap.size w w' := by
  have x3 := hbo.c3
  have x5 := hbo.c5
  have y0 := hbt.c0
  have y1 := hbd.c0
  have y2 := hba.c0
  have z0 := hD.cell tk (Nat.le_refl _) (by omega)
  have z1 := (hD.row tk (Nat.le_refl _) (by omega)).c q hq
  have i0 : (0 : Int) ≤ (tk : Int) := by omega
  have i1 : (tk : Int) < ((T + 2 : Nat) : Int) := by omega
  have i2 : (0 : Int) ≤ (q : Int) := by omega
  have i3 : (q : Int) < (n : Int) := by omega
  have hop : opB R T J tk p (D tk) e (q : Int) = ((D tk q == e) && !swB R T J tk (p : Int) (q : Int)) := by
    unfold opB; rw [Int.toNat_natCast]
    by_cases h : D tk q = e <;> simp [h]
  rw [hop]
  have kS := fun m => swap_any Mb cnt R T J tk (p : Int) (q : Int) (w.drewN m) (MI.on hm (below_dr (Below.refl w.heap.size w) m)) (by omega) ⟨by omega, by omega⟩ ⟨by omega, by omega⟩
  generalize hL : T + 2 = L at *
  generalize swB R T J tk (p : Int) (q : Int) = sw at *
  generalize D tk q = dq at *
  clear hL hop hbo hbt hbd hba hD hm
  cases r : (dq == e) with
  | true =>
    rw [Bool.true_and]
    go_enter Tryd.func86, Tryd.ntmps86
    go_upto_region 1 with fail
    go_quiet ((go_at_call 85; exact Calls.quiet_of_same (kS _)))
    go_wp2
    go_ret
    exact ⟨rfl, below_dr (Below.refl _ _) _⟩
  | false =>
    rw [Bool.false_and]
    clear kS
    go_enter Tryd.func86, Tryd.ntmps86
    go_upto_region 1 with fail
    go_quiet (fail)
    go_wp2
    go_ret
    exact ⟨rfl, below_dr (Below.refl _ _) _⟩
/-- what IndexFunc tells of the first that is so -/
def IdxN (l : List Int) (pr : Int → Bool) (r : Ending) : Prop := ∃ d : Int, r = .returned (.int .i64 d) ∧ ((∃ k : Nat, d = (k : Int) ∧ k < l.length ∧ l.find? pr = some (gl l k)) ∨ l.find? pr = none)
theorem find_first {l : List Int} {pr : Int → Bool} {k : Nat} (hk : k < l.length) (h1 : pr (gl l k) = true) (h2 : ∀ j, j < k → pr (gl l j) = false) : l.find? pr = some (gl l k) := by
  induction l generalizing k with
  | nil => simp at hk
  | cons x l ih =>
    cases k with
    | zero =>
      have : pr x = true := h1
      rw [List.find?_cons, this]; rfl
    | succ k =>
      have hx : pr x = false := h2 0 (by omega)
      rw [List.find?_cons, hx]
      exact ih (k := k) (by simpa using hk) h1 (fun j hj => h2 (j + 1) (by omega))
theorem find_no {l : List Int} {pr : Int → Bool} (h : ∀ j, j < l.length → pr (gl l j) = false) : l.find? pr = none := by
  rw [List.find?_eq_none]
  intro x hx
  obtain ⟨j, hj, e⟩ := mem_gl.1 hx
  rw [← e, h j hj]; simp
set_option maxRecDepth 20000 in
set_option maxHeartbeats 2000000 in
theorem leastNext_any (W : Int) (a : Option Addr) (n c : Nat) (f : Nat → Int) (R : Nat → Nat → Int) (J Mb cnt : Nat) (t : Int) (Db T : Nat) (B : Nat → Nat) (D : Nat → Nat → Int) (tk p : Nat) (e x : Int) (w : World) (hs : sizedB W n = true) (hf : IL w a n f) (hT : Tab w) (hT2 : T ≤ 1000) (hm : MS w Mb cnt (mR R T J)) (hD : Dt w Db T n B D 0) (hk : tk ≤ T) (hp : p < n)
    (hx : (nbL W n f p).find? (opB R T J tk p (D tk) e) = some x) :
    Calls Tryd.prog 66 #[olv W (hgt W n) a n c Mb t Db (T + 2), .int .i64 (tk : Int), .int .i64 (p : Int), .int .i64 e] w fun r w' => r = .returned (.int .i64 x) ∧ Below w.heap.size w w' := by
  have hn := sized_le hs
  have kL := fun w hf hT => later_any W a n c f p w hf hs hp hT
  have HX : Hid ((nbL W n f p).find? (opB R T J tk p (D tk) e) = some x) := hx
  have HGet : Hid (∀ j, j < (nbL W n f p).length → ∃ q : Nat, gl (nbL W n f p) j = (q : Int) ∧ q < n) := fun j hj => by
    obtain ⟨q, h1, h2⟩ := nbL_get hj
    exact ⟨q, h1, h2.lt hs hp⟩
  have hlen := nbL_len W n f p
  clear hx
  generalize nbL W n f p = l at *
  obtain ⟨H, eH⟩ : ∃ H, hgt W n = H := ⟨_, rfl⟩
  rw [eH] at kL ⊢
  clear eH
  have b0 := (((bx_new (w := w) (olL W H a n c Mb t Db (T + 2)) 75 rfl).alloc (.cells #[.int .i64 (tk : Int)] 3)).alloc (.cells #[.int .i64 (p : Int)] 3)).alloc (.cells #[.int .i64 e] 3)
  have b1 := ((bx_new (w := w.alloc (.cells (olL W H a n c Mb t Db (T + 2)).toArray 75)) (b := w.heap.size + 1) [.int .i64 (tk : Int)] 3 (by simp)).alloc (.cells #[.int .i64 (p : Int)] 3)).alloc (.cells #[.int .i64 e] 3)
  have b2 := (bx_new (w := (w.alloc (.cells (olL W H a n c Mb t Db (T + 2)).toArray 75)).alloc (.cells #[.int .i64 (tk : Int)] 3)) (b := w.heap.size + 1 + 1) [.int .i64 (p : Int)] 3 (by simp)).alloc (.cells #[.int .i64 e] 3)
  have b3 := bx_new (w := ((w.alloc (.cells (olL W H a n c Mb t Db (T + 2)).toArray 75)).alloc (.cells #[.int .i64 (tk : Int)] 3)).alloc (.cells #[.int .i64 (p : Int)] 3)) (b := w.heap.size + 1 + 1 + 1) [.int .i64 e] 3 (by simp)
  have hb4 : Below w.heap.size w ((((w.alloc (.cells (olL W H a n c Mb t Db (T + 2)).toArray 75)).alloc (.cells #[.int .i64 (tk : Int)] 3)).alloc (.cells #[.int .i64 (p : Int)] 3)).alloc (.cells #[.int .i64 e] 3)) := ((((Below.refl w.heap.size w).alloc (Nat.le_refl _) _).alloc (by simp) _).alloc (by simp <;> omega) _).alloc (by simp <;> omega) _
  have x0 := b0.c0
  have x1 := b0.c1
  have x2 := b0.c2
  have y0 := b2.c0
  have HT2 : Hid (T ≤ 1000) := hT2
  obtain ⟨L, hL⟩ : ∃ L, T + 2 = L := ⟨_, rfl⟩
  have HL : Hid (T + 2 = L) := hL
  rw [hL] at b0 b1 b2 b3 hb4 x0 x1 x2 y0 ⊢
  clear hL
  go_enter Tryd.func66, Tryd.ntmps66
  go_wp2_with fail
  clear x0 x1 x2 y0
  generalize (((w.alloc (.cells (olL W H a n c Mb t Db L).toArray 75)).alloc (.cells #[.int .i64 (tk : Int)] 3)).alloc (.cells #[.int .i64 (p : Int)] 3)).alloc (.cells #[.int .i64 e] 3) = w4 at *
  refine (kL w4 (hf.below hb4) (hT.on hb4)).mono ?_
  rintro r w5 ⟨⟨a5, c5, rfl, hL5⟩, hb5⟩
  have hB5 := stepA hb4 hb5
  have d0 := b0.on hb5
  have d1 := b1.on hb5
  have d2 := b2.on hb5
  have d3 := b3.on hb5
  have hD5 := hD.on hB5
  have hm5 : MS w5 Mb cnt (mR R T J) := MI.on hm hB5
  rw [← HL.out] at d0
  have kI : Calls Tryd.prog 87 #[.slice a5 l.length c5, .func (.func 86) #[] #[.pointer (some ⟨w.heap.size, 0, none⟩), .pointer (some ⟨w.heap.size + 1, 0, none⟩), .pointer (some ⟨w.heap.size + 1 + 1 + 1, 0, none⟩), .pointer (some ⟨w.heap.size + 1 + 1, 0, none⟩)]] w5 fun r w' => IdxN l (opB R T J tk p (D tk) e) r ∧ Below w5.heap.size w5 w' := by
    have HK : Hid (∀ (q : Nat) (wr : World), q < n → Below w5.heap.size w5 wr → Calls Tryd.prog 86 #[.int .i64 (q : Int), .pointer (some ⟨w.heap.size, 0, none⟩), .pointer (some ⟨w.heap.size + 1, 0, none⟩), .pointer (some ⟨w.heap.size + 1 + 1 + 1, 0, none⟩), .pointer (some ⟨w.heap.size + 1 + 1, 0, none⟩)] wr fun r w' => r = .returned (.bool (opB R T J tk p (D tk) e (q : Int))) ∧ Below wr.heap.size wr w') := fun q wr hq hB =>
      open_any W H a n c R J Mb cnt t Db T B D tk p q e w.heap.size (w.heap.size + 1) (w.heap.size + 1 + 1 + 1) (w.heap.size + 1 + 1) wr hT2 hn.2 (d0.on hB) (d1.on hB) (d3.on hB) (d2.on hB) (MI.on hm5 hB) ⟨fun k h1 h2 => (hD5.on hB).cell k (by omega) h2, fun k h1 h2 => (hD5.on hB).row k (by omega) h2, (hD5.on hB).lt⟩ hk hp hq
    have HL5 : Hid (LQ w5 w4.heap.size w5.heap.size a5 l.length (gl l)) := hL5
    generalize opB R T J tk p (D tk) e = pr at *
    clear d0 d1 d2 d3 hD5 hm5 b0 b1 b2 b3 hD hm hb5 hL5 HX
    go_enter Tryd.func87, Tryd.ntmps87
    go_wp2
    go_loopw [8] (fun i wr => ∃ k : Nat, k ≤ l.length ∧ i = .int .i64 (k : Int) ∧ (∀ j, j < k → pr (gl l j) = false) ∧ Below w5.heap.size w5 wr) (fun i _ => l.length - (intOf i).toNat)
    case atStart => exact ⟨0, Nat.zero_le _, rfl, fun j hj => absurd hj (Nat.not_lt_zero _), Below.refl _ _⟩
    case round =>
      obtain ⟨k, hk', rfl, hF, hB⟩ := hrel
      have HF : Hid (∀ j, j < k → pr (gl l j) = false) := hF
      clear hF
      by_cases hlt : k < l.length
      · obtain ⟨q, hq, hqn⟩ := HGet.out k hlt
        obtain ⟨lb, rfl, -, -, hIP⟩ := (HL5.out.on hB) (by omega)
        have y0 := hIP.c k hlt
        rw [hq] at y0
        have j0 : (0 : Int) ≤ (k : Int) := by omega
        have j1 : (k : Int) < (l.length : Int) := by omega
        have kO := HK.out q wr hqn hB
        have HY : Hid (pr (q : Int) = true → IdxN l pr (.returned (.int .i64 (k : Int)))) := fun h => ⟨(k : Int), rfl, .inl ⟨k, rfl, hlt, find_first hlt (by rw [hq]; exact h) HF.out⟩⟩
        have HN : Hid (pr (q : Int) = false → ∀ j, j < k + 1 → pr (gl l j) = false) := fun h j hj => by
          by_cases e2 : j = k
          · subst e2; rw [hq]; exact h
          · exact HF.out j (by omega)
        clear hIP
        generalize pr (q : Int) = pq at *
        cases pq with
        | true =>
          have HR : Hid (IdxN l pr (.returned (.int .i64 (k : Int)))) := HY.out rfl
          clear HY HN
          go_wp2_with (first | (go_at_call 86; refine kO.mono ?_; rintro r w9 ⟨rfl, hb9⟩) | fail)
          go_ret
          exact ⟨HR.out, stepA hB hb9⟩
        | false =>
          have HR : Hid (∀ j, j < k + 1 → pr (gl l j) = false) := HN.out rfl
          clear HY HN
          go_wp2_with (first | (go_at_call 86; refine kO.mono ?_; rintro r w9 ⟨rfl, hb9⟩) | fail)
          exact ⟨⟨k + 1, by omega, by go_num, HR.out, stepA hB hb9⟩, by simp [intOf]; omega⟩
      · have hke : k = l.length := by omega
        subst hke
        have HR : Hid (IdxN l pr (.returned (.int .i64 (-1)))) := ⟨-1, rfl, .inr (find_no HF.out)⟩
        clear HF
        go_wp2
        go_ret
        exact ⟨HR.out, hB⟩
  have HL5 : Hid (LQ w5 w4.heap.size w5.heap.size a5 l.length (gl l)) := hL5
  clear d0 d1 d2 d3 b0 b1 b2 b3 hD5 hm5 hL5 kL hb5
  go_wp2_with fail
  refine kI.mono ?_
  rintro r w6 ⟨⟨d, rfl, hd⟩, hb6⟩
  have hB6 := stepA hB5 hb6
  obtain ⟨k, hdk, hkl, hfk⟩ : ∃ k : Nat, d = (k : Int) ∧ k < l.length ∧ gl l k = x := by
    rcases hd with ⟨k, h1, h2, h3⟩ | h
    · rw [HX.out] at h3
      exact ⟨k, h1, h2, (Option.some.inj h3).symm⟩
    · rw [HX.out] at h; cases h
  subst hdk
  obtain ⟨lb, rfl, -, -, hIP⟩ := (HL5.out.on hb6) (by omega)
  have y0 := hIP.c k hkl
  rw [hfk] at y0
  have j0 : (0 : Int) ≤ (k : Int) := by omega
  have j1 : (k : Int) < (l.length : Int) := by omega
  clear hIP kI hd hb6 hfk
  go_wp2
  go_ret
  exact ⟨rfl, hB6⟩
end Go.Proofs.YtbndhhjgjalecaaDoor
