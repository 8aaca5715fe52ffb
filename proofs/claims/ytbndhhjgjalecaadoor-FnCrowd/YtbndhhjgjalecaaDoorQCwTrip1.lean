/- The least cell to go to, as the program tells it. -/
import Derived.Test.YtbndhhjgjalecaaDoorQCwDfI
import Derived.BigQuiet
import Derived.Deep.Cut
import Derived.Test.YtbndhhjgjalecaaDoorQClVal
namespace Go.Proofs.YtbndhhjgjalecaaDoor
open Go.RowKit

/-- is a cell one to go to -/
def opB (R : Nat → Nat → Int) (T J tk p : Nat) (Dk : Nat → Int) (e q : Int) : Bool := decide (Dk q.toNat = e) && !swB R T J tk (p : Int) q
set_option maxRecDepth 20000 in
set_option maxHeartbeats 2000000 in
theorem open_any (W H : Int) (a : Option Addr) (n c : Nat) (R : Nat → Nat → Int) (J Mb cnt : Nat) (t : Int) (Db T : Nat) (B : Nat → Nat) (D : Nat → Nat → Int) (tk p q : Nat) (e : Int) (ob tb db ab : Nat) (w : World) (hT2 : T ≤ 1000) (hn : n ≤ 256)
    (hbo : Bx w ob (olL W H a n c Mb t Db (T + 2))) (hbt : Bx w tb [.int .i64 (tk : Int)]) (hbd : Bx w db [.int .i64 e]) (hba : Bx w ab [.int .i64 (p : Int)]) (hm : MS w Mb cnt (mR R T J)) (hD : Dt w Db T n B D tk) (hk : tk ≤ T) (hp : p < n) (hq : q < n) :
    Calls Tryd.prog 86 #[.int .i64 (q : Int), .pointer (some ⟨ob, 0, none⟩), .pointer (some ⟨tb, 0, none⟩), .pointer (some ⟨db, 0, none⟩), .pointer (some ⟨ab, 0, none⟩)] w fun r w' => r = .returned (.bool (opB R T J tk p (D tk) e (q : Int))) ∧ Below w.heap.size w w' := by
  have x3 := hbo.c3
  have x5 := hbo.c5
  have y0 := hbt.c0
  have y1 := hbd.c0
  have y2 := hba.c0
  have z0 := hD.cell tk (Nat.le_refl _) (by omega)
  have z1 := (hD.row tk (Nat.le_refl _) (by omega)).c q hq
  have i0 : (0 : Int) ≤ (tk : Int) := by omega
  have i1 : (tk : Int) < ((T + 2 : Nat) : Int) := by omega
  have i2 : (0 : Int) ≤ (q : Int) := by omega
  have i3 : (q : Int) < (n : Int) := by omega
  have hop : opB R T J tk p (D tk) e (q : Int) = ((D tk q == e) && !swB R T J tk (p : Int) (q : Int)) := by
    unfold opB; rw [Int.toNat_natCast]
    by_cases h : D tk q = e <;> simp [h]
  rw [hop]
  have kS := fun m => swap_any Mb cnt R T J tk (p : Int) (q : Int) (w.drewN m) (MI.on hm (below_dr (Below.refl w.heap.size w) m)) (by omega) ⟨by omega, by omega⟩ ⟨by omega, by omega⟩
  generalize hL : T + 2 = L at *
  generalize swB R T J tk (p : Int) (q : Int) = sw at *
  generalize D tk q = dq at *
  clear hL hop hbo hbt hbd hba hD hm
  cases r : (dq == e) with
  | true =>
    rw [Bool.true_and]
    go_enter Tryd.func86, Tryd.ntmps86
    go_upto_region 1 with fail
    go_quiet ((go_at_call 85; exact Calls.quiet_of_same (kS _)))
    go_wp2
    go_ret
    exact ⟨rfl, below_dr (Below.refl _ _) _⟩
  | false =>
    rw [Bool.false_and]
    clear kS
    go_enter Tryd.func86, Tryd.ntmps86
    go_upto_region 1 with fail
    go_quiet (fail)
    go_wp2
    go_ret
    exact ⟨rfl, below_dr (Below.refl _ _) _⟩
/-- what IndexFunc tells of the first that is so -/
def IdxN (l : List Int) (pr : Int → Bool) (r : Ending) : Prop := ∃ d : Int, r = .returned (.int .i64 d) ∧ ((∃ k : Nat, d = (k : Int) ∧ k < l.length ∧ l.find? pr = some (gl l k)) ∨ l.find? pr = none)
theorem find_first {l : List Int} {pr : Int → Bool} {k : Nat} (hk : k < l.length) (h1 : pr (gl l k) = true) (h2 : ∀ j, j < k → pr (gl l j) = false) : l.find? pr = some (gl l k) := by
  induction l generalizing k with
  | nil => simp at hk
  | cons x l ih =>
    cases k with
    | zero =>
      have : pr x = true := h1
      rw [List.find?_cons, this]; rfl
    | succ k =>
      have hx : pr x = false := h2 0 (by omega)
      rw [List.find?_cons, hx]
      exact ih (k := k) (by simpa using hk) h1 (fun j hj => h2 (j + 1) (by omega))
theorem find_no {l : List Int} {pr : Int → Bool} (h : ∀ j, j < l.length → pr (gl l j) = false) : l.find? pr = none := by
  rw [List.find?_eq_none]
  intro x hx
  obtain ⟨j, hj, e⟩ := mem_gl.1 hx
  rw [← e, h j hj]; simp
set_option maxRecDepth 20000 in
set_option maxHeartbeats 2000000 in
theorem leastNext_any (W : Int) (a : Option Addr) (n c : Nat) (f : Nat → Int) (R : Nat → Nat → Int) (J Mb cnt : Nat) (t : Int) (Db T : Nat) (B : Nat → Nat) (D : Nat → Nat → Int) (tk p : Nat) (e x : Int) (w : World) (hs : sizedB W n = true) (hf : IL w a n f) (hT : Tab w) (hT2 : T ≤ 1000) (hm : MS w Mb cnt (mR R T J)) (hD : Dt w Db T n B D 0) (hk : tk ≤ T) (hp : p < n)
    (hx : (nbL W n f p).find? (opB R T J tk p (D tk) e) = some x) :
    Calls Tryd.prog 66 #[olv W (hgt W n) a n c Mb t Db (T + 2), .int .i64 (tk : Int), .int .i64 (p : Int), .int .i64 e] w fun r w' => r = .returned (.int .i64 x) ∧ Below w.heap.size w w' := by
  have hn := sized_le hs
  have kL := fun w hf hT => later_any W a n c f p w hf hs hp hT
  have HX : Hid ((nbL W n f p).find? (opB R T J tk p (D tk) e) = some x) := hx
  have HGet : Hid (∀ j, j < (nbL W n f p).length → ∃ q : Nat, gl (nbL W n f p) j = (q : Int) ∧ q < n) := fun j hj => by
    obtain ⟨q, h1, h2⟩ := nbL_get hj
    exact ⟨q, h1, h2.lt hs hp⟩
  have hlen := nbL_len W n f p
  clear hx
  generalize nbL W n f p = l at *
  obtain ⟨H, eH⟩ : ∃ H, hgt W n = H := ⟨_, rfl⟩
  rw [eH] at kL ⊢
  clear eH
  have b0 := (((bx_new (w := w) (olL W H a n c Mb t Db (T + 2)) 75 rfl).alloc (.cells #[.int .i64 (tk : Int)] 3)).alloc (.cells #[.int .i64 (p : Int)] 3)).alloc (.cells #[.int .i64 e] 3)
  have b1 := ((bx_new (w := w.alloc (.cells (olL W H a n c Mb t Db (T + 2)).toArray 75)) (b := w.heap.size + 1) [.int .i64 (tk : Int)] 3 (by simp)).alloc (.cells #[.int .i64 (p : Int)] 3)).alloc (.cells #[.int .i64 e] 3)
  have b2 := (bx_new (w := (w.alloc (.cells (olL W H a n c Mb t Db (T + 2)).toArray 75)).alloc (.cells #[.int .i64 (tk : Int)] 3)) (b := w.heap.size + 1 + 1) [.int .i64 (p : Int)] 3 (by simp)).alloc (.cells #[.int .i64 e] 3)
  have b3 := bx_new (w := ((w.alloc (.cells (olL W H a n c Mb t Db (T + 2)).toArray 75)).alloc (.cells #[.int .i64 (tk : Int)] 3)).alloc (.cells #[.int .i64 (p : Int)] 3)) (b := w.heap.size + 1 + 1 + 1) [.int .i64 e] 3 (by simp)
  have hb4 : Below w.heap.size w ((((w.alloc (.cells (olL W H a n c Mb t Db (T + 2)).toArray 75)).alloc (.cells #[.int .i64 (tk : Int)] 3)).alloc (.cells #[.int .i64 (p : Int)] 3)).alloc (.cells #[.int .i64 e] 3)) := ((((Below.refl w.heap.size w).alloc (Nat.le_refl _) _).alloc (by simp) _).alloc (by simp <;> omega) _).alloc (by simp <;> omega) _
  have x0 := b0.c0
  have x1 := b0.c1
  have x2 := b0.c2
  have y0 := b2.c0
  have HT2 : Hid (T ≤ 1000) := hT2
  obtain ⟨L, hL⟩ : ∃ L, T + 2 = L := ⟨_, rfl⟩
  have HL : Hid (T + 2 = L) := hL
  rw [hL] at b0 b1 b2 b3 hb4 x0 x1 x2 y0 ⊢
  clear hL
  go_enter Tryd.func66, Tryd.ntmps66
  go_wp2_with fail
  clear x0 x1 x2 y0
  generalize (((w.alloc (.cells (olL W H a n c Mb t Db L).toArray 75)).alloc (.cells #[.int .i64 (tk : Int)] 3)).alloc (.cells #[.int .i64 (p : Int)] 3)).alloc (.cells #[.int .i64 e] 3) = w4 at *
  refine (kL w4 (hf.below hb4) (hT.on hb4)).mono ?_
  rintro r w5 ⟨⟨a5, c5, rfl, hL5⟩, hb5⟩
  have hB5 := stepA hb4 hb5
  have d0 := b0.on hb5
  have d1 := b1.on hb5
  have d2 := b2.on hb5
  have d3 := b3.on hb5
  have hD5 := hD.on hB5
  have hm5 : MS w5 Mb cnt (mR R T J) := MI.on hm hB5
  rw [← HL.out] at d0
  have kI : Calls Tryd.prog 87 #[.slice a5 l.length c5, .func (.func 86) #[] #[.pointer (some ⟨w.heap.size, 0, none⟩), .pointer (some ⟨w.heap.size + 1, 0, none⟩), .pointer (some ⟨w.heap.size + 1 + 1 + 1, 0, none⟩), .pointer (some ⟨w.heap.size + 1 + 1, 0, none⟩)]] w5 fun r w' => IdxN l (opB R T J tk p (D tk) e) r ∧ Below w5.heap.size w5 w' := by
    have HK : Hid (∀ (q : Nat) (wr : World), q < n → Below w5.heap.size w5 wr → Calls Tryd.prog 86 #[.int .i64 (q : Int), .pointer (some ⟨w.heap.size, 0, none⟩), .pointer (some ⟨w.heap.size + 1, 0, none⟩), .pointer (some ⟨w.heap.size + 1 + 1 + 1, 0, none⟩), .pointer (some ⟨w.heap.size + 1 + 1, 0, none⟩)] wr fun r w' => r = .returned (.bool (opB R T J tk p (D tk) e (q : Int))) ∧ Below wr.heap.size wr w') := fun q wr hq hB =>
      open_any W H a n c R J Mb cnt t Db T B D tk p q e w.heap.size (w.heap.size + 1) (w.heap.size + 1 + 1 + 1) (w.heap.size + 1 + 1) wr hT2 hn.2 (d0.on hB) (d1.on hB) (d3.on hB) (d2.on hB) (MI.on hm5 hB) ⟨fun k h1 h2 => (hD5.on hB).cell k (by omega) h2, fun k h1 h2 => (hD5.on hB).row k (by omega) h2, (hD5.on hB).lt⟩ hk hp hq
    have HL5 : Hid (LQ w5 w4.heap.size w5.heap.size a5 l.length (gl l)) := hL5
    generalize opB R T J tk p (D tk) e = pr at *
    clear d0 d1 d2 d3 hD5 hm5 b0 b1 b2 b3 hD hm hb5 hL5 HX
    go_enter Tryd.func87, Tryd.ntmps87
    go_wp2
    go_loopw [8] (fun i wr => ∃ k : Nat, k ≤ l.length ∧ i = .int .i64 (k : Int) ∧ (∀ j, j < k → pr (gl l j) = false) ∧ Below w5.heap.size w5 wr) (fun i _ => l.length - (intOf i).toNat)
    case atStart => exact ⟨0, Nat.zero_le _, rfl, fun j hj => absurd hj (Nat.not_lt_zero _), Below.refl _ _⟩
    case round =>
      obtain ⟨k, hk', rfl, hF, hB⟩ := hrel
      have HF : Hid (∀ j, j < k → pr (gl l j) = false) := hF
      clear hF
      by_cases hlt : k < l.length
      · obtain ⟨q, hq, hqn⟩ := HGet.out k hlt
        obtain ⟨lb, rfl, -, -, hIP⟩ := (HL5.out.on hB) (by omega)
        have y0 := hIP.c k hlt
        rw [hq] at y0
        have j0 : (0 : Int) ≤ (k : Int) := by omega
        have j1 : (k : Int) < (l.length : Int) := by omega
        have kO := HK.out q wr hqn hB
        have HY : Hid (pr (q : Int) = true → IdxN l pr (.returned (.int .i64 (k : Int)))) := fun h => ⟨(k : Int), rfl, .inl ⟨k, rfl, hlt, find_first hlt (by rw [hq]; exact h) HF.out⟩⟩
        have HN : Hid (pr (q : Int) = false → ∀ j, j < k + 1 → pr (gl l j) = false) := fun h j hj => by
          by_cases e2 : j = k
          · subst e2; rw [hq]; exact h
          · exact HF.out j (by omega)
        clear hIP
        generalize pr (q : Int) = pq at *
        cases pq with
        | true =>
          have HR : Hid (IdxN l pr (.returned (.int .i64 (k : Int)))) := HY.out rfl
          clear HY HN
          go_wp2_with (first | (go_at_call 86; refine kO.mono ?_; rintro r w9 ⟨rfl, hb9⟩) | fail)
          go_ret
          exact ⟨HR.out, stepA hB hb9⟩
        | false =>
          have HR : Hid (∀ j, j < k + 1 → pr (gl l j) = false) := HN.out rfl
          clear HY HN
          go_wp2_with (first | (go_at_call 86; refine kO.mono ?_; rintro r w9 ⟨rfl, hb9⟩) | fail)
          exact ⟨⟨k + 1, by omega, by go_num, HR.out, stepA hB hb9⟩, by simp [intOf]; omega⟩
      · have hke : k = l.length := by omega
        subst hke
        have HR : Hid (IdxN l pr (.returned (.int .i64 (-1)))) := ⟨-1, rfl, .inr (find_no HF.out)⟩
        clear HF
        go_wp2
        go_ret
        exact ⟨HR.out, hB⟩
  have HL5 : Hid (LQ w5 w4.heap.size w5.heap.size a5 l.length (gl l)) := hL5
  clear d0 d1 d2 d3 b0 b1 b2 b3 hD5 hm5 hL5 kL hb5
  go_wp2_with fail
  refine kI.mono ?_
  rintro r w6 ⟨⟨d, rfl, hd⟩, hb6⟩
  have hB6 := stepA hB5 hb6
  obtain ⟨k, hdk, hkl, hfk⟩ : ∃ k : Nat, d = (k : Int) ∧ k < l.length ∧ gl l k = x := by
    rcases hd with ⟨k, h1, h2, h3⟩ | h
    · rw [HX.out] at h3
      exact ⟨k, h1, h2, (Option.some.inj h3).symm⟩
    · rw [HX.out] at h; cases h
  subst hdk
  obtain ⟨lb, rfl, -, -, hIP⟩ := (HL5.out.on hb6) (by omega)
  have y0 := hIP.c k hkl
  rw [hfk] at y0
  have j0 : (0 : Int) ≤ (k : Int) := by omega
  have j1 : (k : Int) < (l.length : Int) := by omega
  clear hIP kI hd hb6 hfk
  go_wp2
  go_ret
  exact ⟨rfl, hB6⟩
end Go.Proofs.YtbndhhjgjalecaaDoor

/- The path that is read off the table. Numbers alone. -/
namespace Go.Proofs.YtbndhhjgjalecaaDoor

theorem find_congr {l : List Int} {p p' : Int → Bool} (h : ∀ q ∈ l, p q = p' q) : l.find? p = l.find? p' := by
  induction l with
  | nil => rfl
  | cons x l ih =>
    rw [List.find?_cons, List.find?_cons, h x (by simp), ih fun q hq => h q (by simp [hq])]
/-- the path as far as tick k -/
structure Pth (W : Int) (n : Nat) (f : Nat → Int) (R : Nat → Nat → Int) (J : Nat) (s t : Int) (T : Nat) (D : Nat → Nat → Int) (e : Nat) (P : Nat → Int) (k : Nat) : Prop where
  gd : Gd W n f R J s t e P (min k e)
  stay : ∀ i, e ≤ i → i ≤ k → P i = t
  due : k ≤ e → D k (P k).toNat = (e : Int)
  rng : ∀ i, i ≤ k → 0 ≤ P i ∧ P i < (n : Int)
  free : f (P k).toNat = 0
section
variable {W : Int} {n : Nat} {f : Nat → Int} {R : Nat → Nat → Int} {J : Nat} {s t : Int} {T : Nat} {D : Nat → Nat → Int} {e : Nat} {P : Nat → Int} {k : Nat}
theorem gd_congr {P' : Nat → Int} {m : Nat} (h : Gd W n f R J s t e P m) (hp : ∀ i, i ≤ m → P i = P' i) : Gd W n f R J s t e P' m :=
  ⟨by rw [← hp 0 (Nat.zero_le _)]; exact h.beg, fun i hi => by rw [← hp i (by omega), ← hp (i + 1) (by omega)]; exact h.step i hi⟩
theorem pth_start (hD : ∀ k, k ≤ T + 1 → ∀ q, q < n → DueIs W n f R J t T k (q : Int) (D k q)) {S : Nat} (hS : S < n) (hf : f S = 0) (he : e ≤ T) (h0 : D 0 S = (e : Int)) : Pth W n f R J (S : Int) t T D e (fun _ => (S : Int)) 0 := by
  refine ⟨⟨rfl, fun i hi => absurd (show i < 0 by omega) (Nat.not_lt_zero _)⟩, fun i h1 h2 => ?_, fun _ => by simpa using h0, fun i _ => by omega, by simpa using hf⟩
  have he0 : e = 0 := by omega
  subst he0
  exact (due_now (hD 0 (by omega) S hS) (by simpa using h0) (by omega)).1
/-- one tick more -/
theorem pth_next (hu : Uq R T J) (hs : sizedB W n = true) (ht : frB n f t = true) (hD : ∀ k, k ≤ T + 1 → ∀ q, q < n → DueIs W n f R J t T k (q : Int) (D k q)) (he : e ≤ T) (h0 : D 0 s.toNat = (e : Int)) (hs0 : 0 ≤ s ∧ s < (n : Int)) (h : Pth W n f R J s t T D e P k) (hk : k < T) :
    ∃ x, (nbL W n f (P k).toNat).find? (opB R T J (k + 1) (P k).toNat (D (k + 1)) (max (e : Int) ((k : Int) + 1))) = some x ∧ Pth W n f R J s t T D e (put P (k + 1) x) (k + 1) := by
  obtain ⟨r0, r1⟩ := h.rng k (Nat.le_refl _)
  have hD' : ∀ k, k ≤ T + 1 → ∀ q, 0 ≤ q → q < (n : Int) → DueIs W n f R J t T k q ((fun k (q : Int) => D k q.toNat) k q) := fun k hk q h1 h2 => by
    have := hD k hk q.toNat (by omega)
    rw [show ((q.toNat : Nat) : Int) = q by omega] at this
    exact this
  have hPk : (((P k).toNat : Nat) : Int) = P k := by omega
  have hput : ∀ x i, i ≤ k → put P (k + 1) x i = P i := fun x i hi => if_neg (by omega)
  have hpn : ∀ x, put P (k + 1) x (k + 1) = x := fun x => if_pos rfl
  by_cases hke : k < e
  · have hmx : max (e : Int) ((k : Int) + 1) = (e : Int) := Int.max_eq_left (by omega)
    have h00 : cnB W n f R J t e 0 s = true := by
      have d0 := hD 0 (by omega) s.toNat (by omega)
      obtain ⟨e', q1, q2, q3, q4, q5⟩ := d0.got (by omega)
      have : e' = e := by omega
      subst this
      rw [Nat.sub_zero, show ((s.toNat : Nat) : Int) = s by omega] at q5
      exact q5
    have hcn := h.gd.cn h00 k (by omega)
    obtain ⟨x, hx⟩ := gd_next hke hcn
    have hfd := find_due hu hs hD' (k := k) (p := (P k).toNat) (e := e) (by omega) h.free hke he (by show D k (((P k).toNat : Nat) : Int).toNat = (e : Int); rw [Int.toNat_natCast]; exact h.due (by omega))
    rw [hPk] at hfd
    have hop : (nbL W n f (P k).toNat).find? (opB R T J (k + 1) (P k).toNat (D (k + 1)) (max (e : Int) ((k : Int) + 1))) = some x := by
      rw [hmx, ← hx]
      refine find_congr fun q hq => ?_
      unfold opB
      rw [hPk]
      exact hfd q hq
    refine ⟨x, hop, ?_⟩
    have hxo := List.find?_some hop
    rw [hmx] at hxo
    unfold opB at hxo
    simp only [Bool.and_eq_true, decide_eq_true_eq] at hxo
    have hxm := List.mem_of_find?_eq_some hop
    obtain ⟨X, rfl, hX⟩ := mem_nbL.1 hxm
    have hXn := hX.lt hs (by omega)
    refine ⟨⟨by rw [hput _ 0 (by omega)]; exact h.gd.beg, fun i hi => ?_⟩, fun i h1 h2 => ?_, fun _ => by rw [hpn]; exact hxo.1, fun i hi => ?_, by rw [hpn, Int.toNat_natCast]; exact hX.free hs h.free⟩
    · by_cases e2 : i = k
      · subst e2
        rw [hput _ i (Nat.le_refl _), hpn]
        exact hx
      · rw [hput _ i (by omega), hput _ (i + 1) (by omega)]
        exact h.gd.step i (by omega)
    · have hie : i = k + 1 := by omega
      subst hie
      rw [hpn]
      have hek : e = k + 1 := by omega
      have := due_now (hD (k + 1) (by omega) X hXn) (by rw [Int.toNat_natCast] at hxo; rw [hxo.1, hek]) (by omega)
      exact this.1
    · by_cases e2 : i = k + 1
      · subst e2; rw [hpn]; omega
      · rw [hput _ i (by omega)]; exact h.rng i (by omega)
  · have hmx : max (e : Int) ((k : Int) + 1) = ((k + 1 : Nat) : Int) := by rw [Int.max_eq_right (by omega)]; omega
    have hPt : P k = t := h.stay k (by omega) (Nat.le_refl _)
    have ha : ∀ k', e ≤ k' → k' ≤ T → nhB R k' t t J = true := by
      have d0 := hD 0 (by omega) s.toNat (by omega)
      obtain ⟨e', q1, q2, q3, q4, q5⟩ := d0.got (by omega)
      have : e' = e := by omega
      subst this
      exact q4
    have hop : (nbL W n f (P k).toNat).find? (opB R T J (k + 1) (P k).toNat (D (k + 1)) (max (e : Int) ((k : Int) + 1))) = some t := by
      rw [hmx]
      have h1 : (nbL W n f (P k).toNat).find? (opB R T J (k + 1) (P k).toNat (D (k + 1)) ((k + 1 : Nat) : Int)) = (nbL W n f (P k).toNat).find? (fun q => decide (q = t)) := find_congr fun q hq => by
        obtain ⟨X, rfl, hX⟩ := mem_nbL.1 hq
        have hXn := hX.lt hs (by omega)
        have h9 := find_stay hD' (k := k) ht (by omega) (fun k' h1 h2 => ha k' (by omega) h2) (q := (X : Int)) (by omega) (by omega)
        unfold opB
        rw [hPk, hPt]
        exact h9
      rw [h1]
      have hm : t ∈ nbL W n f (P k).toNat := mem_nbL.2 ⟨(P k).toNat, by rw [hPk]; exact hPt.symm, .inl rfl⟩
      obtain ⟨y, hy⟩ : ∃ y, (nbL W n f (P k).toNat).find? (fun q => decide (q = t)) = some y := by
        cases h9 : (nbL W n f (P k).toNat).find? (fun q => decide (q = t)) with
        | some y => exact ⟨y, rfl⟩
        | none =>
          have := List.find?_eq_none.1 h9 t hm
          simp at this
      have := List.find?_some hy
      rw [hy]
      simp only [decide_eq_true_eq] at this
      rw [this]
    refine ⟨t, hop, ?_⟩
    have htf := frB_t ht
    refine ⟨?_, fun i h1 h2 => ?_, fun h9 => by omega, fun i hi => ?_, by rw [hpn]; exact htf.2.2⟩
    · have hmin : min (k + 1) e = min k e := by omega
      rw [hmin]
      exact gd_congr h.gd (fun i hi => (hput t i (by omega)).symm)
    · by_cases e2 : i = k + 1
      · subst e2; exact hpn t
      · rw [hput t i (by omega)]; exact h.stay i h1 (by omega)
    · by_cases e2 : i = k + 1
      · subst e2; rw [hpn]; exact ⟨htf.1, htf.2.1⟩
      · rw [hput t i (by omega)]; exact h.rng i (by omega)
theorem pth_end (hs : sizedB W n = true) (ht : frB n f t = true) (hD : ∀ k, k ≤ T + 1 → ∀ q, q < n → DueIs W n f R J t T k (q : Int) (D k q)) (he : e ≤ T) (h0 : D 0 s.toNat = (e : Int)) (hs0 : 0 ≤ s ∧ s < (n : Int)) (h : Pth W n f R J s t T D e P T) : Bp W n f R J s t T P := by
  have d0 := hD 0 (by omega) s.toNat (by omega)
  rw [show ((s.toNat : Nat) : Int) = s by omega] at d0
  have hmin : min T e = e := by omega
  have hg := h.gd
  rw [hmin] at hg
  exact due_best hs d0 h0 he ht hg (fun k h1 h2 => h.stay k h1 h2)
end
end Go.Proofs.YtbndhhjgjalecaaDoor

/- A struct of two ints as a value; the law's own copy of one. -/
namespace Go.Proofs.YtbndhhjgjalecaaDoor
open Go.RowKit
/-- one as a value -/
abbrev tpv (a b : Int) : Value := .agg #[.int .i64 a, .int .i64 b]
set_option maxHeartbeats 400000 in
theorem toTrip_any (a b : Int) (w : World) :
    Calls Tryd.prog 29 #[tpv a b] w fun e w' => e = .returned (tpv a b) ∧ Below w.heap.size w w' := by
  go_enter Tryd.func29, Tryd.ntmps29
  go_wp2
  go_returns
  refine ⟨rfl, ?_⟩
  repeat' (first | exact Below.refl _ _ | refine below_dr ?_ _ | refine Below.alloc ?_ (by simp <;> omega) _ | refine Below.setCell ?_ (by simp <;> omega) _)

end Go.Proofs.YtbndhhjgjalecaaDoor
