/- How a board is played, as the program does it. -/
import Derived.Test.YtapodfkoknmhdaaDoorQWhPlM
import Derived.Test.YtapodfkoknmhdaaDoorQWhCnI
namespace Go.Proofs.YtapodfkoknmhdaaDoor
open Go.RowKit
set_option maxHeartbeats 1000000 in
theorem iNumI (v : Int) (a : Option Addr) (m c : Nat) (w : World) : Calls Tryd.prog 59 #[.int .i64 v, .slice a m c] w fun e w' => e = .returned (.bool (nbB v m)) ∧ w' = w := by
  unfold nbB
  by_cases h0 : 0 ≤ v
  · rw [decide_eq_true h0]
    by_cases h1 : v < (m : Int)
    · rw [decide_eq_true h1]
      go_enter Tryd.func59, Tryd.ntmps59
      go_wp2
      go_ret
      exact ⟨rfl, rfl⟩
    · rw [decide_eq_false h1]
      go_enter Tryd.func59, Tryd.ntmps59
      go_wp2
      go_ret
      exact ⟨rfl, rfl⟩
  · rw [decide_eq_false h0]
    go_enter Tryd.func59, Tryd.ntmps59
    go_wp2
    go_ret
    exact ⟨rfl, rfl⟩
/-- none of the first L is below 0 -/
def thB (th : Nat → Int) (L : Nat) : Bool := decide (∀ i, i < L → 0 ≤ th i)
set_option maxHeartbeats 1000000 in
theorem iBelow (x : Int) (w : World) : Calls Tryd.prog 103 #[.int .i64 x] w fun e w' => e = .returned (.bool (decide (x < 0))) ∧ w' = w := by
  go_enter Tryd.func103, Tryd.ntmps103
  go_wp2
  go_ret
  exact ⟨rfl, rfl⟩
set_option maxHeartbeats 1000000 in
theorem iIdxT (a : Option Addr) (n c : Nat) (F : Nat → Int) (w : World) (hn : n ≤ 1048576) (ha : IL w a n F) :
    Calls Tryd.prog 132 #[.slice a n c, .func (.func 103) #[] #[]] w fun e w' => (∃ z : Int, e = .returned (.int .i64 z) ∧ (!(thB F n)) = decide (0 ≤ z)) ∧ w' = w := by
  have HN : Hid (∀ k, k < n → F k < 0 → thB F n = false) := fun k hk h => by
    unfold thB; exact decide_eq_false fun h2 => by have := h2 k hk; omega
  go_enter Tryd.func132, Tryd.ntmps132
  go_wp2
  go_loopw [8] (fun i wr => ∃ k : Nat, k ≤ n ∧ i = .int .i64 (k : Int) ∧ Hid (∀ j, j < k → 0 ≤ F j) ∧ wr = w) (fun i _ => n - (intOf i).toNat)
  case atStart => exact ⟨0, Nat.zero_le _, rfl, fun j hj => absurd hj (Nat.not_lt_zero _), rfl⟩
  case round =>
    obtain ⟨k, hk, rfl, HE, hw⟩ := hrel
    have hw' := hw.symm
    clear hw
    subst hw'
    by_cases hlt : k < n
    · obtain ⟨b1, o1, rfl, l1, hc1⟩ := ha (by omega)
      have y1 := hc1 k hlt
      have j0 : (0 : Int) ≤ (k : Int) := by omega
      have j1 : (k : Int) < (n : Int) := by omega
      have HN2 : Hid (F k < 0 → thB F n = false) := HN.out k hlt
      have HE2 : Hid (¬ F k < 0 → ∀ j, j < k + 1 → 0 ≤ F j) := fun h j hj => by
        by_cases e : j = k
        · subst e; omega
        · exact HE.out j (by omega)
      have kB := iBelow (F k) w
      clear hc1 ha HN HE
      generalize F k = X at *
      by_cases hx : X < 0
      · rw [decide_eq_true hx] at kB
        have HR : Hid (thB F n = false) := HN2.out hx
        clear HN2 HE2 hx
        go_wp2_with (first | (go_at_call 103; refine kB.mono ?_; rintro e w9 ⟨rfl, hw9⟩; have hs' := hw9.symm; clear hw9 kB; subst hs') | fail)
        go_ret
        exact ⟨⟨(k : Int), rfl, by rw [HR.out]; simp⟩, rfl⟩
      · rw [decide_eq_false hx] at kB
        have HR : Hid (∀ j, j < k + 1 → 0 ≤ F j) := HE2.out hx
        clear HN2 HE2 hx
        go_wp2_with (first | (go_at_call 103; refine kB.mono ?_; rintro e w9 ⟨rfl, hw9⟩; have hs' := hw9.symm; clear hw9 kB; subst hs') | fail)
        exact ⟨⟨k + 1, by omega, by go_num, HR, by first | trivial | rfl⟩, by simp [intOf]; omega⟩
    · have : k = n := by omega
      subst this
      have HR : Hid (thB F k = true) := by
        show thB F k = true
        unfold thB; exact decide_eq_true HE.out
      go_wp2
      go_ret
      exact ⟨⟨-1, rfl, by rw [HR.out]; rfl⟩, rfl⟩
set_option maxHeartbeats 1000000 in
theorem iConT (a : Option Addr) (n c : Nat) (F : Nat → Int) (w : World) (hn : n ≤ 1048576) (ha : IL w a n F) :
    Calls Tryd.prog 104 #[.slice a n c, .func (.func 103) #[] #[]] w fun e w' => e = .returned (.bool (!(thB F n))) ∧ w' = w := by
  have k := iIdxT a n c F w hn ha
  generalize (!(thB F n)) = B at *
  go_enter Tryd.func104, Tryd.ntmps104
  go_wp2_with fail
  refine k.mono ?_
  rintro e w2 ⟨⟨z, rfl, hz⟩, hw2⟩
  have hs2 := hw2.symm
  clear hw2 k
  subst hs2 hz
  go_wp2
  go_ret
  exact ⟨rfl, rfl⟩
set_option maxHeartbeats 1000000 in
theorem iTheirs (a : Option Addr) (n c : Nat) (F : Nat → Int) (w : World) (hn : n ≤ 1048576) (ha : IL w a n F) :
    Calls Tryd.prog 60 #[.slice a n c] w fun e w' => e = .returned (.bool (decide (n ≤ 30) && thB F n)) ∧ w' = w := by
  have k := iConT a n c F w hn ha
  by_cases h : n ≤ 30
  · rw [decide_eq_true h]
    have j : (n : Int) ≤ 30 := by omega
    generalize thB F n = B at *
    go_enter Tryd.func60, Tryd.ntmps60
    go_wp2_with fail
    refine k.mono ?_
    rintro e w2 ⟨rfl, hw2⟩
    have hs2 := hw2.symm
    clear hw2 k
    subst hs2
    go_wp2
    go_ret
    exact ⟨by simp, rfl⟩
  · rw [decide_eq_false h]
    have j : ¬ (n : Int) ≤ 30 := by omega
    clear k
    go_enter Tryd.func60, Tryd.ntmps60
    go_wp2
    go_ret
    exact ⟨rfl, rfl⟩
set_option maxRecDepth 20000 in
set_option maxHeartbeats 4000000 in
theorem iNext (a : Option Addr) (n c : Nat) (b : Option Addr) (d : Nat) (x : Option Addr) (q : Nat) (f : Nat → ByteArray) (g : Nat → Bool) (K : Nat → Nat) (R : Nat → Nat → Int) (pa : Option Addr) (pc : Nat) (pl : Nat → Int) (p : Nat) (t : Int) (w : World) (hK : ∀ i, i < n → K i ≤ 1048576) (hp : p < n) (ht : 0 ≤ t) (h : BD w a n f b n g x n K R) (hP : IL w pa n pl) :
    Calls Tryd.prog 61 #[bdv a n c b n d x n q, .slice pa n pc, .int .i64 (p : Int), .int .i64 t] w fun e w' => e = .returned (.tuple #[.int .i64 (nxV g K R pl p t).1, .bool (nxV g K R pl p t).2]) ∧ Below w.heap.size w w' := by
  have hb0 : Below w.heap.size w (w.alloc (bdO a n c b n d x n q 38)) := (Below.refl _ _).alloc (Nat.le_refl _) _
  have bA := bx_new (w := w) (bdL a n c b n d x n q) 38 rfl
  have HV : Hid (nxV g K R pl p t = if K p = 0 then (-1, true) else if g p = false then (R p (t % (K p : Int)).toNat, true) else (pl p, (pl p == -1) || hsB (R p) (K p) (pl p))) := (rfl : nxV g K R pl p t = _)
  obtain ⟨V1, V2, HW⟩ : ∃ V1 V2, Hid (nxV g K R pl p t = (V1, V2)) := ⟨_, _, (rfl : nxV g K R pl p t = ((nxV g K R pl p t).1, (nxV g K R pl p t).2))⟩
  rw [HW.out] at HV ⊢
  obtain ⟨A, C, hA⟩ := h.nx
  have x2 := bA.c2
  have x1 := bA.c1
  have p0 : (0 : Int) ≤ (p : Int) := by omega
  have p1 : (p : Int) < (n : Int) := by omega
  obtain ⟨xb, xo, rfl, xl, hc1⟩ := (hA.below hb0).out (by omega)
  have y1 := hc1 p hp
  have hrow := (hA.below hb0).row p hp
  obtain ⟨mb, mo, rfl, ml, hc2⟩ := (h.mi.below hb0) (by omega)
  have y2 := hc2 p hp
  obtain ⟨qb, qo, rfl, ql, hc3⟩ := (hP.below hb0) (by omega)
  have y3 := hc3 p hp
  have hKp := hK p hp
  clear hc1 hc2 hc3 hP h hA hK
  generalize R p = F at *
  generalize K p = M at *
  generalize A p = Z at *
  generalize C p = Y at *
  generalize g p = G at *
  generalize pl p = X at *
  by_cases h0 : M = 0
  · have e0 : ((M : Int) == 0) = true := by simp; omega
    have hv := HV.out
    rw [if_pos h0] at hv
    cases hv
    go_enter Tryd.func61, Tryd.ntmps61
    go_wp2
    go_ret2
    exact ⟨rfl, hb0⟩
  have e0 : ((M : Int) == 0) = false := by simp; omega
  have hv := HV.out
  rw [if_neg h0] at hv
  cases G with
  | false =>
    rw [if_pos rfl] at hv
    obtain ⟨rb, ro, rfl, rl, hc4⟩ := hrow (by omega)
    have h3 : 0 ≤ t % (M : Int) := Int.emod_nonneg _ (by omega)
    have h4 : t % (M : Int) < (M : Int) := Int.emod_lt_of_pos _ (by omega)
    have y4 := hc4 (t % (M : Int)).toNat (by omega)
    clear hc4
    cases hv
    generalize F (t % (M : Int)).toNat = X2 at *
    have e9 : t.tmod (M : Int) = t % (M : Int) := Int.tmod_eq_emod_of_nonneg ht
    have hM0 : (M : Int) ≠ 0 := by omega
    go_enter Tryd.func61, Tryd.ntmps61
    go_wp2
    go_ret2
    exact ⟨rfl, hb0⟩
  | true =>
    rw [if_neg (by simp)] at hv
    have kC := fun w2 h => iContI Z M Y F X w2 hKp h
    generalize hsB F M X = B at *
    have hv1 : V1 = X := congrArg Prod.fst hv
    have hv2 : V2 = ((X == -1) || B) := congrArg Prod.snd hv
    rw [hv1, hv2]
    clear HV HW hv hv1 hv2
    go_enter Tryd.func61, Tryd.ntmps61
    go_wp2_with fail
    obtain ⟨w8, hw8⟩ : ∃ w8, w8 = w.alloc (bdO a n c (some ⟨mb, mo, none⟩) n d (some ⟨xb, xo, none⟩) n q 38) := ⟨_, rfl⟩
    rw [← hw8] at hb0 x1 x2 y1 y2 y3 xl ml ql hrow ⊢
    clear hw8 bA
    cases hX : (X == -1) with
    | true =>
      clear kC
      go_quiet (fail)
      go_wp2
      go_ret2
      exact ⟨by simp [hX], below_dr hb0 _⟩
    | false =>
      go_quiet ((go_at_call 105; exact Calls.quiet_of_same (kC _ (hrow.below (by first | exact Below.refl _ _ | exact below_dr (Below.refl _ _) _)))))
      go_wp2
      go_ret2
      exact ⟨by simp [hX], below_dr hb0 _⟩
end Go.Proofs.YtapodfkoknmhdaaDoor
