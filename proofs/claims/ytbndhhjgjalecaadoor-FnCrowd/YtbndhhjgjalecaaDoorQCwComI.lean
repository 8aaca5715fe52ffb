/- Whether two meet, as the program tells it. -/
import Derived.Test.YtbndhhjgjalecaaDoorQCwGpM
import Derived.Test.YtbndhhjgjalecaaDoorQClVal
import Derived.ChangeKeysEq
import Derived.Test.YtbndhhjgjalecaaDoorQCwRows
import Derived.BigQuiet
import Derived.Deep.Cut
namespace Go.Proofs.YtbndhhjgjalecaaDoor
open Go.RowKit

abbrev cpv (a b : Int) : Value := .agg #[.int .i64 a, .int .i64 b]
def mtB (x y a b : Int) : Bool := (x == y) || ((decide (x = b)) && (decide (y = a)))
theorem eq_couple (a b c d : Int) (w : World) : (Op.equalIn 10000 90 (cpv a b) (cpv c d)).run Tryd.prog w = .ok (decide (a = c) && decide (b = d)) w := by
  rw [run_equalIn_array (i := (Tryd.prog.info? 3).getD default) w 9999 (t := 90) (e := 3) (n := 2) _ _ Tryd.underlying90 (by kernel_rfl)]
  have hc : Tryd.prog.cellsOf 3 = 1 := by kernel_rfl
  rw [hc]
  have hr : List.range 2 = [0, 1] := by decide
  rw [hr]
  have hp : ∀ (xs : Array Value) (k : Nat) (v : Int), xs[k]? = some (.int .i64 v) → ∀ w, (part 3 xs (k * 1)).run Tryd.prog w = .ok (.int .i64 v) w := by
    intro xs k v h w
    simp [part, go_sem, h]
  have he : ∀ (x y : Int) (w : World), (Op.equalIn 9999 3 (.int .i64 x) (.int .i64 y)).run Tryd.prog w = .ok (x == y) w := fun x y w => run_equalIn_int w 9998 3 .i64 .i64 x y Tryd.underlying3
  have q0 := hp #[.int .i64 a, .int .i64 b] 0 a rfl
  have q1 := hp #[.int .i64 a, .int .i64 b] 1 b rfl
  have z0 := hp #[.int .i64 c, .int .i64 d] 0 c rfl
  have z1 := hp #[.int .i64 c, .int .i64 d] 1 d rfl
  simp only [Op.eqItems, Sem.run_bind, q0, q1, z0, z1, Result.andThen_ok, he, Sem.run_ite, Sem.run_pure]
  by_cases ha : a = c
  · by_cases hb : b = d <;> simp [ha, hb]
  · simp [ha]
set_option maxHeartbeats 1000000 in
theorem meet_any (x y a b : Int) (w : World) :
    Calls Tryd.prog 79 #[cpv x y, cpv a b] w fun e w' => e = .returned (.bool (mtB x y a b)) ∧ Below w.heap.size w w' := by
  have hq := eq_couple x y b a
  have hB : Below w.heap.size w ((w.alloc (.cells #[.int .i64 x, .int .i64 y] 90)).alloc (.cells #[.int .i64 a, .int .i64 b] 90)) := ((Below.refl _ _).alloc (Nat.le_refl _) _).alloc (by simp) _
  cases r : (x == y) with
  | true =>
    have hr : mtB x y a b = true := by simp [mtB, r]
    rw [hr]
    clear hr hq
    go_enter Tryd.func79, Tryd.ntmps79
    go_wp2
    go_ret
    exact ⟨rfl, hB⟩
  | false =>
    have hr : mtB x y a b = (decide (x = b) && decide (y = a)) := by simp [mtB, r]
    rw [hr]
    clear hr
    generalize (decide (x = b) && decide (y = a)) = R at hq ⊢
    go_enter Tryd.func79, Tryd.ntmps79
    go_wp2
    go_ret
    exact ⟨rfl, hB⟩
/-- the two ways to say it -/
theorem mt_hit (F : Nat → Nat → Int) (k i j : Nat) : mtB (F i k) (F j k) (F i (k - 1)) (F j (k - 1)) = hitB (F j) k (prv (F i) k) (F i k) := by
  have h1 : mtB (F i k) (F j k) (F i (k - 1)) (F j (k - 1)) = true ↔ Meet F k i j := by
    unfold mtB Meet
    by_cases h : 0 < k
    · simp only [Bool.or_eq_true, beq_iff_eq, Bool.and_eq_true, decide_eq_true_eq, h, true_and]
      constructor
      · rintro (e | ⟨e1, e2⟩)
        · exact .inl e.symm
        · exact .inr ⟨e1.symm, e2⟩
      · rintro (e | ⟨e1, e2⟩)
        · exact .inl e.symm
        · exact .inr ⟨e1.symm, e2⟩
    · have h0 : k = 0 := by omega
      subst h0
      simp only [Bool.or_eq_true, beq_iff_eq, Bool.and_eq_true, decide_eq_true_eq, Nat.lt_irrefl, false_and, or_false, Nat.zero_sub]
      constructor
      · rintro (e | ⟨e1, e2⟩)
        · exact e.symm
        · exact e1.symm
      · intro e
        exact .inl e.symm
  have h2 := hit_meet (F := F) (k := k) (i := i) (j := j)
  exact Bool.eq_iff_iff.2 (h1.trans h2.symm)
end Go.Proofs.YtbndhhjgjalecaaDoor

/- Whether lists are as long as each other, as the program tells it. -/
namespace Go.Proofs.YtbndhhjgjalecaaDoor
open Go.RowKit

/-- what IndexFunc tells of the lists that have another length -/
def IdxL (n : Nat) (K : Nat → Nat) (L : Nat) (e : Ending) : Prop := ∃ d : Int, e = .returned (.int .i64 d) ∧ decide (0 ≤ d) = !(decide (∀ i, i < n → K i = L))
set_option maxHeartbeats 1000000 in
theorem idxLen (a : Option Addr) (n c : Nat) (K : Nat → Nat) (F : Nat → Nat → Int) (L p : Nat) (w : World) (hn : n ≤ 1048576) (h : RR w a n K F) (hp : w.cell? ⟨p, 0, none⟩ = some (.int .i64 (L : Int))) :
    Calls Tryd.prog 89 #[.slice a n c, .func (.func 70) #[] #[.pointer (some ⟨p, 0, none⟩)]] w fun e w' => IdxL n K L e ∧ w' = w := by
  obtain ⟨A, C, hL⟩ := h
  go_enter Tryd.func89, Tryd.ntmps89
  go_wp2
  go_loopw [8] (fun i wr => ∃ k : Nat, k ≤ n ∧ i = .int .i64 k ∧ (∀ j, j < k → K j = L) ∧ wr = w) (fun i _ => n - (intOf i).toNat)
  case atStart => exact ⟨0, Nat.zero_le _, rfl, fun j hj => absurd hj (Nat.not_lt_zero _), rfl⟩
  case round =>
    obtain ⟨k, hk, rfl, hT, hw⟩ := hrel
    have HT : Hid (∀ j, j < k → K j = L) := hT
    have hw' := hw.symm
    clear hw hT
    subst hw'
    by_cases hlt : k < n
    · obtain ⟨b, off, rfl, hb, hc⟩ := hL.out (by omega)
      have x0 := hc k hlt
      have j0 : (0 : Int) ≤ (k : Int) := by omega
      have j1 : (k : Int) < (n : Int) := by omega
      have HE : Hid (∀ X, K k = X → X = L → ∀ j, j < k + 1 → K j = L) := fun X e1 e2 j hj => by
        by_cases e : j = k
        · subst e; omega
        · exact HT.out j (by omega)
      have HN : Hid (∀ X, K k = X → X ≠ L → ¬ ∀ i, i < n → K i = L) := fun X e1 e2 e => e2 (by rw [← e1]; exact e k hlt)
      clear hc hL HT
      generalize hX : K k = X at x0
      have HX : Hid (K k = X) := hX
      clear hX
      cases r : ((X : Int) != (L : Int)) with
      | true =>
        have hne : X ≠ L := fun e => by rw [e] at r; simp at r
        have HR : Hid (IdxL n K L (.returned (.int .i64 (k : Int)))) := ⟨(k : Int), rfl, by rw [decide_eq_false (HN.out X HX.out hne)]; simp⟩
        clear HN HE HX hne
        go_wp2_with (first | go_in)
        go_ret
        exact ⟨HR.out, by first | trivial | rfl⟩
      | false =>
        have he : X = L := by simp at r; omega
        have HR : Hid (∀ j, j < k + 1 → K j = L) := HE.out X HX.out he
        clear HN HE HX he
        go_wp2_with (first | go_in)
        exact ⟨⟨k + 1, by omega, by go_num, HR.out, by first | trivial | rfl⟩, by simp [intOf]; omega⟩
    · have hke : k = n := by omega
      subst hke
      have HR : Hid (IdxL k K L (.returned (.int .i64 (-1)))) := ⟨-1, rfl, by rw [decide_eq_true (show ∀ i, i < k → K i = L from HT.out)]; rfl⟩
      clear hL HT
      go_wp2
      go_ret
      exact ⟨HR.out, rfl⟩
set_option maxHeartbeats 1000000 in
theorem conLen (a : Option Addr) (n c : Nat) (K : Nat → Nat) (F : Nat → Nat → Int) (L p : Nat) (w : World) (hn : n ≤ 1048576) (h : RR w a n K F) (hp : w.cell? ⟨p, 0, none⟩ = some (.int .i64 (L : Int))) :
    Calls Tryd.prog 71 #[.slice a n c, .func (.func 70) #[] #[.pointer (some ⟨p, 0, none⟩)]] w fun e w' => e = .returned (.bool (!(decide (∀ i, i < n → K i = L)))) ∧ w' = w := by
  have hI := idxLen a n c K F L p w hn h hp
  go_enter Tryd.func71, Tryd.ntmps71
  go_wp2_with fail
  refine hI.mono ?_
  rintro e w1 ⟨⟨d, rfl, hd⟩, hw1⟩
  have hs' := hw1.symm
  clear hw1 hI
  subst hs'
  have HD : Hid (decide (0 ≤ d) = !(decide (∀ i, i < n → K i = L))) := hd
  clear hd
  go_wp2
  go_ret
  exact ⟨ret_bool HD.out, rfl⟩
/-- what commonLength tells -/
def cmV (n : Nat) (K : Nat → Nat) : Value := .tuple #[.int .i64 (if n = 0 then 0 else (K 0 : Int)), .bool (decide (∀ i, i < n → K i = K 0))]
set_option maxHeartbeats 1000000 in
theorem comLen (a : Option Addr) (n c : Nat) (K : Nat → Nat) (F : Nat → Nat → Int) (w : World) (hn : n ≤ 1048576) (h : RR w a n K F) :
    Calls Tryd.prog 41 #[.slice a n c] w fun e w' => e = .returned (cmV n K) ∧ Below w.heap.size w w' := by
  by_cases h0 : n = 0
  · subst h0
    have hr : cmV 0 K = .tuple #[.int .i64 0, .bool true] := by simp [cmV]
    rw [hr]
    clear hr
    go_enter Tryd.func41, Tryd.ntmps41
    go_wp2
    go_ret2
    exact ⟨rfl, Below.refl _ _⟩
  · have hr : cmV n K = .tuple #[.int .i64 (K 0 : Int), .bool (decide (∀ i, i < n → K i = K 0))] := by simp [cmV, h0]
    rw [hr]
    have hB : Below w.heap.size w (w.alloc (.cells #[.int .i64 (K 0 : Int)] 3)) := (Below.refl _ _).alloc (Nat.le_refl _) _
    have hc0 : (w.alloc (.cells #[.int .i64 (K 0 : Int)] 3)).cell? ⟨w.heap.size, 0, none⟩ = some (.int .i64 (K 0 : Int)) := (bx_new (w := w) [.int .i64 (K 0 : Int)] 3 rfl).c0
    have hW := h.below hB
    have hlt : w.heap.size < (w.alloc (.cells #[.int .i64 (K 0 : Int)] 3)).heap.size := by simp
    have hI := fun W (k1 : RR W a n K F) k2 => conLen a n c K F (K 0) w.heap.size W hn k1 k2
    obtain ⟨A, C, hL⟩ := h
    obtain ⟨b, off, ea, hb, hc⟩ := hL.out (by omega)
    subst ea
    have x0 := hc 0 (by omega)
    simp only [Nat.add_zero] at x0
    have j0 : ((n : Int) == 0) = false := by simpa using h0
    have j1 : (0 : Int) < (n : Int) := by omega
    clear hc hL hr
    generalize (decide (∀ i, i < n → K i = K 0)) = R at hI ⊢
    generalize K 0 = X at *
    go_enter Tryd.func41, Tryd.ntmps41
    go_upto_region 5 with fail
    generalize w.alloc (.cells #[.int .i64 (X : Int)] 3) = W at *
    have hb2 := fun m => below_dr (Below.refl W.heap.size W) m
    have kC := fun m => hI (W.drewN m) (hW.below (hb2 m)) (((hb2 m).cell (p := ⟨w.heap.size, 0, none⟩) hlt).trans hc0)
    clear hI
    go_quiet ((go_at_call 71; exact Calls.quiet_of_same (kC _)))
    go_wp2
    go_ret2
    exact ⟨by simp, below_dr hB _⟩
end Go.Proofs.YtbndhhjgjalecaaDoor
