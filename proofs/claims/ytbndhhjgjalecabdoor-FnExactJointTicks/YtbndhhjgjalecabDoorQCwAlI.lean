/- Whether a trip has an end of an elder one, as the program tells it. -/
import Derived.Test.YtbndhhjgjalecabDoorQCwGtM
import Derived.Test.YtbndhhjgjalecabDoorQClSFree
namespace Go.Proofs.YtbndhhjgjalecabDoor
open Go.RowKit

abbrev trv (a b : Int) : Value := .agg #[.int .i64 a, .int .i64 b]
set_option maxHeartbeats 1000000 in
theorem alike_any (s t S T : Int) (p : Nat) (w : World) (h0 : w.cell? ⟨p, 0, none⟩ = some (.int .i64 S)) (h1 : w.cell? ⟨p, 1, none⟩ = some (.int .i64 T)) (hp : p < w.heap.size) :
    Calls Tryd.prog 22 #[trv s t, .pointer (some ⟨p, 0, none⟩)] w fun e w' => e = .returned (.bool (s == S || t == T)) ∧ Below w.heap.size w w' := by
  have hB : Below w.heap.size w (w.alloc (.cells #[.int .i64 s, .int .i64 t] 31)) := (Below.refl _ _).alloc (Nat.le_refl _) _
  cases r : (s == S) with
  | true =>
    rw [Bool.true_or]
    go_enter Tryd.func22, Tryd.ntmps22
    go_wp2
    go_ret
    exact ⟨rfl, hB⟩
  | false =>
    rw [Bool.false_or]
    go_enter Tryd.func22, Tryd.ntmps22
    go_wp2
    go_ret
    exact ⟨rfl, hB⟩
/-- what IndexFunc tells of the first k trips and one of them -/
def IdxT (g : Nat → Int) (i k : Nat) (e : Ending) : Prop := ∃ d : Int, e = .returned (.int .i64 d) ∧ decide (0 ≤ d) = !(apB g i k)
set_option maxHeartbeats 1000000 in
theorem idxTrip (b : Option Addr) (m d : Nat) (g : Nat → Int) (i p : Nat) (w : World) (hm : m ≤ 1048576) (hg : IL w b (m * 2) g) (h0 : w.cell? ⟨p, 0, none⟩ = some (.int .i64 (g (i * 2)))) (h1 : w.cell? ⟨p, 1, none⟩ = some (.int .i64 (g (i * 2 + 1)))) (hp : p < w.heap.size) :
    Calls Tryd.prog 30 #[.slice b m d, .func (.func 22) #[] #[.pointer (some ⟨p, 0, none⟩)]] w fun e w' => IdxT g i m e ∧ Below w.heap.size w w' := by
  go_enter Tryd.func30, Tryd.ntmps30
  go_wp2
  go_loopw [8] (fun q wr => ∃ k : Nat, k ≤ m ∧ q = .int .i64 k ∧ apB g i k = true ∧ Below w.heap.size w wr) (fun q _ => m - (intOf q).toNat)
  case atStart => exact ⟨0, Nat.zero_le _, rfl, rfl, Below.refl _ _⟩
  case round =>
    obtain ⟨k, hk, rfl, hT, hB⟩ := hrel
    by_cases hlt : k < m
    · obtain ⟨gb, go_, rfl, gl_, y0, y1⟩ := il_two (hg.below hB) hlt
      have j0 : (0 : Int) ≤ (k : Int) := by omega
      have j1 : (k : Int) < (m : Int) := by omega
      have z0 := (hB.cell (p := ⟨p, 0, none⟩) hp).trans h0
      have z1 := (hB.cell (p := ⟨p, 1, none⟩) hp).trans h1
      have hp2 : p < wr.heap.size := Nat.lt_of_lt_of_le hp hB.size
      have kA := alike_any (g (k * 2)) (g (k * 2 + 1)) (g (i * 2)) (g (i * 2 + 1)) p wr z0 z1 hp2
      have HE : Hid (apB g i (k + 1) = (apB g i k && !(g (k * 2) == g (i * 2) || g (k * 2 + 1) == g (i * 2 + 1)))) := rfl
      have HN : Hid (apB g i (k + 1) = false → apB g i m = false) := fun h => by
        cases e : apB g i m with
        | false => rfl
        | true =>
          have := apB_mk (fun j (hj : j < k + 1) => apB_at e j (by omega))
          rw [h] at this; cases this
      clear z0 z1 h0 h1
      generalize (g (k * 2) == g (i * 2) || g (k * 2 + 1) == g (i * 2 + 1)) = R at kA HE
      generalize g (k * 2) = v0 at *
      generalize g (k * 2 + 1) = v1 at *
      cases R with
      | true =>
        have hr : apB g i m = false := HN.out (by rw [HE.out]; simp)
        have HR : Hid (IdxT g i m (.returned (.int .i64 (k : Int)))) := ⟨(k : Int), rfl, by rw [hr]; simp⟩
        clear hr HE HN
        go_wp2_with (first | (go_at_call 22; refine kA.mono ?_; rintro e w9 ⟨rfl, hb9⟩) | fail)
        go_ret
        exact ⟨HR.out, stepA hB hb9⟩
      | false =>
        have hr : apB g i (k + 1) = true := by rw [HE.out, hT]; rfl
        have HR : Hid (apB g i (k + 1) = true) := hr
        clear hr HE HN
        go_wp2_with (first | (go_at_call 22; refine kA.mono ?_; rintro e w9 ⟨rfl, hb9⟩) | fail)
        exact ⟨⟨k + 1, by omega, by go_num, HR.out, stepA hB hb9⟩, by simp [intOf]; omega⟩
    · have hke : k = m := by omega
      subst hke
      have HR : Hid (IdxT g i k (.returned (.int .i64 (-1)))) := ⟨-1, rfl, by rw [hT]; rfl⟩
      clear hT
      go_wp2
      go_ret
      exact ⟨HR.out, hB⟩
set_option maxHeartbeats 1000000 in
theorem conTrip (b : Option Addr) (m d : Nat) (g : Nat → Int) (i p : Nat) (w : World) (hm : m ≤ 1048576) (hg : IL w b (m * 2) g) (h0 : w.cell? ⟨p, 0, none⟩ = some (.int .i64 (g (i * 2)))) (h1 : w.cell? ⟨p, 1, none⟩ = some (.int .i64 (g (i * 2 + 1)))) (hp : p < w.heap.size) :
    Calls Tryd.prog 24 #[.slice b m d, .func (.func 22) #[] #[.pointer (some ⟨p, 0, none⟩)]] w fun e w' => e = .returned (.bool (!(apB g i m))) ∧ Below w.heap.size w w' := by
  have hI := idxTrip b m d g i p w hm hg h0 h1 hp
  clear h0 h1
  go_enter Tryd.func24, Tryd.ntmps24
  go_wp2_with fail
  refine hI.mono ?_
  rintro e w1 ⟨⟨x, rfl, hd⟩, hb1⟩
  clear hI
  have HD : Hid (decide (0 ≤ x) = !(apB g i m)) := hd
  clear hd
  go_wp2
  go_ret
  exact ⟨ret_bool HD.out, hb1⟩
end Go.Proofs.YtbndhhjgjalecabDoor
