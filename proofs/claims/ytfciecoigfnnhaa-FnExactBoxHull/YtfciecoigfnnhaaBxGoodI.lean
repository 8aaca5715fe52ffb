/- Which boxes are good, as the program says it. -/
import Derived.Test.YtfciecoigfnnhaaBxNone
namespace Go.Proofs.Ytfciecoigfnnhaa
open Go.RowKit

set_option maxHeartbeats 1000000 in
theorem implGoodBox (a b : Option Addr) (n c m d : Nat) (f g : Nat → Nat) (w : World) (hn : n ≤ 1048576) (hm : m ≤ 1048576) (hf : FS w a n f) (hg : FS w b m g) :
    Calls Try.prog 94 #[bxv a n c b m d] w fun e w' => e = .returned (.bool (boxB n f m g)) ∧ Below w.heap.size w w' := by
  have hb0 : Below w.heap.size w (w.alloc (bxO a n c b m d 45)) := (Below.refl _ _).alloc (Nat.le_refl _) _
  have bA := bx_new (w := w) (bxL a n c b m d) 45 rfl
  have x0 := bA.c0
  have x1 := bA.c1
  by_cases c1 : n < 1
  · have e0 : boxB n f m g = false := by unfold boxB; simp; omega
    have hn0 : n = 0 := by omega
    subst hn0
    rw [e0]
    clear hf hg bA
    go_enter Try.func94, Try.ntmps94
    go_wp2
    go_ret
    exact ⟨rfl, hb0⟩
  by_cases c2 : 3 < n
  · have e0 : boxB n f m g = false := by unfold boxB; simp; omega
    rw [e0]
    have j1 : ¬ (n : Int) < 1 := by omega
    have j2 : (3 : Int) < (n : Int) := by omega
    clear hf hg bA
    go_enter Try.func94, Try.ntmps94
    go_wp2
    go_ret
    exact ⟨rfl, hb0⟩
  have j1 : ¬ (n : Int) < 1 := by omega
  have j2 : ¬ (3 : Int) < (n : Int) := by omega
  by_cases c3 : m = n
  · subst c3
    have k1 := implGoods_any a m c f (w.alloc (bxO a m c b m d 45)) (hf.below hb0)
    have k2 := implGoods_any b m d g (w.alloc (bxO a m c b m d 45)) (hg.below hb0)
    have k3 := implNone a b m c d f g (w.alloc (bxO a m c b m d 45)) (hf.below hb0) (hg.below hb0)
    have e1 : goodsB f m = allG f m := by unfold goodsB; simp; omega
    have e2 : goodsB g m = allG g m := by unfold goodsB; simp; omega
    have e0 : boxB m f m g = (allG f m && allG g m && noneB f g m) := by rw [← allO_cut]; unfold boxB; simp; omega
    rw [e0]
    rw [e1] at k1
    rw [e2] at k2
    have HB : Hid _ := hb0
    clear hf hg bA e0 e1 e2 hb0
    cases q1 : allG f m with
    | false =>
      rw [q1] at k1
      go_enter Try.func94, Try.ntmps94
      go_wp2_with fail
      refine k1.mono ?_
      rintro e w' ⟨rfl, hw'⟩
      have hs := hw'.symm
      clear hw'
      subst hs
      go_wp2
      go_ret
      exact ⟨rfl, HB.out⟩
    | true =>
      rw [q1] at k1
      cases q2 : allG g m with
      | false =>
        rw [q2] at k2
        go_enter Try.func94, Try.ntmps94
        go_wp2_with fail
        refine k1.mono ?_
        rintro e w' ⟨rfl, hw'⟩
        have hs := hw'.symm
        clear hw'
        subst hs
        go_wp2_with fail
        refine k2.mono ?_
        rintro e w' ⟨rfl, hw'⟩
        have hs := hw'.symm
        clear hw'
        subst hs
        go_wp2
        go_ret
        exact ⟨rfl, HB.out⟩
      | true =>
        rw [q2] at k2
        go_enter Try.func94, Try.ntmps94
        go_wp2_with fail
        refine k1.mono ?_
        rintro e w' ⟨rfl, hw'⟩
        have hs := hw'.symm
        clear hw'
        subst hs
        go_wp2_with fail
        refine k2.mono ?_
        rintro e w' ⟨rfl, hw'⟩
        have hs := hw'.symm
        clear hw'
        subst hs
        go_wp2_with fail
        refine k3.mono ?_
        rintro e w3 ⟨rfl, hb3⟩
        have hB3 := stepA HB.out hb3
        clear k1 k2 k3
        go_wp2
        go_ret
        exact ⟨by simp, hB3⟩
  · have e0 : boxB n f m g = false := by unfold boxB; simp; omega
    rw [e0]
    have j3 : ((m : Int) != (n : Int)) = true := by simp; omega
    clear hf hg bA
    go_enter Try.func94, Try.ntmps94
    go_wp2
    go_ret
    exact ⟨rfl, hb0⟩
end Go.Proofs.Ytfciecoigfnnhaa
