/- Which boxes are good, as the specification says it. -/
import Derived.Test.YtfciecoigfnnhaaBxMath
namespace Go.Proofs.Ytfciecoigfnnhaa
open Go.RowKit

set_option maxHeartbeats 1000000 in
theorem specGoodBox (a b : Option Addr) (n c m d : Nat) (f g : Nat → Nat) (w : World) (hn : n ≤ 1048576) (hm : m ≤ 1048576) (hf : FS w a n f) (hg : FS w b m g) :
    Calls Try.prog 93 #[bxv a n c b m d] w fun e w' => e = .returned (.bool (boxB n f m g)) ∧ Below w.heap.size w w' := by
  have hb0 : Below w.heap.size w (w.alloc (bxO a n c b m d 45)) := (Below.refl _ _).alloc (Nat.le_refl _) _
  have bA := bx_new (w := w) (bxL a n c b m d) 45 rfl
  by_cases c1 : n < 1
  · have e0 : boxB n f m g = false := by unfold boxB; simp; omega
    have hn0 : n = 0 := by omega
    subst hn0
    rw [e0]
    clear hf hg
    go_enter Try.func93, Try.ntmps93
    go_wp2
    go_ret
    exact ⟨rfl, hb0⟩
  by_cases c2 : 3 < n
  · have e0 : boxB n f m g = false := by unfold boxB; simp; omega
    rw [e0]
    have j1 : ¬ (n : Int) < 1 := by omega
    have j2 : (3 : Int) < (n : Int) := by omega
    clear hf hg
    go_enter Try.func93, Try.ntmps93
    go_wp2
    go_ret
    exact ⟨rfl, hb0⟩
  have j1 : ¬ (n : Int) < 1 := by omega
  have j2 : ¬ (3 : Int) < (n : Int) := by omega
  by_cases c3 : m = n
  · subst c3
    obtain ⟨_, hfb, hfc⟩ := hf
    obtain ⟨_, hgb, hgc⟩ := hg
    obtain ⟨b1, o1, rfl, hl1, hc1⟩ := hfc (by omega)
    obtain ⟨b2, o2, rfl, hl2, hc2⟩ := hgc (by omega)
    have e0 : boxB m f m g = allO f g m := by unfold boxB; simp; omega
    rw [e0]
    have x0 := bA.c0
    have x1 := bA.c1
    have X : Hid (∀ i, i < m → (w.alloc (bxO (some ⟨b1, o1, none⟩) m c (some ⟨b2, o2, none⟩) m d 45)).cell? ⟨b1, o1 + i, none⟩ = some (.float .f64 (f i))) := fun i hi => (hb0.cell (p := ⟨b1, o1 + i, none⟩) hl1).trans (hc1 i hi)
    have Y : Hid (∀ i, i < m → (w.alloc (bxO (some ⟨b1, o1, none⟩) m c (some ⟨b2, o2, none⟩) m d 45)).cell? ⟨b2, o2 + i, none⟩ = some (.float .f64 (g i))) := fun i hi => (hb0.cell (p := ⟨b2, o2 + i, none⟩) hl2).trans (hc2 i hi)
    clear hfc hgc hc1 hc2 bA e0
    have HB : Hid (Below w.heap.size w (w.alloc (bxO (some ⟨b1, o1, none⟩) m c (some ⟨b2, o2, none⟩) m d 45))) := hb0
    clear hb0
    go_enter Try.func93, Try.ntmps93
    go_wp2
    go_loopw [26] (fun i wr => ∃ k : Nat, k ≤ m ∧ i = .int .i64 k ∧ allO f g k = true ∧ ∃ q, wr = (w.alloc (bxO (some ⟨b1, o1, none⟩) m c (some ⟨b2, o2, none⟩) m d 45)).drewN q) (fun i _ => m - (intOf i).toNat)
    case atStart => exact ⟨0, Nat.zero_le _, rfl, rfl, 0, rfl⟩
    case round =>
      obtain ⟨k, hk, rfl, hall, hw⟩ := hrel
      have HA : Hid (allO f g k = true) := hall
      clear hall
      obtain ⟨q, hw⟩ := hw
      have HW : Hid (wr = (w.alloc (bxO (some ⟨b1, o1, none⟩) m c (some ⟨b2, o2, none⟩) m d 45)).drewN q) := hw
      have HB2 : Hid (Below w.heap.size w wr) := (by rw [hw]; exact below_dr HB.out q : Below w.heap.size w wr)
      have x0' : wr.cell? ⟨w.heap.size, 0, none⟩ = some (.slice (some ⟨b1, o1, none⟩) m c) := by rw [hw]; exact x0
      have x1' : wr.cell? ⟨w.heap.size, 1, none⟩ = some (.slice (some ⟨b2, o2, none⟩) m d) := by rw [hw]; exact x1
      clear hw x0 x1
      by_cases hlt : k < m
      · have y0 : wr.cell? ⟨b1, o1 + k, none⟩ = some (.float .f64 (f k)) := by rw [HW.out]; exact X.out k hlt
        have y1 : wr.cell? ⟨b2, o2 + k, none⟩ = some (.float .f64 (g k)) := by rw [HW.out]; exact Y.out k hlt
        have hf0 := hfb k hlt
        have hg0 := hgb k hlt
        have i0 : (0 : Int) ≤ (k : Int) := by omega
        have i1 : (k : Int) < (m : Int) := by omega
        have hno : okR (f k) (g k) = false → allO f g m = false := allO_not hlt
        have hyes : okR (f k) (g k) = true → allO f g (k + 1) = true := fun q => by simp [allO, HA.out, q]
        generalize f k = x at y0 hf0 hno hyes
        generalize g k = y at y1 hg0 hno hyes
        clear X Y hfb hgb
        cases e1 : goodB x with
        | false =>
          have h0 := hno (by simp [okR, e1])
          clear hno hyes
          go_wp2
          go_quiet ((go_at_call 107; exact Calls.quiet_of_same (specGood_any _ _ hf0)))
          go_wp2
          go_ret
          exact ⟨ret_bool h0.symm, below_dr HB2.out _⟩
        | true =>
          cases e2 : goodB y with
          | false =>
            have h0 := hno (by simp [okR, e2])
            clear hno hyes
            go_wp2
            go_quiet ((go_at_call 107; first | exact Calls.quiet_of_same (specGood_any _ _ hf0) | exact Calls.quiet_of_same (specGood_any _ _ hg0)))
            go_wp2
            go_ret
            exact ⟨ret_bool h0.symm, below_dr HB2.out _⟩
          | true =>
            cases e3 : (FloatKind.f64.format.order x y == some .gt) with
            | true =>
              have h0 := hno (by simp [okR, gtF, e3])
              clear hno hyes
              go_wp2
              go_quiet ((go_at_call 107; first | exact Calls.quiet_of_same (specGood_any _ _ hf0) | exact Calls.quiet_of_same (specGood_any _ _ hg0)))
              go_wp2
              go_ret
              exact ⟨ret_bool h0.symm, below_dr HB2.out _⟩
            | false =>
              have h0 := hyes (by simp [okR, gtF, e1, e2, e3])
              clear hno hyes
              go_wp2
              go_quiet ((go_at_call 107; first | exact Calls.quiet_of_same (specGood_any _ _ hf0) | exact Calls.quiet_of_same (specGood_any _ _ hg0)))
              go_wp2
              exact ⟨⟨k + 1, by omega, by go_num, h0, _, by rw [HW.out, World.drewN_drewN]⟩, by simp [intOf]; omega⟩
      · have hke : k = m := by omega
        subst hke
        clear X Y
        go_wp2
        go_ret
        exact ⟨ret_bool HA.out.symm, HB2.out⟩
  · have e0 : boxB n f m g = false := by unfold boxB; simp; omega
    rw [e0]
    have x0 := bA.c0
    have x1 := bA.c1
    have j3 : ((m : Int) != (n : Int)) = true := by simp; omega
    clear hf hg bA
    go_enter Try.func93, Try.ntmps93
    go_wp2
    go_ret
    exact ⟨rfl, hb0⟩
end Go.Proofs.Ytfciecoigfnnhaa
