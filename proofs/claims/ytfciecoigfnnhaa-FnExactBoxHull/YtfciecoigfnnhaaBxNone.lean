/- Whether no float of a list lies above its partner of another: impl.noneAbove. -/
import Derived.Test.YtfciecoigfnnhaaBxGoods
namespace Go.Proofs.Ytfciecoigfnnhaa
open Go.RowKit

/-- are the first k floats not above their partners -/
def noneB (f g : Nat → Nat) : Nat → Bool
  | 0 => true
  | k + 1 => noneB f g k && !gtF (f k) (g k)
theorem noneB_at {f g : Nat → Nat} {n i : Nat} (h : noneB f g n = true) (hi : i < n) : gtF (f i) (g i) = false := by
  induction n with
  | zero => omega
  | succ n ih =>
    simp only [noneB, Bool.and_eq_true, Bool.not_eq_true'] at h
    by_cases e : i = n
    · subst e; exact h.2
    · exact ih h.1 (by omega)
theorem noneB_not {f g : Nat → Nat} {n i : Nat} (hi : i < n) (h : gtF (f i) (g i) = true) : noneB f g n = false := by
  cases e : noneB f g n with
  | false => rfl
  | true => have := noneB_at e hi; rw [h] at this; cases this
theorem gt_swap (x y : Nat) : gtF x y = ltF y x := by
  unfold gtF ltF
  rw [ord_gt_iff, ord_lt_iff, Bool.and_comm (decide (rung x ≤ INF))]
theorem allO_cut (f g : Nat → Nat) (n : Nat) : allO f g n = (allG f n && allG g n && noneB f g n) := by
  induction n with
  | zero => rfl
  | succ n ih =>
    simp only [allO, allG, noneB, okR, ih]
    cases allG f n <;> cases allG g n <;> cases noneB f g n <;> cases goodB (f n) <;> cases goodB (g n) <;> simp
theorem allIn_cut (f g f2 g2 : Nat → Nat) (n : Nat) : allIn f g f2 g2 n = (noneB f2 f n && noneB g g2 n) := by
  induction n with
  | zero => rfl
  | succ n ih =>
    simp only [allIn, noneB, inR, ih, gt_swap (f2 n) (f n)]
    cases noneB f2 f n <;> cases noneB g g2 n <;> simp

set_option maxHeartbeats 1000000 in
theorem implNone (a b : Option Addr) (n c d : Nat) (f g : Nat → Nat) (w : World) (hf : FS w a n f) (hg : FS w b n g) :
    Calls Try.prog 65 #[.slice a n c, .slice b n d] w fun e w' => e = .returned (.bool (noneB f g n)) ∧ Below w.heap.size w w' := by
  have hn := hf.1
  have hf' : Hid _ := hf
  have hg' : Hid _ := hg
  clear hf hg
  go_enter Try.func65, Try.ntmps65
  go_wp2
  go_loopw [8] (fun i wr => ∃ k : Nat, k ≤ n ∧ i = .int .i64 k ∧ noneB f g k = true ∧ ∃ q, wr = w.drewN q) (fun i _ => n - (intOf i).toNat)
  case atStart => exact ⟨0, Nat.zero_le _, rfl, rfl, 0, rfl⟩
  case round =>
    obtain ⟨k, hk, rfl, hall, q, hw⟩ := hrel
    have HA : Hid (noneB f g k = true) := hall
    clear hall
    have HW : Hid _ := hw
    have HB2 : Hid (Below w.heap.size w wr) := (by rw [hw]; exact below_dr (Below.refl _ _) q : Below w.heap.size w wr)
    by_cases hlt : k < n
    · obtain ⟨b1, o1, rfl, hl1, hc1⟩ := hf'.out.2.2 (by omega)
      obtain ⟨b2, o2, rfl, hl2, hc2⟩ := hg'.out.2.2 (by omega)
      have y0 : wr.cell? ⟨b1, o1 + k, none⟩ = some (.float .f64 (f k)) := by rw [hw]; exact hc1 k hlt
      have y1 : wr.cell? ⟨b2, o2 + k, none⟩ = some (.float .f64 (g k)) := by rw [hw]; exact hc2 k hlt
      have i0 : (0 : Int) ≤ (k : Int) := by omega
      have i1 : (k : Int) < (n : Int) := by omega
      have hno : gtF (f k) (g k) = true → noneB f g n = false := noneB_not hlt
      have hyes : gtF (f k) (g k) = false → noneB f g (k + 1) = true := fun q => by simp [noneB, HA.out, q]
      clear hw hf' hg' hc1 hc2 hl1 hl2
      generalize f k = x at y0 hno hyes
      generalize g k = y at y1 hno hyes
      cases e3 : (FloatKind.f64.format.order x y == some .gt) with
      | true =>
        have h0 := hno (by simp [gtF, e3])
        clear hno hyes
        go_wp2
        go_quiet (fail)
        go_wp2
        go_ret
        exact ⟨ret_bool h0.symm, below_dr HB2.out _⟩
      | false =>
        have h0 := hyes (by simp [gtF, e3])
        clear hno hyes
        go_wp2
        go_quiet (fail)
        go_wp2
        exact ⟨⟨k + 1, by omega, by go_num, h0, _, by rw [HW.out, World.drewN_drewN]⟩, by simp [intOf]; omega⟩
    · have hke : k = n := by omega
      subst hke
      clear hw hf' hg'
      go_wp2
      go_ret
      exact ⟨ret_bool HA.out.symm, HB2.out⟩
end Go.Proofs.Ytfciecoigfnnhaa
