/- Where a state's Firsts lead, as the model goes. -/
import Derived.Test.YtjefakfongehdaaRChBase
import Derived.Test.YtjefakfongehdaaRChM
namespace Go.Proofs.YtjefakfongehdaaR
open Go.RowKit
set_option maxHeartbeats 2000000 in
theorem sEnter (a b : Option Addr) (n c m d : Nat) (f g : Nat → Int) (s : Nat) (w : World) (H : Gch n f m g) (hs : s < n) (hf : IL w a (n * 2) f) :
    Calls Try.prog 34 #[chv a n c b m d, .int .i64 (s : Int)] w fun e w' => e = .returned (.int .i64 (ent n f s : Nat)) ∧ Below w.heap.size w w' := by
  have hb0 : Below w.heap.size w (w.alloc (chO a n c b m d 26)) := (Below.refl _ _).alloc (Nat.le_refl _) _
  have b0 := bx_new (w := w) (chL a n c b m d) 26 rfl
  have hf0 := hf.below hb0
  have HH : Hid (Gch n f m g) := H
  have hn12 := H.n12
  clear H hf
  go_enter Try.func34, Try.ntmps34
  go_wp2
  generalize w.alloc (chO a n c b m d 26) = w1 at *
  go_loopw [1] (fun i wr => ∃ t : Nat, t < n ∧ i = .int .i64 (t : Int) ∧ Hid (ent n f t = ent n f s) ∧ wr = w1) (fun i _ => n - (intOf i).toNat)
  case atStart => exact ⟨s, hs, rfl, (rfl : ent n f s = ent n f s), rfl⟩
  case round =>
    obtain ⟨t, ht, rfl, HE, hw⟩ := hrel
    have hw' := hw.symm
    clear hw
    subst hw'
    obtain ⟨gb, go_, rfl, gl_, y0, y1⟩ := il_two hf0 ht
    have x0 := b0.c0
    have j0 : (0 : Int) ≤ (t : Int) := by omega
    have j1 : (t : Int) < (n : Int) := by omega
    by_cases hF : 0 ≤ f (t * 2 + 1)
    · obtain ⟨h1, h2, h3⟩ := HH.out.first ht hF
      have HE2 : Hid (ent n f (f (t * 2 + 1)).toNat = ent n f s) := (HH.out.ent_go ht hF).symm.trans HE.out
      obtain ⟨u, hu⟩ : ∃ u, (f (t * 2 + 1)).toNat = u := ⟨_, rfl⟩
      rw [hu] at h1 h2 h3 HE2
      rw [← h3] at y1
      clear hu h3 hF HE y0
      have k0 : (0 : Int) ≤ (u : Int) := by omega
      go_wp2
      exact ⟨⟨u, h2, rfl, HE2, trivial⟩, by simp [intOf]; omega⟩
    · have HE2 : Hid (ent n f t = ent n f s) := HE
      have HE3 : Hid (t = ent n f s) := (HH.out.ent_end hF).symm.trans HE.out
      generalize f (t * 2 + 1) = B at *
      have k0 : ¬ 0 ≤ B := hF
      clear HE HE2 y0
      go_wp2
      go_ret
      exact ⟨by rw [← HE3.out]; rfl, hb0⟩
end Go.Proofs.YtjefakfongehdaaR
