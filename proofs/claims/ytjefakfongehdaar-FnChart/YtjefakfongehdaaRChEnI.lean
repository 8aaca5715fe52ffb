/- Where a state's Firsts lead, as the program goes. -/
import Derived.Test.YtjefakfongehdaaRChGcI
namespace Go.Proofs.YtjefakfongehdaaR
open Go.RowKit
set_option maxHeartbeats 1000000 in
theorem isLeaf_any (a : Option Addr) (n c : Nat) (f : Nat → Int) (t : Nat) (w : World) (ht : t < n) (hf : IL w a (n * 2) f) :
    Calls Try.prog 36 #[.slice a n c, .int .i64 (t : Int)] w fun e w' => e = .returned (.bool (f (t * 2 + 1) == -1)) ∧ w' = w := by
  obtain ⟨gb, go_, rfl, gl_, y0, y1⟩ := il_two hf ht
  have j0 : (0 : Int) ≤ (t : Int) := by omega
  have j1 : (t : Int) < (n : Int) := by omega
  have kN := fun w => isNum_any (t : Int) (some ⟨gb, go_, none⟩) n c w
  have hq : numB (t : Int) n = true := by unfold numB; simp; omega
  rw [hq] at kN
  generalize f (t * 2 + 1) = B at *
  clear hf hq
  go_enter Try.func36, Try.ntmps36
  go_wp2_with fail
  refine (kN _).mono ?_
  rintro e w2 ⟨rfl, hw2⟩
  have hs2 := hw2.symm
  clear hw2
  subst hs2
  go_wp2
  go_ret
  exact ⟨rfl, rfl⟩
set_option maxHeartbeats 1000000 in
theorem isLeaf_not (a : Option Addr) (n c : Nat) (s : Int) (w : World) (h : numB s n = false) :
    Calls Try.prog 36 #[.slice a n c, .int .i64 s] w fun e w' => e = .returned (.bool false) ∧ w' = w := by
  have kN := fun w => isNum_any s a n c w
  rw [h] at kN
  clear h
  go_enter Try.func36, Try.ntmps36
  go_wp2_with fail
  refine (kN _).mono ?_
  rintro e w2 ⟨rfl, hw2⟩
  have hs2 := hw2.symm
  clear hw2
  subst hs2
  go_wp2
  go_ret
  exact ⟨rfl, rfl⟩
set_option maxHeartbeats 2000000 in
theorem iUnder (a : Option Addr) (n c m : Nat) (f g : Nat → Int) (s : Nat) (w : World) (H : Gch n f m g) (hs : s < n) (hf : IL w a (n * 2) f) :
    Calls Try.prog 31 #[.slice a n c, .int .i64 (s : Int)] w fun e w' => e = .returned (.int .i64 (ent n f s : Nat)) ∧ w' = w := by
  have HH : Hid (Gch n f m g) := H
  have hn12 := H.n12
  have kL := fun t w (ht : t < n) h => isLeaf_any a n c f t w ht h
  clear H
  go_enter Try.func31, Try.ntmps31
  go_wp2_with fail
  go_loopw [1] (fun i wr => ∃ t : Nat, t < n ∧ i = .int .i64 (t : Int) ∧ Hid (ent n f t = ent n f s) ∧ wr = w) (fun i _ => n - (intOf i).toNat)
  case atStart => exact ⟨s, hs, rfl, (rfl : ent n f s = ent n f s), rfl⟩
  case round =>
    obtain ⟨t, ht, rfl, HE, hw⟩ := hrel
    have hw' := hw.symm
    clear hw
    subst hw'
    obtain ⟨gb, go_, rfl, gl_, y0, y1⟩ := il_two hf ht
    have j0 : (0 : Int) ≤ (t : Int) := by omega
    have j1 : (t : Int) < (n : Int) := by omega
    have kT := kL t w ht hf
    clear kL
    by_cases hF : 0 ≤ f (t * 2 + 1)
    · obtain ⟨h1, h2, h3⟩ := HH.out.first ht hF
      have HE2 : Hid (ent n f (f (t * 2 + 1)).toNat = ent n f s) := (HH.out.ent_go ht hF).symm.trans HE.out
      obtain ⟨u, hu⟩ : ∃ u, (f (t * 2 + 1)).toNat = u := ⟨_, rfl⟩
      rw [hu] at h1 h2 h3 HE2
      have hq : (f (t * 2 + 1) == -1) = false := by simp; omega
      rw [hq] at kT
      rw [← h3] at y1
      clear hu h3 hF HE y0 hq
      go_wp2_with fail
      refine kT.mono ?_
      rintro e w2 ⟨rfl, hw2⟩
      have hs2 := hw2.symm
      clear hw2
      subst hs2
      go_wp2
      exact ⟨⟨u, h2, rfl, HE2, trivial⟩, by simp [intOf]; omega⟩
    · have HE3 : Hid (t = ent n f s) := (HH.out.ent_end hF).symm.trans HE.out
      have hm1 : f (t * 2 + 1) = -1 := HH.out.leaf t ht fun hk => hF (HH.out.kid t ht hk).1
      rw [hm1] at kT
      have hq : ((-1 : Int) == -1) = true := rfl
      rw [hq] at kT
      clear HE hF hm1 hq y0 y1
      go_wp2_with fail
      refine kT.mono ?_
      rintro e w2 ⟨rfl, hw2⟩
      have hs2 := hw2.symm
      clear hw2
      subst hs2
      go_wp2
      go_ret
      exact ⟨by rw [← HE3.out]; rfl, rfl⟩
end Go.Proofs.YtjefakfongehdaaR
