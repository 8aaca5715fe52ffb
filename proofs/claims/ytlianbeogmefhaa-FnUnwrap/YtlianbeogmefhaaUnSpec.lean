/- UnwrapCounts, as the model reckons it. -/
import Derived.Test.YtlianbeogmefhaaUnImpl
namespace Go.Proofs.Ytlianbeogmefhaa
open Go.RowKit

set_option maxHeartbeats 400000 in
theorem specUn_size (a : Option Addr) (len cap : Nat) (s : Int) (w : World) (h : sizeB s = false) :
    Calls Try.prog 8 #[.slice a len cap, .int .i64 s] w fun e w' => e = .returned (.tuple #[.slice none 0 0, .bool false]) ∧ w' = w := by
  go_enter Try.func8, Try.ntmps8
  go_wp2_with (go_at_call 22; refine (l8Size_any s _).mono ?_; rintro e w' ⟨rfl, rfl⟩; rw [h])
  go_ret2
  exact ⟨rfl, rfl⟩
set_option maxHeartbeats 400000 in
theorem specUn_len (a : Option Addr) (len cap : Nat) (s : Int) (w : World) (h : sizeB s = true) (hl : len < 1 ∨ 60 < len) (hl2 : len ≤ 1048576) :
    Calls Try.prog 8 #[.slice a len cap, .int .i64 s] w fun e w' => e = .returned (.tuple #[.slice none 0 0, .bool false]) ∧ w' = w := by
  by_cases h1 : len < 1
  · have j1 : (len : Int) < 1 := by omega
    go_enter Try.func8, Try.ntmps8
    go_wp2_with (go_at_call 22; refine (l8Size_any s _).mono ?_; rintro e w' ⟨rfl, rfl⟩; rw [h])
    go_ret2
    exact ⟨rfl, rfl⟩
  · have j1 : ¬ (len : Int) < 1 := by omega
    have j2 : (60 : Int) < (len : Int) := by omega
    go_enter Try.func8, Try.ntmps8
    go_wp2_with (go_at_call 22; refine (l8Size_any s _).mono ?_; rintro e w' ⟨rfl, rfl⟩; rw [h])
    go_ret2
    exact ⟨rfl, rfl⟩

set_option maxHeartbeats 2000000 in
theorem specUn_in (a : Option Addr) (len cap : Nat) (f : Nat → Int) (s : Int) (w : World) (hA : IL w a len f) (h : sizeB s = true) (h1 : 1 ≤ len) (h2 : len ≤ 60) :
    Calls Try.prog 8 #[.slice a len cap, .int .i64 s] w fun e w' => AnsU w w' e f s len ∧ Below w.heap.size w w' := by
  obtain ⟨i0, hi, hzz⟩ := Option.map_eq_some_iff.1 infoI
  simp only [Prod.mk.injEq] at hzz
  obtain ⟨hz0, hz1, hz2⟩ := hzz
  have hs := sizeB_t.1 h
  have j1 : ¬ (len : Int) < 1 := by omega
  have j2 : ¬ (60 : Int) < (len : Int) := by omega
  obtain ⟨b, off, rfl, hbw, hcell⟩ := hA (by omega)
  clear hA
  have hok : okU f s len = okK f s len := by simp [okU, h, h1, h2]
  go_enter Try.func8, Try.ntmps8
  go_wp2_with (go_at_call 22; refine (l8Size_any s _).mono ?_; rintro e w' ⟨rfl, hw'⟩; have hs' := hw'.symm; clear hw'; subst hs'; rw [h])
  go_loopw [6, 25] (fun v i wr => ∃ k : Nat, k ≤ len ∧ i = .int .i64 k ∧ okK f s k = true ∧ Own wr w.heap.size v k (un f s) ∧ Below w.heap.size w wr) (fun _ i _ => len - (intOf i).toNat)
  case atStart => exact ⟨0, Nat.zero_le _, rfl, rfl, World.ownsRow_nil _ _ _ _, Below.refl _ _⟩
  case round =>
    obtain ⟨k, hk, rfl, hokk, hown, hB⟩ := hrel
    by_cases hlt : k < len
    · have hck : wr.cell? ⟨b, off + k, none⟩ = some (.int .i64 (f k)) := (hB.cell (p := ⟨b, _, none⟩) hbw).trans (hcell k hlt)
      have j3 : (k : Int) < (len : Int) := by omega
      by_cases c0 : f k < 0
      · have hno := okK_false (n := len) (k := k + 1) (f := f) (s := s) (by simp [okK]; omega) hlt
        clear hcell
        go_wp2
        go_ret2
        exact ⟨.inl ⟨hok.trans hno, rfl⟩, hB⟩
      by_cases c1 : s ≤ f k
      · have hno := okK_false (n := len) (k := k + 1) (f := f) (s := s) (by simp [okK]; omega) hlt
        clear hcell
        go_wp2
        go_ret2
        exact ⟨.inl ⟨hok.trans hno, rfl⟩, hB⟩
      have hok1 : okK f s (k + 1) = true := by simp [okK, hokk]; omega
      have hbase : w.heap.size ≤ wr.heap.size := hB.size
      by_cases k0 : k = 0
      · subst k0
        have hck' : wr.cell? ⟨b, off, none⟩ = some (.int .i64 (un f s 0)) := hck
        have c0' : ¬ un f s 0 < 0 := c0
        have c1' : ¬ s ≤ un f s 0 := c1
        clear hcell hck c0 c1
        go_wp2_with (at_builtin; refine wpList_append_own _ rfl _ _ 23 rfl w.heap.size 3 i0 (.int .i64 0) 1 8 Try.underlying23 hi hz0 hz1 hz2 rfl (by decide) _ _ _ rfl (World.ownsRow.alloc hown _) ⟨wr.heap.size, 0, none⟩ 1 1 [.int .i64 (un f s 0)] rfl rfl (cell_one_new _ _ _) (fun x hx => by simp at hx; subst hx; rfl) (by unfold maxLen; omega) (by omega) (by simp; omega) ?_; intro v' w3 hown' hgrow3 _)
        have hB3 := (hB.alloc hB.size (.cells #[.int .i64 (un f s 0)] 3)).grown hgrow3 (by simp; omega) (fun q hq => (World.ownsRow.lt hown q hq).1)
        exact ⟨⟨1, by omega, rfl, hok1, by unfold Own; rw [vL_succ]; exact hown', hB3⟩, by simp [intOf]; omega⟩
      · obtain ⟨g, gc, rfl, hg, hP⟩ := hown.some (by omega)
        have hcg := hP.c (k - 1) (by omega)
        have hcl : wr.cell? ⟨b, off + (k - 1), none⟩ = some (.int .i64 (f (k - 1))) := (hB.cell (p := ⟨b, _, none⟩) hbw).trans (hcell (k - 1) (by omega))
        have hub := un_bd hokk (by omega) hs.2 (k - 1) (by omega)
        have hfb := okK_at hokk (i := k - 1) (by omega)
        have hun : un f s k = if s < 2 * ((f k - f (k - 1)) % s) then un f s (k - 1) + ((f k - f (k - 1)) % s - s) else un f s (k - 1) + (f k - f (k - 1)) % s := by
          obtain ⟨m, rfl⟩ : ∃ m, k = m + 1 := ⟨k - 1, by omega⟩
          have e := un_spec hokk (i := m) (by omega)
          simp only [Nat.add_sub_cancel]
          rw [← e]
          simp only [un, near]
          split <;> omega
        have hdb := emod_bd (f k - f (k - 1)) (s := s) (by omega)
        generalize hd : (f k - f (k - 1)) % s = d at hun hdb
        have j4 : (0 : Int) < (k : Int) := by omega
        have j5 : (0 : Int) ≤ (k : Int) - 1 := by omega
        have j6 : (k : Int) - 1 < (k : Int) := by omega
        have j7 : (k : Int) - 1 < (len : Int) := by omega
        have j8 : ¬ (k : Int) = 0 := by omega
        clear hcell
        by_cases c2 : s < 2 * d
        · rw [if_pos c2] at hun
          go_wp2_with (first
            | (go_at_call 18; refine (l8Mod_any _ s _ hs.1 hs.2).mono ?_; rintro e w' ⟨rfl, hw'⟩; have hs' := hw'.symm; clear hw'; subst hs'; rw [hd])
            | (at_builtin; refine wpList_append_own _ rfl _ _ 23 rfl w.heap.size 3 i0 (.int .i64 0) 1 8 Try.underlying23 hi hz0 hz1 hz2 rfl (by decide) _ _ _ rfl (World.ownsRow.alloc hown _) ⟨wr.heap.size, 0, none⟩ 1 1 [.int .i64 (un f s (k - 1) + (d - s))] rfl rfl (cell_one_new _ _ _) (fun x hx => by simp at hx; subst hx; rfl) (by unfold maxLen; omega) (by omega) (by simp; omega) ?_; intro v' w3 hown' hgrow3 _))
          have hgrow3' : (wr.alloc (.cells #[.int .i64 (un f s (k - 1) + (d - s))] 3)).grownBy w3 (some g) := hgrow3
          have hB3 := (hB.alloc hB.size (.cells #[.int .i64 (un f s (k - 1) + (d - s))] 3)).grown hgrow3' (by simp; omega) (fun q hq => by cases hq; exact hg)
          exact ⟨⟨k + 1, by omega, by go_num, hok1, by unfold Own; rw [vL_succ, hun]; exact hown', hB3⟩, by simp [intOf]; omega⟩
        · rw [if_neg c2] at hun
          go_wp2_with (first
            | (go_at_call 18; refine (l8Mod_any _ s _ hs.1 hs.2).mono ?_; rintro e w' ⟨rfl, hw'⟩; have hs' := hw'.symm; clear hw'; subst hs'; rw [hd])
            | (at_builtin; refine wpList_append_own _ rfl _ _ 23 rfl w.heap.size 3 i0 (.int .i64 0) 1 8 Try.underlying23 hi hz0 hz1 hz2 rfl (by decide) _ _ _ rfl (World.ownsRow.alloc hown _) ⟨wr.heap.size, 0, none⟩ 1 1 [.int .i64 (un f s (k - 1) + d)] rfl rfl (cell_one_new _ _ _) (fun x hx => by simp at hx; subst hx; rfl) (by unfold maxLen; omega) (by omega) (by simp; omega) ?_; intro v' w3 hown' hgrow3 _))
          have hgrow3' : (wr.alloc (.cells #[.int .i64 (un f s (k - 1) + d)] 3)).grownBy w3 (some g) := hgrow3
          have hB3 := (hB.alloc hB.size (.cells #[.int .i64 (un f s (k - 1) + d)] 3)).grown hgrow3' (by simp; omega) (fun q hq => by cases hq; exact hg)
          exact ⟨⟨k + 1, by omega, by go_num, hok1, by unfold Own; rw [vL_succ, hun]; exact hown', hB3⟩, by simp [intOf]; omega⟩
    · have hke : k = len := by omega
      subst hke
      obtain ⟨g, gc, rfl, hg, hP⟩ := hown.some (by omega)
      clear hcell hown
      go_wp2
      go_ret2
      exact ⟨.inr ⟨hok.trans hokk, g, _, rfl, hg, hP⟩, hB⟩

theorem okU_size {f : Nat → Int} {s : Int} {len : Nat} (h : sizeB s = false) : okU f s len = false := by simp [okU, h]
theorem okU_len {f : Nat → Int} {s : Int} {len : Nat} (h : len < 1 ∨ 60 < len) : okU f s len = false := by
  unfold okU
  have : (decide (1 ≤ len) && decide (len ≤ 60)) = false := by simp; omega
  rw [this]; simp
theorem implUn_any (a : Option Addr) (len cap : Nat) (f : Nat → Int) (s : Int) (w : World) (hl : len ≤ 1048576) (hA : IL w a len f) :
    Calls Try.prog 7 #[.slice a len cap, .int .i64 s] w fun e w' => AnsU w w' e f s len ∧ Below w.heap.size w w' := by
  cases h : sizeB s with
  | false => exact (implUn_size a len cap s w h).mono fun e w' ⟨he, hw⟩ => ⟨.inl ⟨okU_size h, he⟩, by subst hw; exact Below.refl _ _⟩
  | true =>
    by_cases h1 : len < 1 ∨ 60 < len
    · exact (implUn_len a len cap s w h h1 hl).mono fun e w' ⟨he, hw⟩ => ⟨.inl ⟨okU_len h1, he⟩, by subst hw; exact Below.refl _ _⟩
    · exact implUn_in a len cap f s w hA h (by omega) (by omega)
theorem specUn_any (a : Option Addr) (len cap : Nat) (f : Nat → Int) (s : Int) (w : World) (hl : len ≤ 1048576) (hA : IL w a len f) :
    Calls Try.prog 8 #[.slice a len cap, .int .i64 s] w fun e w' => AnsU w w' e f s len ∧ Below w.heap.size w w' := by
  cases h : sizeB s with
  | false => exact (specUn_size a len cap s w h).mono fun e w' ⟨he, hw⟩ => ⟨.inl ⟨okU_size h, he⟩, by subst hw; exact Below.refl _ _⟩
  | true =>
    by_cases h1 : len < 1 ∨ 60 < len
    · exact (specUn_len a len cap s w h h1 hl).mono fun e w' ⟨he, hw⟩ => ⟨.inl ⟨okU_len h1, he⟩, by subst hw; exact Below.refl _ _⟩
    · exact specUn_in a len cap f s w hA h (by omega) (by omega)
end Go.Proofs.Ytlianbeogmefhaa
