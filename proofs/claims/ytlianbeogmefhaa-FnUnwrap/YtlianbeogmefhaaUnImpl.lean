/- UnwrapCounts, as the program reckons it. -/
import Derived.Test.YtlianbeogmefhaaUnMath
import Derived.Test.YtlianbeogmefhaaInOwn
namespace Go.Proofs.Ytlianbeogmefhaa
open Go.RowKit

/-- the answer of UnwrapCounts -/
def AnsU (w w' : World) (e : Ending) (f : Nat → Int) (s : Int) (len : Nat) : Prop :=
  (okU f s len = false ∧ e = .returned (.tuple #[.slice none 0 0, .bool false])) ∨
  (okU f s len = true ∧ ∃ g cap, e = .returned (.tuple #[.slice (some ⟨g, 0, none⟩) len cap, .bool true]) ∧ w.heap.size ≤ g ∧ IP w' g len (un f s))

set_option maxHeartbeats 400000 in
theorem nearest_any (a c s : Int) (w : World) (h1 : 2 ≤ s) (h2 : s ≤ 1000000) (ha : -1000000000 ≤ a ∧ a ≤ 1000000000) (hc : -1000000 ≤ c ∧ c ≤ 1000000) :
    Calls Try.prog 21 #[.int .i64 a, .int .i64 c, .int .i64 s] w fun e w' => e = .returned (.int .i64 (near a c s)) ∧ w' = w := by
  have hb := emod_bd (c - a) (s := s) (by omega)
  unfold near
  generalize hu : (c - a) % s = u at hb
  by_cases hn : s < 2 * u
  · rw [if_pos hn]
    go_enter Try.func21, Try.ntmps21
    go_wp2_with (go_at_call 24; refine (wrap_any _ s _ h1 h2).mono ?_; rintro e w' ⟨rfl, rfl⟩; rw [hu])
    go_ret
    exact ⟨rfl, rfl⟩
  · rw [if_neg hn]
    go_enter Try.func21, Try.ntmps21
    go_wp2_with (go_at_call 24; refine (wrap_any _ s _ h1 h2).mono ?_; rintro e w' ⟨rfl, rfl⟩; rw [hu])
    go_ret
    exact ⟨rfl, rfl⟩

set_option maxHeartbeats 400000 in
theorem implUn_size (a : Option Addr) (len cap : Nat) (s : Int) (w : World) (h : sizeB s = false) :
    Calls Try.prog 7 #[.slice a len cap, .int .i64 s] w fun e w' => e = .returned (.tuple #[.slice none 0 0, .bool false]) ∧ w' = w := by
  go_enter Try.func7, Try.ntmps7
  go_wp2_with (go_at_call 20; refine (goodSize_any s _).mono ?_; rintro e w' ⟨rfl, rfl⟩; rw [h])
  go_ret2
  exact ⟨rfl, rfl⟩
set_option maxHeartbeats 400000 in
theorem implUn_len (a : Option Addr) (len cap : Nat) (s : Int) (w : World) (h : sizeB s = true) (hl : len < 1 ∨ 60 < len) (hl2 : len ≤ 1048576) :
    Calls Try.prog 7 #[.slice a len cap, .int .i64 s] w fun e w' => e = .returned (.tuple #[.slice none 0 0, .bool false]) ∧ w' = w := by
  by_cases h1 : len < 1
  · have j1 : (len : Int) < 1 := by omega
    go_enter Try.func7, Try.ntmps7
    go_wp2_with (go_at_call 20; refine (goodSize_any s _).mono ?_; rintro e w' ⟨rfl, rfl⟩; rw [h])
    go_ret2
    exact ⟨rfl, rfl⟩
  · have j1 : ¬ (len : Int) < 1 := by omega
    have j2 : (60 : Int) < (len : Int) := by omega
    go_enter Try.func7, Try.ntmps7
    go_wp2_with (go_at_call 20; refine (goodSize_any s _).mono ?_; rintro e w' ⟨rfl, rfl⟩; rw [h])
    go_ret2
    exact ⟨rfl, rfl⟩

set_option maxHeartbeats 2000000 in
theorem implUn_in (a : Option Addr) (len cap : Nat) (f : Nat → Int) (s : Int) (w : World) (hA : IL w a len f) (h : sizeB s = true) (h1 : 1 ≤ len) (h2 : len ≤ 60) :
    Calls Try.prog 7 #[.slice a len cap, .int .i64 s] w fun e w' => AnsU w w' e f s len ∧ Below w.heap.size w w' := by
  obtain ⟨i0, hi, hzz⟩ := Option.map_eq_some_iff.1 infoI
  simp only [Prod.mk.injEq] at hzz
  obtain ⟨hz0, hz1, hz2⟩ := hzz
  have hs := sizeB_t.1 h
  have j1 : ¬ (len : Int) < 1 := by omega
  have j2 : ¬ (60 : Int) < (len : Int) := by omega
  obtain ⟨b, off, rfl, hbw, hcell⟩ := hA (by omega)
  obtain ⟨wm, hrun, hown, hgrow⟩ := run_make_own (P := Try.prog) w w.heap.size 23 3 i0 _ 1 Try.underlying23 hi hz0 hz1 .i64 .i64 len (by rw [hz2]; omega) (by unfold maxLen; omega) (Nat.le_refl _)
  have hBm : Below w.heap.size w wm := (Below.refl w.heap.size w).grown hgrow (Nat.le_refl _) (fun q hq => by cases hq)
  have HO : Hid (Own wm w.heap.size (.slice (some ⟨w.heap.size, 0, none⟩) 0 len) 0 (un f s)) := hown
  clear hown hgrow hA
  have hok : okU f s len = okK f s len := by simp [okU, h, h1, h2]
  go_enter Try.func7, Try.ntmps7
  go_wp2_with (go_at_call 20; refine (goodSize_any s _).mono ?_; rintro e w' ⟨rfl, hw'⟩; have hs' := hw'.symm; clear hw'; subst hs'; rw [h])
  clear hrun
  go_loopw [6, 28] (fun v i wr => ∃ k : Nat, k ≤ len ∧ i = .int .i64 k ∧ okK f s k = true ∧ Own wr w.heap.size v k (un f s) ∧ Below w.heap.size w wr) (fun _ i _ => len - (intOf i).toNat)
  case atStart => exact ⟨0, Nat.zero_le _, rfl, rfl, HO.out, hBm⟩
  case round =>
    obtain ⟨k, hk, rfl, hokk, hown, hB⟩ := hrel
    clear HO hBm
    by_cases hlt : k < len
    · have hck : wr.cell? ⟨b, off + k, none⟩ = some (.int .i64 (f k)) := (hB.cell (p := ⟨b, _, none⟩) hbw).trans (hcell k hlt)
      have j3 : (k : Int) < (len : Int) := by omega
      by_cases c0 : f k < 0
      · have hno := okK_false (n := len) (k := k + 1) (f := f) (s := s) (by simp [okK]; omega) hlt
        clear hcell
        go_wp2
        go_ret2
        exact ⟨.inl ⟨hok.trans hno, rfl⟩, hB⟩
      by_cases c1 : s ≤ f k
      · have hno := okK_false (n := len) (k := k + 1) (f := f) (s := s) (by simp [okK]; omega) hlt
        clear hcell
        go_wp2
        go_ret2
        exact ⟨.inl ⟨hok.trans hno, rfl⟩, hB⟩
      have hok1 : okK f s (k + 1) = true := by simp [okK, hokk]; omega
      have hbase : w.heap.size ≤ wr.heap.size := hB.size
      by_cases k0 : k = 0
      · subst k0
        have hck' : wr.cell? ⟨b, off, none⟩ = some (.int .i64 (un f s 0)) := hck
        have c0' : ¬ un f s 0 < 0 := c0
        have c1' : ¬ s ≤ un f s 0 := c1
        clear hcell hck c0 c1
        go_wp2_with (at_builtin; refine wpList_append_own _ rfl _ _ 23 rfl w.heap.size 3 i0 (.int .i64 0) 1 8 Try.underlying23 hi hz0 hz1 hz2 rfl (by decide) _ _ _ rfl (World.ownsRow.alloc hown _) ⟨wr.heap.size, 0, none⟩ 1 1 [.int .i64 (un f s 0)] rfl rfl (cell_one_new _ _ _) (fun x hx => by simp at hx; subst hx; rfl) (by unfold maxLen; omega) (by omega) (by simp; omega) ?_; intro v' w3 hown' hgrow3 _)
        have hB3 := (hB.alloc hB.size (.cells #[.int .i64 (un f s 0)] 3)).grown hgrow3 (by simp; omega) (fun q hq => (World.ownsRow.lt hown q hq).1)
        exact ⟨⟨1, by omega, rfl, hok1, by unfold Own; rw [vL_succ]; exact hown', hB3⟩, by simp [intOf]; omega⟩
      · obtain ⟨g, gc, rfl, hg, hP⟩ := hown.some (by omega)
        have hcg := hP.c (k - 1) (by omega)
        have hub := un_bd hokk (by omega) hs.2 (k - 1) (by omega)
        have hun : near (un f s (k - 1)) (f k) s = un f s k := by
          obtain ⟨m, rfl⟩ : ∃ m, k = m + 1 := ⟨k - 1, by omega⟩
          rfl
        have j4 : (0 : Int) < (k : Int) := by omega
        have j5 : (0 : Int) ≤ (k : Int) - 1 := by omega
        have j6 : (k : Int) - 1 < (k : Int) := by omega
        clear hcell
        go_wp2_with (first
          | (go_at_call 21; refine (nearest_any _ (f k) s _ hs.1 hs.2 (by omega) (by omega)).mono ?_; rintro e w' ⟨rfl, hw'⟩; have hs' := hw'.symm; clear hw'; subst hs'; rw [hun])
          | (at_builtin; refine wpList_append_own _ rfl _ _ 23 rfl w.heap.size 3 i0 (.int .i64 0) 1 8 Try.underlying23 hi hz0 hz1 hz2 rfl (by decide) _ _ _ rfl (World.ownsRow.alloc hown _) ⟨wr.heap.size, 0, none⟩ 1 1 [.int .i64 (un f s k)] rfl rfl (cell_one_new _ _ _) (fun x hx => by simp at hx; subst hx; rfl) (by unfold maxLen; omega) (by omega) (by simp; omega) ?_; intro v' w3 hown' hgrow3 _))
        have hgrow3' : (wr.alloc (.cells #[.int .i64 (un f s k)] 3)).grownBy w3 (some g) := hgrow3
        have hB3 := (hB.alloc hB.size (.cells #[.int .i64 (un f s k)] 3)).grown hgrow3' (by simp; omega) (fun q hq => by cases hq; exact hg)
        exact ⟨⟨k + 1, by omega, by go_num, hok1, by unfold Own; rw [vL_succ]; exact hown', hB3⟩, by simp [intOf]; omega⟩
    · have hke : k = len := by omega
      subst hke
      obtain ⟨g, gc, rfl, hg, hP⟩ := hown.some (by omega)
      clear hcell hown
      go_wp2
      go_ret2
      exact ⟨.inr ⟨hok.trans hokk, g, _, rfl, hg, hP⟩, hB⟩
end Go.Proofs.Ytlianbeogmefhaa
