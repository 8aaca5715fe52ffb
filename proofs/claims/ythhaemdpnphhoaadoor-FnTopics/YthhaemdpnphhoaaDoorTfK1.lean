/- TopicFits, as the program tells it: the whole of it. -/
import Derived.Test.YthhaemdpnphhoaaDoorTfK0
namespace Go.Proofs.YthhaemdpnphhoaaDoor
open Go.RowKit
set_option maxRecDepth 20000 in
set_option maxHeartbeats 4000000 in
theorem iTopicFits (s n : ByteArray) (w : World) (hM : Mx w) (hs : s.size ≤ 1048576) (hn : n.size ≤ 1048576) :
    Calls Tryd.prog 12 #[.string s, .string n] w fun e w' => e = .returned (.bool (tfB s n)) ∧ Below w.heap.size w w' := by
  rw [tfB_all]
  obtain ⟨hl1, hl2⟩ := allP_len s
  obtain ⟨hm1, hm2⟩ := allP_len n
  have hsp := fun w hM => split_stroke s w hM hs
  have hspn := fun w hM => split_stroke n w hM hn
  have eS : (prt (bl s)).map mkT = allP s := rfl
  have eN : (prt (bl n)).map mkT = allP n := rfl
  rw [eS] at hsp
  rw [eN] at hspn
  have hjs := jnP_size s
  have hJ := fun w hM => iTopic (jnP s) w hM (by omega)
  have hN := fun w hM => iTopic n w hM hn
  have hjn : ∀ (bk c : Nat) (w : World), TA w bk 0 ((allP s).map plx) → ((allP s).map plx).length ≤ c → Calls Tryd.prog 24 #[.slice (some ⟨bk, 0, none⟩) ((allP s).map plx).length c, .string ⟨#[47]⟩] w fun e w' => e = .returned (.string (jnP s)) ∧ Below w.heap.size w w' := fun bk c w h hc =>
    Tryd.strings_Join bk 0 c ((allP s).map plx) ⟨#[47]⟩ w (fun j x hx => h.2 j x hx) h.1 (by rw [List.length_map]; omega) hc (by
      have : (jnP s).size = (Lib.join (((allP s).map plx).map bl) [47]).length := by simp [jnP, ByteArray.size]
      show (Lib.join (((allP s).map plx).map bl) [47]).length ≤ _
      omega)
  generalize jnP s = J at *
  generalize hA : allP s = L at *
  generalize hA2 : allP n = N at *
  clear hA hA2 eS eN
  have hL0 : L ≠ [] := by intro e; rw [e] at hl2; simp at hl2
  have hpl := fun b c w hT => iPlain L b c w hL0 (by omega) hT
  generalize hPX : L.map plx = PX at *
  clear hPX
  have hT0 := tl_ta (tl_new w L 9) (by simp)
  have hb0 : Below w.heap.size w (w.alloc (.cells (L.map Value.string).toArray 9)) := (Below.refl _ _).alloc (Nat.le_refl _) _
  have hsp0 := hsp w hM
  have hM0 := hM.on hb0
  clear hsp
  generalize w.alloc (.cells (L.map Value.string).toArray 9) = w1 at *
  cases gj : gtB J with
  | false =>
    rw [gj] at hJ
    go_enter Tryd.func12, Tryd.ntmps12
    go_wp2_with fail
    refine hsp0.mono ?_
    rintro e w1' ⟨rfl, rfl⟩
    go_wp2_with fail
    refine (hpl _ _ _ hT0).mono ?_
    rintro e w2 ⟨⟨g, c, rfl, hgc, hTP⟩, hb2⟩
    go_wp2_with fail
    refine (hjn _ _ _ hTP hgc).mono ?_
    rintro e w3 ⟨rfl, hb3⟩
    go_wp2_with fail
    refine (hJ _ ((hM0.on hb2).on hb3)).mono ?_
    rintro e w4 ⟨rfl, hb4⟩
    go_wp2
    go_ret
    exact ⟨by simp, stepA (stepA (stepA hb0 hb2) hb3) hb4⟩
  | true =>
  rw [gj] at hJ
  cases gn : gtB n with
  | false =>
    rw [gn] at hN
    go_enter Tryd.func12, Tryd.ntmps12
    go_wp2_with fail
    refine hsp0.mono ?_
    rintro e w1' ⟨rfl, rfl⟩
    go_wp2_with fail
    refine (hpl _ _ _ hT0).mono ?_
    rintro e w2 ⟨⟨g, c, rfl, hgc, hTP⟩, hb2⟩
    go_wp2_with fail
    refine (hjn _ _ _ hTP hgc).mono ?_
    rintro e w3 ⟨rfl, hb3⟩
    go_wp2_with fail
    refine (hJ _ ((hM0.on hb2).on hb3)).mono ?_
    rintro e w4 ⟨rfl, hb4⟩
    go_wp2_with fail
    refine (hN _ (((hM0.on hb2).on hb3).on hb4)).mono ?_
    rintro e w5 ⟨rfl, hb5⟩
    go_wp2
    go_ret
    exact ⟨by simp, stepA (stepA (stepA (stepA hb0 hb2) hb3) hb4) hb5⟩
  | true =>
  rw [gn] at hN
  simp only [Bool.true_and]
  obtain ⟨o1, hs1, hP1, hc1⟩ := sliceS hT0 (Nat.le_refl _) 1 hl2
  have hs1' : ∀ w', (Instr.sliceAt 39 (.slice (some ⟨w.heap.size, 0, none⟩) L.length L.length) (some (.int .i64 1)) none none).run Tryd.prog w' = .ok (.slice (some ⟨w.heap.size, o1, none⟩) (L.drop 1).length (L.length - 1)) w' := hs1
  clear hs1
  have hld : (L.drop 1).length ≤ 1048576 := by rw [List.length_drop]; omega
  have hnd : (N.drop 1).length ≤ 1048576 := by rw [List.length_drop]; omega
  have hfit := fun b2 o2 cs w2 hP hS => iFits (L.drop 1) (N.drop 1) w.heap.size o1 (L.length - 1) b2 o2 cs w2 hld hnd hP hS
  generalize fB (L.drop 1) (N.drop 1) = V at *
  go_enter Tryd.func12, Tryd.ntmps12
  go_wp2_with fail
  refine hsp0.mono ?_
  rintro e w1' ⟨rfl, rfl⟩
  go_wp2_with fail
  refine (hpl _ _ _ hT0).mono ?_
  rintro e w2 ⟨⟨g, c, rfl, hgc, hTP⟩, hb2⟩
  go_wp2_with fail
  refine (hjn _ _ _ hTP hgc).mono ?_
  rintro e w3 ⟨rfl, hb3⟩
  go_wp2_with fail
  refine (hJ _ ((hM0.on hb2).on hb3)).mono ?_
  rintro e w4 ⟨rfl, hb4⟩
  go_wp2_with fail
  refine (hN _ (((hM0.on hb2).on hb3).on hb4)).mono ?_
  rintro e w5 ⟨rfl, hb5⟩
  have hM5 := (((hM0.on hb2).on hb3).on hb4).on hb5
  have hB5 := stepA (stepA (stepA (stepA hb0 hb2) hb3) hb4) hb5
  have hP5 := (((hP1.on hb2).on hb3).on hb4).on hb5
  clear hb2 hb3 hb4 hb5 hb0 hTP hM0 hM hT0 hP1 hpl hjn hJ hN hsp0
  go_upto_region 4 with fail
  have hw0 := Below.refl w5.heap.size w5
  have h1w : ∀ w : World, TA (w.alloc (.cells (N.map Value.string).toArray 9)) w.heap.size 0 N := fun w => tl_ta (tl_new w N 9) (by simp)
  have hsp5 : Calls Tryd.prog 21 #[.string n, .string ⟨#[47]⟩] w5.drew fun e w' => (e = .returned (.slice (some ⟨w5.heap.size, 0, none⟩) N.length N.length) ∧ TA w' w5.heap.size 0 N) ∧ Below w5.heap.size w5 w' := by
    refine (hspn _ (hM5.on hw0.drew)).mono ?_
    rintro e w' ⟨he, hw'⟩
    refine ⟨⟨he, ?_⟩, ?_⟩
    · rw [hw']; exact h1w w5.drew
    · rw [hw']; exact hw0.drew.alloc (Nat.le_refl _) _
  obtain ⟨o2, hs2, hS2, hc2⟩ := sliceS3 w5.heap.size 0 (l := N) (Nat.le_refl _) 1 hm2
  have hs2' : ∀ w', (Instr.sliceAt 39 (.slice (some ⟨w5.heap.size, 0, none⟩) N.length N.length) (some (.int .i64 1)) none none).run Tryd.prog w' = .ok (.slice (some ⟨w5.heap.size, o2, none⟩) (N.drop 1).length (N.length - 1)) w' := hs2
  clear hspn h1w hs2
  generalize (N.drop 1).length = n2 at *
  generalize (L.drop 1).length = n1 at *
  go_region_held3 (fun w' => MxS w')
    (first | (with_reducible exact ⟨hM5.on hw0.drew⟩) | (with_reducible exact ⟨hM5.on hw6⟩) | (with_reducible exact ⟨hM5.on hw7⟩) | (fail))
    (first | (go_at_call 21; refine hsp5.mono ?_; rintro e w6 ⟨⟨rfl, hT6⟩, hw6⟩; clear hsp5) | (go_at_call 26; refine (hfit _ _ _ _ (hP5.on hw6) (hS2 _ hT6)).mono ?_; rintro e w7 ⟨rfl, hb7⟩; have hw7 := stepA hw6 hb7) | (fail))
  go_wp2
  go_ret
  exact ⟨rfl, stepA hB5 hw7⟩
end Go.Proofs.YthhaemdpnphhoaaDoor
