/- The program's merge. -/
import Derived.Test.YteknkgfgefhloaaMgV
namespace Go.Proofs.Yteknkgfgefhloaa
open Go.RowKit
set_option maxRecDepth 20000 in
set_option maxHeartbeats 4000000 in
theorem iMerge (v1 v2 : Option Addr) (n1 c1 n2 c2 : Nat) (f1 f2 : Nat → Int) (w : World) (h1 : n1 ≤ 1048576) (h2 : n2 ≤ 1048576)
    (k1 : (v1 = none ∧ n1 = 0 ∧ c1 = 0) ∨ ∃ b o, v1 = some ⟨b, o, none⟩) (k2 : (v2 = none ∧ n2 = 0 ∧ c2 = 0) ∨ ∃ b o, v2 = some ⟨b, o, none⟩) (s1 : IL w v1 (n1 * 3) f1) (s2 : IL w v2 (n2 * 3) f2) (hpos : 0 < n1 + n2) :
    Calls Try.prog 9 #[.slice v1 n1 c1, .slice v2 n2 c2] w fun e w' => AnsM w w' e (okM f1 n1 f2 n2) ∧ Below w.heap.size w w' := by
  have kg1 := iStamped v1 n1 c1 f1 w h1 s1
  have kg2 := fun w1 (hb : Below w.heap.size w w1) => iStamped v2 n2 c2 f2 w1 h2 (s2.below hb)
  cases g1 : (decide (n1 ≤ 40) && risK f1 n1) with
  | false =>
    have e : okM f1 n1 f2 n2 = none := by unfold okM; rw [g1]; simp
    rw [e]
    rw [g1] at kg1
    clear g1 e s1 s2 k1 k2 hpos
    go_enter Try.func9, Try.ntmps9
    go_wp2_with (first | (go_at_call 38; refine kg1.mono ?_; rintro e w1 ⟨rfl, hb1⟩) | (fail))
    go_returns
    exact ⟨rfl, hb1⟩
  | true =>
    cases g2 : (decide (n2 ≤ 40) && risK f2 n2) with
    | false =>
      have e : okM f1 n1 f2 n2 = none := by unfold okM; rw [g1, g2]; simp
      rw [e]
      rw [g1] at kg1
      rw [g2] at kg2
      clear g1 g2 e s1 s2 k1 k2 hpos
      go_enter Try.func9, Try.ntmps9
      go_wp2_with (first | (go_at_call 38; refine kg1.mono ?_; rintro e w1 ⟨rfl, hb1⟩) | (go_at_call 38; refine (kg2 _ hb1).mono ?_; rintro e w2 ⟨rfl, hb2⟩; have hB2 := stepA hb1 hb2) | (fail))
      go_returns
      exact ⟨rfl, hB2⟩
    | true =>
      have e : okM f1 n1 f2 n2 = mg (wl f1 n1) (wl f2 n2) := by unfold okM; rw [g1, g2]; simp
      have hr1 : risK f1 n1 = true := (Bool.and_eq_true _ _ ▸ g1).2
      have hr2 : risK f2 n2 = true := (Bool.and_eq_true _ _ ▸ g2).2
      have l1 : n1 ≤ 40 := of_decide_eq_true (Bool.and_eq_true _ _ ▸ g1).1
      have l2 : n2 ≤ 40 := of_decide_eq_true (Bool.and_eq_true _ _ ▸ g2).1
      have HM : Hid (∀ z : List Sw, z.Perm (wl f1 n1 ++ wl f2 n2) → Wk z → (mg (wl f1 n1) (wl f2 n2) = none ∧ ¬ Ris (cpt z)) ∨ (mg (wl f1 n1) (wl f2 n2) = some (cpt z) ∧ Ris (cpt z))) := fun z hp hw => merged hr1 hr2 hp hw
      rw [e]
      rw [g1] at kg1
      rw [g2] at kg2
      have kc := fun (w2 : World) (hb : Below w.heap.size w w2) => iConcatStamped w2.heap.size v1 v2 n1 c1 n2 c2 f1 f2 (w2.alloc (.cells #[.slice v1 n1 c1, .slice v2 n2 c2] 23)) h1 h2 (by simp) (bx_new (w := w2) (b := w2.heap.size) [.slice v1 n1 c1, .slice v2 n2 c2] 23 rfl).c0 (bx_new (w := w2) (b := w2.heap.size) [.slice v1 n1 c1, .slice v2 n2 c2] 23 rfl).c1 k1 k2 ((s1.below hb).alloc _) ((s2.below hb).alloc _)
      have hn : n1 + n2 ≤ 1048576 := by omega
      clear g1 g2 e s1 s2 k1 k2 hr1 hr2
      generalize mg (wl f1 n1) (wl f2 n2) = R at *
      go_enter Try.func9, Try.ntmps9
      go_upto_region 6 with (first | (go_at_call 38; refine kg1.mono ?_; rintro e w1 ⟨rfl, hb1⟩) | (go_at_call 38; refine (kg2 _ hb1).mono ?_; rintro e w2 ⟨rfl, hb2⟩; have hB2 := stepA hb1 hb2) | (go_at_call 39; refine (kc _ hB2).mono ?_; rintro e w3 ⟨⟨v, rfl, hO⟩, hb3⟩; obtain ⟨g, cc, rfl, hg, hcc, hP⟩ := hO.at_ hpos) | (go_at_call 40; refine (sortM _ _ _ _ _ _ _ hn hP).mono ?_; rintro e w4 ⟨rfl, z, hz, hzp, hwk, hP4, hb4⟩) | (go_at_call 42; refine (compM z _ _ _ _ hz hn hcc hP4).mono ?_; rintro e w5 ⟨rfl, hP5, hb5⟩) | (fail))
      have hlen : (cpt z).length ≤ 1048576 := by have := cpt_le z; omega
      have kr := riseM (cpt z) g cc w5 hlen hP5
      have hB3 := stepA (hB2.alloc hB2.size _) hb3
      have hg' : w.heap.size ≤ g := Nat.le_trans hB2.size (Nat.le_trans (by simp) hg)
      have hB5 := (hB3.trans (hb4.mono hg')).trans (hb5.mono hg')
      rcases HM.out z hzp hwk with ⟨rfl, hr⟩ | ⟨rfl, hr⟩
      · have e : risK (flS (cpt z)) (cpt z).length = false := by
          cases q : risK (flS (cpt z)) (cpt z).length
          · rfl
          · exact absurd ((risK_fl _).1 q) hr
        rw [e] at kr
        clear e hr hwk hzp HM hP hP4 hO
        go_wp2_with (first | (go_at_call 43; refine kr.mono ?_; rintro e w6 ⟨rfl, hb6⟩) | (fail))
        go_returns
        exact ⟨rfl, stepA hB5 hb6⟩
      · rw [(risK_fl _).2 hr] at kr
        clear hr hwk hzp HM hP hP4 hO
        go_wp2_with (first | (go_at_call 43; refine kr.mono ?_; rintro e w6 ⟨rfl, hb6⟩) | (fail))
        go_returns
        have hP6 := hP5.below hb6 hP5.lt
        exact ⟨⟨_, _, rfl, fun _ => ⟨g, rfl, hg', hP6.lt, hP6⟩⟩, stepA hB5 hb6⟩
end Go.Proofs.Yteknkgfgefhloaa
