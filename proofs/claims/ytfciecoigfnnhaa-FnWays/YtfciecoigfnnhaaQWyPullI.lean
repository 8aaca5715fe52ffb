/- A way pulled straight, as the program does it. -/
import Derived.Test.YtfciecoigfnnhaaQWyGrd
import Derived.Test.YtfciecoigfnnhaaQWyTchI
import Derived.Test.YtfciecoigfnnhaaQClSFree
import Derived.Test.YtfciecoigfnnhaaQWyCostI
import Derived.Laws.OwnMore
import Derived.Deep.RegionHeld3
import Derived.Deep.CutRange
import Derived.Deep.Cut
namespace Go.Proofs.Ytfciecoigfnnhaa
open Go.RowKit

set_option maxHeartbeats 4000000 in
theorem lastClear_any (W : Int) (q : Option Addr) (n c gb go m d p : Nat) (f g : Nat → Int) (w : World) (hs : sizedB W n = true) (hf : IL w q n f) (hm : m ≤ 256) (hgb : gb < w.heap.size) (hgc : ∀ i, i < m → w.cell? ⟨gb, go + i, none⟩ = some (.int .i64 (g i))) (hp : p < m - 1) (hX : clrB W n f (g p) (g (p + 1)) = true) :
    Calls Try.prog 56 #[gr W (hgt W n) q n c, .slice (some ⟨gb, go, none⟩) m d, .int .i64 (p : Int)] w fun e w' => e = .returned (.int .i64 (lastC W n f g p (m - 1) : Int)) ∧ Below w.heap.size w w' := by
  have hb0 : Below w.heap.size w (w.alloc (.cells #[.int .i64 W, .int .i64 (hgt W n), .slice q n c] 73)) := (Below.refl _ _).alloc (Nat.le_refl _) _
  have bG := bx_new (w := w) [.int .i64 W, .int .i64 (hgt W n), .slice q n c] 73 rfl
  have ks0 := fun a b w h => clearFrom_any W q n c f a b w hs h
  have HX : Hid _ := hX
  have HE : Hid (lastC W n f g p (p + 1) = p + 1) := (lastC_hit (by omega) hX : _ = _)
  generalize hgt W n = H at *
  go_enter Try.func56, Try.ntmps56
  go_upto_region 1 with fail
  generalize w.alloc (.cells #[.int .i64 W, .int .i64 H, .slice q n c] 73) = w1 at hb0 bG ⊢
  have HF : Hid (IL w1 q n f) := hf.below hb0
  have HG : Hid (∀ i, i < m → w1.cell? ⟨gb, go + i, none⟩ = some (.int .i64 (g i))) := fun i hi => (hb0.cell (p := ⟨gb, go + i, none⟩) hgb).trans (hgc i hi)
  have hgb1 : gb < w1.heap.size := Nat.lt_of_lt_of_le hgb hb0.size
  clear hf hgc hgb hX
  have k0 : (0 : Int) ≤ (p : Int) := by omega
  have k2 : (p : Int) < (m : Int) := by omega
  go_wp2
  go_loopw [7] (fun i wy => ∃ j : Nat, p < j ∧ j ≤ m - 1 ∧ i = .int .i64 (j : Int) ∧ (∀ i, j < i → i ≤ m - 1 → clrB W n f (g p) (g i) = false) ∧ Below w1.heap.size w1 wy) (fun i _ => (intOf i).toNat)
  case atStart => exact ⟨m - 1, by omega, by omega, by congr 1; omega, fun i h1 h2 => by omega, Below.refl _ _⟩
  case round =>
    obtain ⟨j, hpj, hjm, rfl, hall, hby⟩ := hrel
    have HA : Hid _ := hall
    clear hall
    by_cases hlt : p + 1 < j
    · have j1 : (p : Int) + 1 < (j : Int) := by omega
      have bC := bG.on hby
      have g0 := (hby.cell (p := ⟨gb, go + p, none⟩) hgb1).trans (HG.out p (by omega))
      have g1 := (hby.cell (p := ⟨gb, go + j, none⟩) hgb1).trans (HG.out j (by omega))
      have hgb' : gb < wr.heap.size := Nat.lt_of_lt_of_le hgb1 hby.size
      have hFr := IL.below HF.out hby
      have ks := fun w h => ks0 (g p) (g j) w h
      have q0 : (0 : Int) ≤ (j : Int) := by omega
      have q1 : (j : Int) < (m : Int) := by omega
      have hyes : Hid (clrB W n f (g p) (g j) = true → lastC W n f g p (m - 1) = j) := fun h => ((lastC_down hjm HA.out).trans (lastC_hit (by omega) h) : _ = _)
      have hno : Hid (clrB W n f (g p) (g j) = false → ∀ i, j - 1 < i → i ≤ m - 1 → clrB W n f (g p) (g i) = false) := fun h i h1 h2 => (by
        by_cases e : i = j
        · rw [e]; exact h
        · exact HA.out i (by omega) h2 : _ = _)
      clear HX HA HE ks0
      generalize hv : clrB W n f (g p) (g j) = v at ks hno hyes
      clear hv
      generalize hgk : g p = gk at g0 ks
      have HK : Hid (g p = gk) := hgk
      clear hgk
      generalize g j = gl' at g1 ks
      have hw0 := Below.refl wr.heap.size wr
      go_upto_region 4 with fail
      go_cut [26] from 17 to 26 (fun s wx => s = .bool v ∧ Below wr.heap.size wr wx)
      case first =>
        go_region_held3 (fun w' => w'.cell? ⟨w.heap.size, 0, none⟩ = some (.int .i64 W) ∧ w'.cell? ⟨w.heap.size, 1, none⟩ = some (.int .i64 H) ∧ w'.cell? ⟨w.heap.size, 2, none⟩ = some (.slice q n c) ∧ w'.cell? ⟨gb, go + p, none⟩ = some (.int .i64 gk) ∧ w'.cell? ⟨gb, go + j, none⟩ = some (.int .i64 gl'))
          (first | (exact ⟨(bC.on hw0.drew).c0, (bC.on hw0.drew).c1, (bC.on hw0.drew).c2, (Below.cell (p := ⟨gb, go + p, none⟩) hw0.drew hgb').trans g0, (Below.cell (p := ⟨gb, go + j, none⟩) hw0.drew hgb').trans g1⟩) | (exact ⟨(bC.on hw1).c0, (bC.on hw1).c1, (bC.on hw1).c2, (Below.cell (p := ⟨gb, go + p, none⟩) hw1 hgb').trans g0, (Below.cell (p := ⟨gb, go + j, none⟩) hw1 hgb').trans g1⟩) | (fail))
          (first | (go_at_call 55; refine (ks _ (hFr.below hw0.drew)).mono ?_; rintro e9 w5 ⟨rfl, hb5⟩; have hw1 := stepA hw0.drew hb5; clear hb5) | (fail))
        go_wp2_with fail
        go_meet
        case rel => exact ⟨rfl, hw1⟩
      case rest =>
        obtain ⟨rfl, hbs⟩ := hcut
        have hby2 := stepA hby hbs
        have hB2 := stepA hb0 hby2
        clear hw0 ks hFr g0 g1 bC
        cases v with
        | false =>
          have h2 := hno.out rfl
          clear hno hyes
          go_wp2
          exact ⟨⟨j - 1, by omega, by omega, by congr 1; omega, (by first | exact h2 | (rw [← HK.out]; exact h2)), hby2⟩, by simp [intOf]; omega⟩
        | true =>
          have h1 := hyes.out rfl
          have H1 : Hid _ := h1
          clear hno hyes h1
          go_wp2
          go_ret
          exact ⟨by rw [H1.out]; rfl, hB2⟩
    · have hje : j = p + 1 := by omega
      have j1 : ¬ (p : Int) + 1 < (j : Int) := by omega
      have H1 : Hid (lastC W n f g p (m - 1) = p + 1) := (((lastC_down hjm HA.out).trans (by rw [hje]; exact HE.out)) : _ = _)
      have hB2 := stepA hb0 hby
      clear HX HA HE ks0 HF HG
      go_wp2
      go_ret
      exact ⟨by rw [H1.out]; rfl, hB2⟩

set_option maxRecDepth 20000 in
set_option maxHeartbeats 8000000 in
theorem implPull (W : Int) (q b : Option Addr) (n c m d : Nat) (f g : Nat → Int) (w : World) (hn : n ≤ 1048576) (hm : m ≤ 1048576) (hd : m ≤ d) (hf : IL w q n f) (hg : IL w b m g) :
    Calls Try.prog 15 #[cel W q n c, .slice b m d] w fun e w' => AnsW w w' e (pullL W n f m g) (pullQ W n f m g) ∧ Below w.heap.size w w' := by
  obtain ⟨i0, hi, hzz⟩ := Option.map_eq_some_iff.1 infoI
  simp only [Prod.mk.injEq] at hzz
  obtain ⟨hz0, hz1, hz2⟩ := hzz
  have hb0 : Below w.heap.size w (w.alloc (celO W q n c 25)) := (Below.refl _ _).alloc (Nat.le_refl _) _
  have kg := groundFrom_any W q b n c m d f g (w.alloc (celO W q n c 25)) hn hm (hf.below hb0) (hg.below hb0)
  cases eq : hdB W n f m g with
  | false =>
    have eQ : pullQ W n f m g = false := by unfold pullQ; unfold hdB at eq; rw [eq]; rfl
    have e1 : pullL W n f m g = [] := by simp [pullL, eQ]
    rw [eQ, e1]
    rw [eq] at kg
    have kg : Calls Try.prog 50 #[cel W q n c, .slice b m d] (w.alloc (celO W q n c 25)) fun e w' => e = .returned (.tuple #[gr 0 0 none 0 0, .bool false]) ∧ Below (w.alloc (celO W q n c 25)).heap.size (w.alloc (celO W q n c 25)) w' := kg
    go_enter Try.func15, Try.ntmps15
    go_wp2_with fail
    refine kg.mono ?_
    rintro e9 w1 ⟨rfl, hb1⟩
    have hB1 := (stepA hb0 hb1).alloc (stepA hb0 hb1).size (.cells #[.int .i64 0, .int .i64 0, .slice none 0 0] 73)
    clear kg
    go_wp2
    go_ret2
    exact ⟨ansW_nil _ _ _, hB1⟩
  | true =>
    have eQ : pullQ W n f m g = legK W n f g (m - 1) := by unfold pullQ; unfold hdB at eq; rw [eq]; rfl
    obtain ⟨hc, m1, m2, hf0⟩ := hdB_parts eq
    have hs := (celB_parts hc).1
    rw [eq] at kg
    have kg : Calls Try.prog 50 #[cel W q n c, .slice b m d] (w.alloc (celO W q n c 25)) fun e w' => e = .returned (.tuple #[gr W (hgt W n) q n c, .bool true]) ∧ Below (w.alloc (celO W q n c 25)).heap.size (w.alloc (celO W q n c 25)) w' := kg
    have HQ : Hid _ := eQ
    obtain ⟨gb, go, rfl, hgb, hgc⟩ := hg (by omega)
    obtain ⟨A, hsl, hA⟩ := slice1 gb go m d m1 hd
    clear eQ eq
    have i1 : (1 : Int) ≤ (m : Int) := by omega
    have ks0 := fun a b w h => clearFrom_any W q n c f a b w hs h
    have kl0 := fun p w h1 h2 h3 h4 h5 => lastClear_any W q n c gb go m d p f g w hs h1 m2 h2 h3 h4 h5
    go_enter Try.func15, Try.ntmps15
    go_wp2_with fail
    refine kg.mono ?_
    rintro e9 w1 ⟨rfl, hb1⟩
    have hB1 := stepA hb0 hb1
    generalize hgt W n = H at *
    have bG := (bx_new (w := w1) (b := w1.heap.size) [.int .i64 W, .int .i64 H, .slice q n c] 73 rfl)
    have hB2 := hB1.alloc hB1.size (.cells #[.int .i64 W, .int .i64 H, .slice q n c] 73)
    clear kg hb0 hb1 hB1
    go_upto_region 4 with fail
    generalize w1.alloc (.cells #[.int .i64 W, .int .i64 H, .slice q n c] 73) = w2 at bG hB2 ⊢
    generalize w1.heap.size = G at bG ⊢
    have hF2 : Hid (IL w2 q n f) := hf.below hB2
    have hG2 : Hid (∀ i, i < m → w2.cell? ⟨gb, go + i, none⟩ = some (.int .i64 (g i))) := fun i hi => (hB2.cell (p := ⟨gb, go + i, none⟩) hgb).trans (hgc i hi)
    have hgb2 : gb < w2.heap.size := Nat.lt_of_lt_of_le hgb hB2.size
    clear hf hg hgc hgb
    go_wp2
    go_loopw [23] (fun i wr => ∃ k : Nat, k ≤ m - 1 ∧ i = .int .i64 (k : Int) ∧ legK W n f g k = true ∧ Below w2.heap.size w2 wr) (fun i _ => m - (intOf i).toNat)
    case atStart => exact ⟨0, by omega, rfl, rfl, Below.refl _ _⟩
    case round =>
      obtain ⟨k, hk, rfl, hway, hbel⟩ := hrel
      by_cases hlt : k < m - 1
      · have hA2 := hA (by omega)
        subst hA2
        have j1 : (k : Int) < ((m - 1 : Nat) : Int) := by omega
        have j0 : (0 : Int) ≤ (k : Int) := by omega
        have j2 : (k : Int) < (m : Int) := by omega
        have bC := bG.on hbel
        have e3 : go + 1 + k = go + (k + 1) := by omega
        have g0 := (hbel.cell (p := ⟨gb, go + k, none⟩) hgb2).trans (hG2.out k (by omega))
        have g1 := (hbel.cell (p := ⟨gb, go + (k + 1), none⟩) hgb2).trans (hG2.out (k + 1) (by omega))
        rw [← e3] at g1
        have hgb' : gb < wr.heap.size := Nat.lt_of_lt_of_le hgb2 hbel.size
        have hFr := IL.below hF2.out hbel
        have ks := fun w h => ks0 (g k) (g (k + 1)) w h
        have hno : Hid (clrB W n f (g k) (g (k + 1)) = false → legK W n f g (m - 1) = false) := fun h => legK_not hlt h
        have hyes : Hid (clrB W n f (g k) (g (k + 1)) = true → legK W n f g (k + 1) = true) := fun h => (by unfold legK; simp [hway, h] : _ = _)
        clear hway ks0 kl0 e3
        generalize clrB W n f (g k) (g (k + 1)) = v at ks hno hyes
        generalize g k = gk at *
        generalize g (k + 1) = gl' at *
        have hw0 := Below.refl wr.heap.size wr
        go_upto_region 7 with fail
        go_cut [35] from 28 to 35 (fun s wx => s = .bool (!v) ∧ Below wr.heap.size wr wx)
        case first =>
          go_region_held3 (fun w' => w'.cell? ⟨G, 0, none⟩ = some (.int .i64 W) ∧ w'.cell? ⟨G, 1, none⟩ = some (.int .i64 H) ∧ w'.cell? ⟨G, 2, none⟩ = some (.slice q n c) ∧ w'.cell? ⟨gb, go + k, none⟩ = some (.int .i64 gk))
            (first | (exact ⟨(bC.on hw0.drew).c0, (bC.on hw0.drew).c1, (bC.on hw0.drew).c2, (Below.cell (p := ⟨gb, go + k, none⟩) hw0.drew hgb').trans g0⟩) | (exact ⟨(bC.on hw1).c0, (bC.on hw1).c1, (bC.on hw1).c2, (Below.cell (p := ⟨gb, go + k, none⟩) hw1 hgb').trans g0⟩) | (fail))
            (first | (go_at_call 55; refine (ks _ (hFr.below hw0.drew)).mono ?_; rintro e9 w5 ⟨rfl, hb5⟩; have hw1 := stepA hw0.drew hb5; clear hb5) | (fail))
          go_wp2_with fail
          go_meet
          case rel => exact ⟨rfl, hw1⟩
        case rest =>
          obtain ⟨rfl, hbs⟩ := hcut
          have hbel2 := stepA hbel hbs
          have hB3 := stepA hB2 hbel2
          clear g0 g1 hw0 ks hFr bC
          cases v with
          | false =>
            have h0 := hno.out rfl
            have eQ := HQ.out.trans h0
            have e1 : pullL W n f m g = [] := by simp [pullL, eQ]
            have E1 : Hid _ := e1
            have E2 : Hid _ := eQ
            clear hno hyes HQ h0 e1 eQ
            go_wp2
            go_ret2
            exact ⟨by rw [E1.out, E2.out]; exact ansW_nil _ _ _, hB3⟩
          | true =>
            have h0 := hyes.out rfl
            clear hno hyes
            go_wp2
            exact ⟨⟨k + 1, by omega, by go_num, h0, hbel2⟩, by simp [intOf]; omega⟩
      · have hke : k = m - 1 := by omega
        subst hke
        have eQ := HQ.out.trans hway
        have e1 : pullL W n f m g = g 0 :: pullK W n f g m (m - 1) 0 := by simp [pullL, eQ]
        have E1 : Hid _ := e1
        have E2 : Hid _ := eQ
        have HW : Hid (legK W n f g (m - 1) = true) := hway
        have bC := bG.on hbel
        have hB3 := stepA hB2 hbel
        have hF3 : Hid (IL wr q n f) := IL.below hF2.out hbel
        have HG3 : Hid (∀ i, i < m → wr.cell? ⟨gb, go + i, none⟩ = some (.int .i64 (g i))) := fun i hi => (hbel.cell (p := ⟨gb, go + i, none⟩) hgb2).trans (hG2.out i hi)
        have hgb3 : gb < wr.heap.size := Nat.lt_of_lt_of_le hgb2 hbel.size
        have g0 : wr.cell? ⟨gb, go, none⟩ = some (.int .i64 (g 0)) := HG3.out 0 (by omega)
        have hown0 := own_one wr wr.heap.size (g 0) (Nat.le_refl _)
        have hal : Below wr.heap.size wr (wr.alloc (.cells #[.int .i64 (g 0)] 3)) := (Below.refl _ _).alloc (Nat.le_refl _) _
        have jm : (0 : Int) < (m : Int) := by omega
        have hgot : Hid (gotL W n f g m [g 0] 0) := (rfl : _ = _)
        clear hF2 hG2 HQ e1 eQ hway hbel bG hB2 hgb2 ks0
        go_wp2
        clear g0
        generalize wr.alloc (.cells #[.int .i64 (g 0)] 3) = w3 at hown0 hal ⊢
        obtain ⟨w7, hw7⟩ : ∃ w7, w7 = wr := ⟨wr, rfl⟩
        subst hw7
        go_loopw [10, 11] (fun v i wx => ∃ (p : Nat) (l : List Int), p ≤ m - 1 ∧ i = .int .i64 (p : Int) ∧ l.length ≤ p + 1 ∧ gotL W n f g m l p ∧ Own wx w7.heap.size v l.length (gl l) ∧ Below w7.heap.size w7 wx) (fun _ i _ => m - (intOf i).toNat)
        case atStart => exact ⟨0, [g 0], by omega, rfl, by simp, hgot.out, hown0, hal⟩
        case round =>
          obtain ⟨p, l, hp, rfl, hll, hgl, hown, hbe⟩ := hrel
          clear hown0 hal
          have HL : Hid (gotL W n f g m l p) := hgl
          clear hgl hgot
          obtain ⟨sa, sc, rfl⟩ := hown.shape
          have bE := bC.on hbe
          by_cases hlt2 : p < m - 1
          · have k1 : (p : Int) < (m : Int) - 1 := by omega
            have k0 : (0 : Int) ≤ (p : Int) := by omega
            have HX := legK_at HW.out hlt2
            have kl := fun w h1 h2 h3 => kl0 p w h1 h2 h3 hlt2 HX
            have hjl := lastC_le W n f g p (m - 1)
            have hjg := lastC_gt HX hlt2
            have HS : Hid (gotL W n f g m (l ++ [g (lastC W n f g p (m - 1))]) (lastC W n f g p (m - 1))) := (got_step HW.out HL.out hlt2 : gotL _ _ _ _ _ _ _)
            have hgj := (hbe.cell (p := ⟨gb, go + lastC W n f g p (m - 1), none⟩) hgb3).trans (HG3.out (lastC W n f g p (m - 1)) (by omega))
            have hgbr : gb < wr.heap.size := Nat.lt_of_lt_of_le hgb3 hbe.size
            have hFr := IL.below hF3.out hbe
            have hGr : ∀ i, i < m → wr.cell? ⟨gb, go + i, none⟩ = some (.int .i64 (g i)) := fun i hi => (hbe.cell (p := ⟨gb, go + i, none⟩) hgb3).trans (HG3.out i hi)
            have HGr : Hid _ := hGr
            clear hGr kl0 HX
            generalize lastC W n f g p (m - 1) = j at *
            generalize g j = gj at hgj HS
            have q0 : (0 : Int) ≤ (j : Int) := by omega
            have q1 : (j : Int) < (m : Int) := by omega
            have x0 := bE.c0
            have x1 := bE.c1
            have x2 := bE.c2
            go_wp2_with fail
            refine (kl _ hFr hgbr HGr.out).mono ?_
            rintro e9 w4 ⟨rfl, hb4⟩
            have hbe4 := stepA hbe hb4
            have hown4 := hown.below hb4
            have g2 := (hb4.cell (p := ⟨gb, go + j, none⟩) hgbr).trans hgj
            have hbz : w7.heap.size ≤ w4.heap.size := hbe4.size
            clear x0 x1 x2 kl hFr HGr hgj hown bE hgbr
            go_wp2_with (at_builtin; refine wpList_append_own _ rfl _ _ 23 rfl w7.heap.size 3 i0 (.int .i64 0) 1 8 Try.underlying23 hi hz0 hz1 hz2 rfl (by decide) _ _ _ rfl (World.ownsRow.alloc hown4 _) ⟨w4.heap.size, 0, none⟩ 1 1 [.int .i64 gj] rfl rfl (cell_one_new _ _ _) (fun x hx => by simp at hx; subst hx; rfl) (by unfold maxLen; omega) (by omega) (by simp; omega) ?_; intro v' w3 hown' hgrow3 _)
            have hB5 := (hbe4.alloc hbe4.size (.cells #[.int .i64 gj] 3)).grown hgrow3 (by simp; omega) (fun q hq => (World.ownsRow.lt hown4 q hq).1)
            exact ⟨⟨j, l ++ [gj], by omega, rfl, by simp; omega, HS.out, own_snoc hown', hB5⟩, by simp [intOf]; omega⟩
          · have hpe : ¬ p < m - 1 := hlt2
            have k1 : ¬ (p : Int) < (m : Int) - 1 := by omega
            have hl := got_end HL.out hpe
            have E3 : Hid (pullL W n f m g = l) := (E1.out.trans hl.symm : _ = _)
            have hB9 := hB3.trans (hbe.mono hB3.size)
            have hbs : w.heap.size ≤ w7.heap.size := hB3.size
            clear HG3 hF3 HL hl E1 kl0
            go_wp2
            go_ret2
            exact ⟨by rw [E3.out, E2.out]; exact ansW_own hown hbs, hB9⟩
end Go.Proofs.Ytfciecoigfnnhaa
