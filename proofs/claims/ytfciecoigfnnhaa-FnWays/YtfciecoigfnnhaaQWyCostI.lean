/- A list without its first number. -/
import Derived.Test.YtfciecoigfnnhaaQSzHv
import Derived.Test.YtfciecoigfnnhaaQWyGrd
import Derived.Test.YtfciecoigfnnhaaQWyStpI
import Derived.Test.YtfciecoigfnnhaaQWyAroI
import Derived.Test.YtfciecoigfnnhaaQWyCost
import Derived.Test.YtfciecoigfnnhaaQWyCutT
import Derived.Deep.RegionHeld3
import Derived.Deep.CutRange
import Derived.BigQuiet
namespace Go.Proofs.Ytfciecoigfnnhaa
open Go.RowKit
theorem slice1 (gb go m d : Nat) (hm : 1 ≤ m) (hd : m ≤ d) : ∃ A : Option Addr, (∀ w, (Instr.sliceAt 23 (.slice (some ⟨gb, go, none⟩) m d) (some (.int .i64 1)) none none).run Try.prog w = .ok (.slice A (m - 1) (d - 1)) w) ∧ (2 ≤ m → A = some ⟨gb, go + 1, none⟩) := by
  refine ⟨if d = 1 then some ⟨gb, go, none⟩ else some ⟨gb, go + 1, none⟩, fun w => ?_, fun h => if_neg (by omega)⟩
  have he : Try.prog.elem 23 = 3 := by kernel_rfl
  have hu : Try.prog.underlying 23 = some (.slice (Try.prog.elem 23)) := by rw [he]; exact Try.underlying23
  rw [run_sliceAt_slice (h := hu), run_slice_l (ht := hu) (h0 := by omega) (h1 := by omega)]
  have e : Int.toNat 1 = 1 := rfl
  rw [e]
  have hsz : (sizeOf (Try.prog.elem 23)).run Try.prog w = .ok 1 w := by kernel_rfl
  rw [hsz]
  simp [Result.andThen, sliced, Addr.add]
end Go.Proofs.Ytfciecoigfnnhaa

/- What a way costs, as the program says it. -/
namespace Go.Proofs.Ytfciecoigfnnhaa
open Go.RowKit

set_option maxHeartbeats 4000000 in
theorem implCost (W : Int) (q b : Option Addr) (n c m d : Nat) (f g : Nat → Int) (w : World) (hn : n ≤ 1048576) (hm : m ≤ 1048576) (hd : m ≤ d) (hf : IL w q n f) (hg : IL w b m g) :
    Calls Try.prog 13 #[cel W q n c, .slice b m d] w fun e w' => e = .returned (.tuple #[.int .i64 (wayS W n f m g 1), .int .i64 (wayS W n f m g 2), .bool (wayQ W n f m g)]) ∧ Below w.heap.size w w' := by
  have hb0 : Below w.heap.size w (w.alloc (celO W q n c 25)) := (Below.refl _ _).alloc (Nat.le_refl _) _
  have kg := groundFrom_any W q b n c m d f g (w.alloc (celO W q n c 25)) hn hm (hf.below hb0) (hg.below hb0)
  cases eq : hdB W n f m g with
  | false =>
    have eQ : wayQ W n f m g = false := by unfold wayQ; unfold hdB at eq; rw [eq]; rfl
    have e1 : wayS W n f m g 1 = 0 := by simp [wayS, eQ]
    have e2 : wayS W n f m g 2 = 0 := by simp [wayS, eQ]
    rw [eQ, e1, e2]
    rw [eq] at kg
    have kg : Calls Try.prog 50 #[cel W q n c, .slice b m d] (w.alloc (celO W q n c 25)) fun e w' => e = .returned (.tuple #[gr 0 0 none 0 0, .bool false]) ∧ Below (w.alloc (celO W q n c 25)).heap.size (w.alloc (celO W q n c 25)) w' := kg
    go_enter Try.func13, Try.ntmps13
    go_wp2_with fail
    refine kg.mono ?_
    rintro e9 w1 ⟨rfl, hb1⟩
    have hB1 := (stepA hb0 hb1).alloc (stepA hb0 hb1).size (.cells #[.int .i64 0, .int .i64 0, .slice none 0 0] 73)
    clear kg
    go_wp2
    go_ret3
    exact ⟨rfl, hB1⟩
  | true =>
    have eQ : wayQ W n f m g = wayK W n f g (m - 1) := by unfold wayQ; unfold hdB at eq; rw [eq]; rfl
    obtain ⟨hc, m1, m2, hf0⟩ := hdB_parts eq
    have hs := (celB_parts hc).1
    rw [eq] at kg
    have kg : Calls Try.prog 50 #[cel W q n c, .slice b m d] (w.alloc (celO W q n c 25)) fun e w' => e = .returned (.tuple #[gr W (hgt W n) q n c, .bool true]) ∧ Below (w.alloc (celO W q n c 25)).heap.size (w.alloc (celO W q n c 25)) w' := kg
    have HQ : Hid _ := eQ
    obtain ⟨gb, go, rfl, hgb, hgc⟩ := hg (by omega)
    obtain ⟨A, hsl, hA⟩ := slice1 gb go m d m1 hd
    clear eQ eq
    have i1 : (1 : Int) ≤ (m : Int) := by omega
    have hH := hgt_mul hs
    have ks0 := fun a b w h => stepToll_any W q n c f a b w hs h
    go_enter Try.func13, Try.ntmps13
    go_wp2_with fail
    refine kg.mono ?_
    rintro e9 w1 ⟨rfl, hb1⟩
    have hB1 := stepA hb0 hb1
    generalize hgt W n = H at *
    have bG := (bx_new (w := w1) (b := w1.heap.size) [.int .i64 W, .int .i64 H, .slice q n c] 73 rfl)
    have hB2 := hB1.alloc hB1.size (.cells #[.int .i64 W, .int .i64 H, .slice q n c] 73)
    clear kg hb0 hb1 hB1
    go_upto_region 4 with fail
    generalize w1.alloc (.cells #[.int .i64 W, .int .i64 H, .slice q n c] 73) = w2 at bG hB2 ⊢
    generalize w1.heap.size = G at bG ⊢
    have hF2 : Hid (IL w2 q n f) := hf.below hB2
    have hG2 : Hid (∀ i, i < m → w2.cell? ⟨gb, go + i, none⟩ = some (.int .i64 (g i))) := fun i hi => (hB2.cell (p := ⟨gb, go + i, none⟩) hgb).trans (hgc i hi)
    have hgb2 : gb < w2.heap.size := Nat.lt_of_lt_of_le hgb hB2.size
    have bS := bx_new (w := w2) (b := w2.heap.size) [.int .i64 0, .int .i64 0] 88 rfl
    have hb3 : Below w2.heap.size w2 (w2.alloc (.cells #[.int .i64 0, .int .i64 0] 88)) := (Below.refl _ _).alloc (Nat.le_refl _) _
    clear hf hg hgc hgb
    go_upto_region 5 with fail
    generalize w2.alloc (.cells #[.int .i64 0, .int .i64 0] 88) = w3 at bS hb3 ⊢
    go_wp2
    have hGl := bG.lt
    go_loopw [26] (fun i wr => ∃ k : Nat, k ≤ m - 1 ∧ i = .int .i64 (k : Int) ∧ wayK W n f g k = true ∧ Bx wr w2.heap.size [.int .i64 (kindK W n f g 1 k), .int .i64 (kindK W n f g 2 k)] ∧ Below w2.heap.size w2 wr) (fun i _ => m - (intOf i).toNat)
    case atStart => exact ⟨0, by omega, rfl, rfl, bS, hb3⟩
    case round =>
      obtain ⟨k, hk, rfl, hway, bM, hbel⟩ := hrel
      clear bS hb3
      by_cases hlt : k < m - 1
      · have hA2 := hA (by omega)
        subst hA2
        have j1 : (k : Int) < ((m - 1 : Nat) : Int) := by omega
        have j0 : (0 : Int) ≤ (k : Int) := by omega
        have j2 : (k : Int) < (m : Int) := by omega
        have bC := bG.on hbel
        have e3 : go + 1 + k = go + (k + 1) := by omega
        have g0 := (hbel.cell (p := ⟨gb, go + k, none⟩) hgb2).trans (hG2.out k (by omega))
        have g1 := (hbel.cell (p := ⟨gb, go + (k + 1), none⟩) hgb2).trans (hG2.out (k + 1) (by omega))
        rw [← e3] at g1
        have hgb' : gb < wr.heap.size := Nat.lt_of_lt_of_le hgb2 hbel.size
        have hFr := IL.below hF2.out hbel
        have ks := fun w h => ks0 (g k) (g (k + 1)) w h
        have hin := stepV_in W n f (g k) (g (k + 1))
        have n1 := kindK_le W n f g 1 k
        have n2 := kindK_le W n f g 2 k
        have t1 : Hid (kindK W n f g 1 (k + 1) = kindK W n f g 1 k + stA (stepV W n f (g k) (g (k + 1)))) := (rfl : _ = _)
        have t2 : Hid (kindK W n f g 2 (k + 1) = kindK W n f g 2 k + stC (stepV W n f (g k) (g (k + 1)))) := (rfl : _ = _)
        have hno : Hid (stepV W n f (g k) (g (k + 1)) = 0 → wayK W n f g (m - 1) = false) := fun h => wayK_not hlt h
        have hyes : Hid (stepV W n f (g k) (g (k + 1)) ≠ 0 → wayK W n f g (k + 1) = true) := fun h => (by unfold wayK; simp [hway, h] : _ = _)
        clear hway ks0 e3
        generalize stepV W n f (g k) (g (k + 1)) = v at ks hin t1 t2 hno hyes
        generalize g k = gk at *
        generalize g (k + 1) = gl' at *
        generalize hK1 : kindK W n f g 1 k = K1 at *
        generalize hK2 : kindK W n f g 2 k = K2 at *
        clear hK1 hK2
        have hv1 : 0 ≤ stA v ∧ stA v ≤ 1 := by unfold stA; split <;> omega
        have hv2 : 0 ≤ stC v ∧ stC v ≤ 1 := by unfold stC; split <;> omega
        have hvq : Hid (decide (v ≠ 0) = true → v ≠ 0) := fun h => of_decide_eq_true h
        have hvr : Hid (decide (v ≠ 0) = false → v = 0) := fun h => (by simpa using h : v = 0)
        generalize stA v = va at *
        generalize stC v = vb at *
        generalize decide (v ≠ 0) = vq at *
        have hw0 := Below.refl wr.heap.size wr
        go_upto_region 8 with fail
        go_cut [12, 13] from 31 to 41 (fun s1 s2 wx => CutT wr wx va vb vq s1 s2)
        case first =>
          go_region_held3 (fun w' => w'.cell? ⟨G, 0, none⟩ = some (.int .i64 W) ∧ w'.cell? ⟨G, 1, none⟩ = some (.int .i64 H) ∧ w'.cell? ⟨G, 2, none⟩ = some (.slice q n c) ∧ w'.cell? ⟨gb, go + k, none⟩ = some (.int .i64 gk))
            (first | (exact ⟨(bC.on hw0.drew).c0, (bC.on hw0.drew).c1, (bC.on hw0.drew).c2, (Below.cell (p := ⟨gb, go + k, none⟩) hw0.drew hgb').trans g0⟩) | (exact ⟨(bC.on hw1).c0, (bC.on hw1).c1, (bC.on hw1).c2, (Below.cell (p := ⟨gb, go + k, none⟩) hw1 hgb').trans g0⟩) | (exact ⟨(bC.on ((hw0.alloc (Nat.le_refl _) _).drew)).c0, (bC.on ((hw0.alloc (Nat.le_refl _) _).drew)).c1, (bC.on ((hw0.alloc (Nat.le_refl _) _).drew)).c2, (Below.cell (p := ⟨gb, go + k, none⟩) ((hw0.alloc (Nat.le_refl _) _).drew) hgb').trans g0⟩) | (exact ⟨(bC.on (hw1.alloc hw1.size _)).c0, (bC.on (hw1.alloc hw1.size _)).c1, (bC.on (hw1.alloc hw1.size _)).c2, (Below.cell (p := ⟨gb, go + k, none⟩) (hw1.alloc hw1.size _) hgb').trans g0⟩) | (exact ⟨(bC.on (bSt hw1 (Nat.le_refl _))).c0, (bC.on (bSt hw1 (Nat.le_refl _))).c1, (bC.on (bSt hw1 (Nat.le_refl _))).c2, (Below.cell (p := ⟨gb, go + k, none⟩) (bSt hw1 (Nat.le_refl _)) hgb').trans g0⟩) | (fail))
            (first | (go_at_call 51; refine (ks _ (hFr.below (by first | exact hw0.drew | exact (hw0.alloc (Nat.le_refl _) _).drew))).mono ?_; rintro e9 w5 ⟨rfl, hbn⟩; (first | (have hw1 := stepA hw0.drew hbn; have tk := hbn) | (have tk := below_al ((Below.refl _ _).drew.trans hbn); have hw1 := stepA hw0 tk; have nb := (bx_new (b := wr.heap.size) (w := wr) [.int .i64 0, .int .i64 0] 88 rfl).on ((Below.refl _ _).drew.trans hbn))); clear hbn; (try (have p0 := nb.c0; have p1 := nb.c1; have q0 := nb.fz 0; have q1 := nb.fz 1))) | (fail))
          all_goals
            go_wp2_with fail
            go_meet
            case rel =>
              first
              | exact ⟨_, rfl, rfl, hw1.size, bx_new _ _ rfl, hw1.alloc hw1.size _⟩
              | exact ⟨_, rfl, rfl, Nat.le_refl _, (nb.set 0 (by simp) _).set 1 (by simp) _, bSt hw1 (Nat.le_refl _)⟩
        case rest =>
          obtain ⟨tb, rfl, rfl, htb, bT, hbs⟩ := hcut
          have hbel2 := hbel.trans (hbs.mono hbel.size)
          have bM2 := bM.on hbs
          have hMl := bM.lt
          have hB3 := stepA hB2 hbel2
          clear g0 g1 hw0 ks hFr bC
          cases vq with
          | false =>
            have h0 := hno.out (hvr.out rfl)
            have eQ := HQ.out.trans h0
            have e1 : wayS W n f m g 1 = 0 := by simp [wayS, eQ]
            have e2 : wayS W n f m g 2 = 0 := by simp [wayS, eQ]
            clear hno hyes t1 t2 HQ h0 hvq hvr
            go_wp2
            go_ret3
            first | exact ⟨ret_three e1.symm e2.symm eQ.symm, hB3⟩ | exact ⟨rfl, hB3⟩
          | true =>
            have h0 := hyes.out (hvq.out rfl)
            have u1 := t1.out
            have u2 := t2.out
            have U1 : Hid _ := u1
            have U2 : Hid _ := u2
            clear hno hyes t1 t2 hvq hvr u1 u2
            have x0 := bM2.c0
            have x1 := bM2.c1
            have y0 := bT.c0
            have y1 := bT.c1
            go_wp2_with fail
            refine (tplus_any K1 K2 va vb _ (by omega) (by omega) (by omega) (by omega)).mono ?_
            rintro e9 w7 ⟨rfl, hb7⟩
            have bM7 := bM2.on hb7
            clear x0 x1 y0 y1
            have s0 := bM7.c0
            have s1 := bM7.c1
            have f0 := bM7.fz 0
            have f1 := bM7.fz 1
            have LR := bM7.lt
            have bE := ((bM7.set 0 (by simp) (.int .i64 (K1 + va))).set 1 (by simp) (.int .i64 (K2 + vb)))
            have hBE := bSt (g := w2.heap.size) (u := .int .i64 (K1 + va)) (v := .int .i64 (K2 + vb)) (stepA hbel2 hb7) (Nat.le_refl _)
            clear bM7 bM2 bM bT hb7
            go_wp2
            exact ⟨⟨k + 1, by omega, by go_num, h0, by rw [U1.out, U2.out]; exact bE, hBE⟩, by simp [intOf]; omega⟩
      · have hke : k = m - 1 := by omega
        subst hke
        have eQ := HQ.out.trans hway
        have e1 : wayS W n f m g 1 = kindK W n f g 1 (m - 1) := by simp [wayS, eQ]
        have e2 : wayS W n f m g 2 = kindK W n f g 2 (m - 1) := by simp [wayS, eQ]
        have E1 : Hid _ := e1
        have E2 : Hid _ := e2
        have E3 : Hid _ := eQ
        have x0 := bM.c0
        have x1 := bM.c1
        clear hF2 hG2 HQ e1 e2 eQ
        generalize kindK W n f g 1 (m - 1) = K1 at *
        generalize kindK W n f g 2 (m - 1) = K2 at *
        go_wp2
        go_quiet (fail)
        go_wp2
        go_ret3
        exact ⟨ret_three E1.out.symm E2.out.symm E3.out.symm, below_drewN (stepA hB2 hbel) _⟩
end Go.Proofs.Ytfciecoigfnnhaa
