/- ReadFrame: the program's side. -/
import Derived.Test.YtplpggcbpcebcaaDoorFcA
import Derived.Test.YtplpggcbpcebcaaDoorCsShelf
import Derived.Laws.Strings2
namespace Go.Proofs.YtplpggcbpcebcaaDoor
open Go.RowKit
theorem cutT_size (s : ByteArray) : (cutT s).size ≤ s.size := by
  unfold cutT Lib.trimSuffix
  show (if Lib.hasSuffix s.data.toList enT.data.toList then s.data.toList.take (s.data.toList.length - enT.data.toList.length) else s.data.toList).toArray.size ≤ s.data.size
  split <;> simp
set_option maxRecDepth 20000 in
set_option maxHeartbeats 1000000 in
theorem iRead (s : ByteArray) (w : World) (hs : s.size ≤ 1048576) (hD : Db w) :
    Calls Tryd.prog 9 #[.string s] w fun e w' => AnsF s w e w' ∧ Below w.heap.size w w' := by
  have hx0 : Below w.heap.size w (w.alloc (frvO 0 none 0 0 24)) := (Below.refl _ _).alloc (Nat.le_refl _) _
  have z1 := bx_new (w := w) (frvL 0 none 0 0) 24 rfl
  have hs1 : (w.alloc (frvO 0 none 0 0 24)).heap.size = w.heap.size + 1 := size_al _ _
  have hcs := cutT_size s
  have kC := fun w2 => Tryd.strings_CutSuffix s enT w2 (by omega)
  have kU := fun w2 => iUn (cutT s) w2 (by omega)
  obtain ⟨hu1, hu2⟩ := uT_bits (cutT s)
  have HC : Hid (∀ w2, Calls Tryd.prog 29 #[.string s, .string enT] w2 fun e w' => e = .returned (.tuple #[.string (cutT s), .bool (Lib.hasSuffix s.data.toList enT.data.toList)]) ∧ w' = w2) := kC
  have HY : Hid (OkI s → AnsF s w = AnsF s w) := fun _ => rfl
  have hIff : Hid (OkI s ↔ 31 ≤ (uT (cutT s)).size ∧ frOut ((idK (uT (cutT s)) : Nat) : Int) (((uT (cutT s)).size - 31) / 8) (dtF (uT (cutT s))) = s) := ⟨fun h => ⟨h.g, h.t⟩, fun h => ⟨h.1, h.2⟩⟩
  have hNo : Hid (¬ OkI s → ¬ OkS s) := fun h g => h g.i
  clear kC HY
  generalize Lib.hasSuffix s.data.toList enT.data.toList = T5 at *
  by_cases h31 : 31 ≤ (uT (cutT s)).size
  · have HYs : Hid (OkI s → rdB s = true ∧ rdI s = (idK (uT (cutT s)) : Nat) ∧ rdN s = ((uT (cutT s)).size - 31) / 8 ∧ plT s = uT (cutT s)) := fun h => by
      obtain ⟨g1, g2, g3⟩ := h.s
      obtain ⟨y1, y2, y3⟩ := rd_yes g1
      have e : plT s = uT (cutT s) := by rw [g2]; rfl
      exact ⟨y1, by rw [y2, e], by rw [y3, ← g3], e⟩
    generalize hP : uT (cutT s) = P at *
    have hb2 := hu2
    have j1 : ¬ (P.size : Int) < 31 := by omega
    have sl1 : ∀ w : World, (Instr.slice 9 (.string P) (some (.int .i64 1)) (some (.int .i64 12)) none).run Tryd.prog w = .ok (.string (P.extract 1 12)) w := fun w =>
      run_slice_string w 9 P .i64 .i64 1 12 Tryd.underlying9 (by omega) (by omega) (by omega)
    have sl2 : ∀ w : World, (Instr.slice 9 (.string P) (some (.int .i64 16)) (some (.int .i64 ((P.size : Int) - 15))) none).run Tryd.prog w = .ok (.string (P.extract 16 (P.size - 15))) w := fun w => by
      rw [run_slice_string w 9 P .i64 .i64 16 ((P.size : Int) - 15) Tryd.underlying9 (by omega) (by omega) (by omega), show ((P.size : Int) - 15).toNat = P.size - 15 by omega]; rfl
    have q1 : (P.extract 1 12).size = 11 := by rw [ByteArray.size_extract]; omega
    have q2 : (P.extract 16 (P.size - 15)).size = P.size - 31 := by rw [ByteArray.size_extract]; omega
    have kN := fun w2 => numBits (P.extract 1 12) w2 (by omega) (fun i hi => by rw [bt_ext P 1 12 i (by omega) (by omega)]; exact hb2 _ (by omega))
    have en : nmK (bt (P.extract 1 12)) 0 11 = idK P := nm_ext P 1 11 (by omega)
    rw [q1, en] at kN
    have kY := fun w2 => bytes_any (P.extract 16 (P.size - 15)) w2 (by omega) (fun i hi => by rw [bt_ext P 16 (P.size - 15) i (by omega) (by omega)]; exact hb2 _ (by omega))
    rw [q2] at kY
    have hbl := byL_len (P.extract 16 (P.size - 15)) ((P.size - 31) / 8)
    have HG : Hid (∀ i, i < (P.size - 31) / 8 → gL (byL (P.extract 16 (P.size - 15)) ((P.size - 31) / 8)) i = dtF P i) := fun i hi => by
      have e1 : gL (byL (P.extract 16 (P.size - 15)) ((P.size - 31) / 8)) i = ((nmK (bt (P.extract 16 (P.size - 15))) (8 * i) 8 : Nat) : Int) := by
        unfold gL byL
        simp [List.getD, hi]
      rw [e1]
      unfold dtF
      rw [nmK_congr (g := bt P) (b := 16 + 8 * i) 8 (fun j hj => by rw [bt_ext P 16 (P.size - 15) _ (by omega) (by omega)]; congr 1; omega)]
    have hbd : ∀ i, i < (P.size - 31) / 8 → 0 ≤ dtF P i ∧ dtF P i ≤ 255 := fun i hi => dtF_bd hb2 (by omega)
    generalize hL : byL (P.extract 16 (P.size - 15)) ((P.size - 31) / 8) = L at *
    clear hL
    generalize P.extract 16 (P.size - 15) = E2 at *
    generalize P.extract 1 12 = E1 at *
    generalize hM : (P.size - 31) / 8 = M at *
    have kF := fun a c w2 (hf : YL w2 a M (dtF P)) (h : Below w.heap.size w w2) => iFrameBits ((idK P : Nat) : Int) a M c (dtF P) w2 hf hbd (hD.on h)
    generalize hFO : frOut ((idK P : Nat) : Int) M (dtF P) = FO at *
    generalize idK P = I at *
    clear hbd hu2 hb2 en q1 q2 hFO
    go_enter Tryd.func9, Tryd.ntmps9
    go_wp2_with fail
    refine (HC.out _).mono ?_
    rintro e w2 ⟨rfl, hw2⟩
    subst hw2
    clear HC
    generalize hw1 : w.alloc (frvO 0 none 0 0 24) = w1 at *
    go_wp2_with fail
    refine (kU _).mono ?_
    rintro e w2 ⟨rfl, hb2⟩
    have z2 := z1.on hb2
    have hB2 := stepA hx0 hb2
    have hn2 := hb2.size
    clear kU hb2 z1 hx0 hw1
    go_wp2_with fail
    refine (kN _).mono ?_
    rintro e w3 ⟨rfl, hb3⟩
    have z3 := z2.on hb3
    have hB3 := stepA hB2 hb3
    have hn3 := hb3.size
    clear kN hb3 z2 hB2
    go_wp2_with fail
    refine (kY _).mono ?_
    rintro e w4 ⟨⟨a4, c4, rfl, hO4⟩, hb4⟩
    have hQ4 := hO4.vq
    have z4 := z3.on hb4
    have hB4 := stepA hB3 hb4
    have hn4 := hb4.size
    rw [hbl] at hQ4
    clear kY hb4 z3 hB3 hO4
    have hQ5 : VQ w4 w3.heap.size w4.heap.size a4 M (fun i => .int .u8 (dtF P i)) := hQ4.congr (fun i hi => by rw [HG.out i hi])
    clear hQ4
    rw [hbl]
    have z5 := bx_new (w := w4) (frvL (I : Int) a4 M c4) 24 rfl
    have hx5 : Below w4.heap.size w4 (w4.alloc (frvO (I : Int) a4 M c4 24)) := (Below.refl _ _).alloc (Nat.le_refl _) _
    have y4 := z4.on hx5
    have hQ6 := hQ5.on hx5
    have hB5 := stepA hB4 hx5
    have hs5 : (w4.alloc (frvO (I : Int) a4 M c4 24)).heap.size = w4.heap.size + 1 := size_al _ _
    clear hQ5 hx5 z4 hB4
    have x0 := z5.c0
    have x1 := z5.c1
    have kF5 := kF a4 c4 (w4.alloc (frvO (I : Int) a4 M c4 24)) hQ6.yl hB5
    clear kF
    go_wp2_with fail
    refine kF5.mono ?_
    rintro e w6 ⟨rfl, hb6⟩
    have z6 := z5.on hb6
    have y6 := y4.on hb6
    have hQ7 := hQ6.on hb6
    have hB6 := stepA hB5 hb6
    have hn6 := hb6.size
    clear kF5 hb6 z5 y4 hQ6 hB5 x0 x1
    generalize w4.heap.size = B5 at *
    have x0 := z6.c0
    have x1 := z6.c1
    have v0 := y6.c0
    have v1 := y6.c1
    have f0 := y6.fz 0
    have f1 := y6.fz 1
    have l6 := y6.lt
    by_cases hEq : FO = s
    · have hOk := hIff.out.2 ⟨h31, hEq⟩
      obtain ⟨r1, r2, r3, r4⟩ := HYs.out hOk
      subst hEq
      have rE := (y6.set 0 (by simp) (.int .i64 (I : Int))).set 1 (by simp) (.slice a4 M c4)
      have hBE := (hB6.setCell (p := ⟨w.heap.size, 0, none⟩) (by simp) (.int .i64 (I : Int))).setCell (p := ⟨w.heap.size, 1, none⟩) (by simp) (.slice a4 M c4)
      have hQE := vq_set (vq_set hQ7 (b := w.heap.size) (k := 0) (.int .i64 (I : Int)) (by omega)) (b := w.heap.size) (k := 1) (.slice a4 M c4) (by omega)
      go_wp2
      refine ret_frv_tmp Tryd.results9 rfl rE.c0 rE.c1 rfl ?_
      refine ⟨⟨a4, c4, ?_, ?_⟩, hBE⟩
      · rw [r1, r2, r3]; rfl
      · rw [r3, r4]
        exact hQE.wide (by omega) (by simp; omega)
    · have hNoK : ¬ OkS FO → True := fun _ => trivial
      have hno := hNo.out (fun h => hEq (hIff.out.1 h).2)
      have rE := (y6.set 0 (by simp) (.int .i64 0)).set 1 (by simp) (.slice none 0 0)
      have hBE := (hB6.setCell (p := ⟨w.heap.size, 0, none⟩) (by simp) (.int .i64 0)).setCell (p := ⟨w.heap.size, 1, none⟩) (by simp) (.slice none 0 0)
      have hne : (FO.toList == s.toList) = false := by
        rw [beq_eq_false_iff_ne]
        exact fun h => hEq (ba_ext' h)
      clear hNoK
      go_wp2
      refine ret_frv_tmp Tryd.results9 rfl rE.c0 rE.c1 rfl ?_
      exact ⟨ans_no hno, hBE⟩
  · have hno := hNo.out (fun h => h31 h.g)
    generalize hP : uT (cutT s) = P at *
    have j1 : (P.size : Int) < 31 := by omega
    clear hu2 hIff hNo
    go_enter Tryd.func9, Tryd.ntmps9
    go_wp2_with fail
    refine (HC.out _).mono ?_
    rintro e w2 ⟨rfl, hw2⟩
    subst hw2
    clear HC
    generalize hw1 : w.alloc (frvO 0 none 0 0 24) = w1 at *
    go_wp2_with fail
    refine (kU _).mono ?_
    rintro e w2 ⟨rfl, hb2⟩
    have z2 := z1.on hb2
    have hB2 := stepA hx0 hb2
    have hn2 := hb2.size
    clear kU hb2 z1 hx0 hw1
    have v0 := z2.c0
    have v1 := z2.c1
    have f0 := z2.fz 0
    have f1 := z2.fz 1
    have l6 := z2.lt
    have rE := (z2.set 0 (by simp) (.int .i64 0)).set 1 (by simp) (.slice none 0 0)
    have hBE := (hB2.setCell (p := ⟨w.heap.size, 0, none⟩) (by simp) (.int .i64 0)).setCell (p := ⟨w.heap.size, 1, none⟩) (by simp) (.slice none 0 0)
    go_wp2
    refine ret_frv_tmp Tryd.results9 rfl rE.c0 rE.c1 rfl ?_
    exact ⟨ans_no hno, hBE⟩
end Go.Proofs.YtplpggcbpcebcaaDoor
