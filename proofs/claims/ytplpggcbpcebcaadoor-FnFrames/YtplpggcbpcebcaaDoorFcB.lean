/- Bytes out of bits. -/
import Derived.Test.YtplpggcbpcebcaaDoorFcW
import Derived.Laws.Strings3
namespace Go.Proofs.YtplpggcbpcebcaaDoor
open Go.RowKit
def byL (s : ByteArray) (k : Nat) : List Int := (List.range k).map fun i => ((nmK (bt s) (8 * i) 8 : Nat) : Int)
theorem byL_len (s : ByteArray) (k : Nat) : (byL s k).length = k := by simp [byL]
theorem byL_step (s : ByteArray) (k : Nat) : byL s (k + 1) = byL s k ++ [((nmK (bt s) (8 * k) 8 : Nat) : Int)] := by simp [byL, List.range_succ]
theorem ext_ext (s : ByteArray) (k : Nat) (h : 8 * k + 8 ≤ s.size) : (s.extract (8 * k) s.size).extract 8 (s.extract (8 * k) s.size).size = s.extract (8 * (k + 1)) s.size := by
  apply ByteArray.ext
  simp only [ByteArray.data_extract, ByteArray.size_extract]
  rw [Array.extract_extract]
  congr 1
  omega
set_option maxRecDepth 20000 in
set_option maxHeartbeats 600000 in
theorem bytes_any (s : ByteArray) (w : World) (hs : s.size ≤ 300) (hb : ∀ i, i < s.size → bt s i = 48 ∨ bt s i = 49) :
    Calls Tryd.prog 31 #[.string s] w fun e w' => (∃ a c, e = .returned (.slice a (byL s (s.size / 8)).length c) ∧ OwY w' w.heap.size (.slice a (byL s (s.size / 8)).length c) (byL s (s.size / 8))) ∧ Below w.heap.size w w' := by
  obtain ⟨i0, hi, hzz⟩ := Option.map_eq_some_iff.1 infoB8
  simp only [Prod.mk.injEq] at hzz
  obtain ⟨hz0, hz1, hz2⟩ := hzz
  have HB : Hid (∀ i, i < s.size → bt s i = 48 ∨ bt s i = 49) := hb
  have h0 := owY_lit0 w w.heap.size (Nat.le_refl _)
  have hb0 : Below w.heap.size w (w.alloc (.cells #[] 5)) := (Below.refl _ _).alloc (Nat.le_refl _) _
  clear hb
  go_enter Tryd.func31, Tryd.ntmps31
  go_wp2
  generalize w.alloc (.cells #[] 5) = w1 at *
  go_loopw [0, 3] (fun r v wr => ∃ (k : Nat) (R : ByteArray) (o : List Int), 8 * k ≤ s.size ∧ r = .string R ∧ v = v ∧ Hid (R = s.extract (8 * k) s.size) ∧ R.size + 8 * k = s.size ∧ Hid (o.length = k) ∧ Hid (o = byL s k) ∧ OwY wr w.heap.size v o ∧ Below w.heap.size w wr) (fun r _ _ => match r with | .string R => R.size | _ => 0)
  case atStart => exact ⟨0, s, [], by omega, rfl, rfl, (by show s = _; apply ByteArray.ext; simp), by omega, (rfl : ([] : List Int).length = 0), rfl, h0, hb0⟩
  case round =>
    obtain ⟨k, R, o, hk, rfl, -, HR, hRs, HOK, HO, hW, hB⟩ := hrel
    have hol : o.length ≤ 100 := by rw [HOK.out]; omega
    clear h0 hb0
    obtain ⟨sa, sc, rfl⟩ := hW.shape
    by_cases hl : 8 ≤ R.size
    · have hx8 : (R.extract 0 8).size = 8 := by rw [ByteArray.size_extract]; omega
      have hbe : ∀ i, i < 8 → bt (R.extract 0 8) i = bt s (8 * k + i) := fun i hi => by
        rw [bt_ext R 0 8 i hl (by omega), HR.out, bt_ext s (8 * k) s.size _ (Nat.le_refl _) (by omega), Nat.zero_add]
      have kN := numBits (R.extract 0 8) wr (by omega) (fun i hi => by rw [hx8] at hi; rw [hbe i hi]; exact HB.out _ (by omega))
      have hnm : nmK (bt (R.extract 0 8)) 0 8 = nmK (bt s) (8 * k) 8 := nmK_congr 8 (fun i hi => by rw [Nat.zero_add]; exact hbe i hi)
      rw [hx8, hnm] at kN
      have hV := nmK_bd (f := bt s) (a := 8 * k) 8 (fun i hi => HB.out _ (by omega))
      have HO2 : Hid (o ++ [((nmK (bt s) (8 * k) 8 : Nat) : Int)] = byL s (k + 1)) := by show _ = _; rw [byL_step, HO.out]
      have HR2 : Hid (R.extract 8 R.size = s.extract (8 * (k + 1)) s.size) := by show _ = _; rw [HR.out]; exact ext_ext s k (by omega)
      have hs2 : (R.extract 8 R.size).size + 8 * (k + 1) = s.size := by rw [ByteArray.size_extract]; omega
      have j1 : (8 : Int) ≤ (R.size : Int) := by omega
      have hlt : (R.extract 8 R.size).size < R.size := by rw [ByteArray.size_extract]; omega
      have sl1 : ∀ w : World, (Instr.slice 9 (.string R) none (some (.int .i64 8)) none).run Tryd.prog w = .ok (.string (R.extract 0 8)) w := fun w => by
        rw [run_slice_string_to_if w 9 R .i64 8 Tryd.underlying9, if_pos ⟨by decide, j1⟩]; rfl
      have sl2 : ∀ w : World, (Instr.slice 9 (.string R) (some (.int .i64 8)) none none).run Tryd.prog w = .ok (.string (R.extract 8 R.size)) w := fun w => by
        rw [run_slice_string_from_if w 9 R .i64 8 Tryd.underlying9, if_pos ⟨by decide, j1⟩]; rfl
      clear HR HO hbe hnm hx8
      generalize nmK (bt s) (8 * k) 8 = V at *
      generalize R.extract 8 R.size = R2 at *
      generalize R.extract 0 8 = Q at *
      have hwv : IntKind.u8.wrap (V : Int) = (V : Int) := by rw [IntKind.wrap_u8]; omega
      go_wp2_with fail
      refine kN.mono ?_
      rintro e w2 ⟨rfl, hb2⟩
      have hW2 := hW.below hb2
      have hB2 := stepA hB hb2
      clear kN hb2
      go_wp2_with (first | (at_builtin; refine wpList_append_own _ rfl _ _ 22 rfl w.heap.size 5 i0 (.int .u8 0) 1 1 Tryd.underlying22 hi hz0 hz1 hz2 rfl (by decide) _ _ _ rfl (hW2.below ((Below.refl _ _).alloc (Nat.le_refl _) _)) ⟨w2.heap.size, 0, none⟩ 1 1 [.int .u8 (V : Int)] rfl rfl (cell_one_new _ _ _) (fun y hy => by simp at hy; subst hy; rfl) (by unfold maxLen; omega) (by omega) (by have := hB2.size; rw [size_al]; omega) ?_; intro v2 w3 hown2 hgrow2 _) | fail)
      have hB3 : Below w.heap.size w w3 := (hB2.alloc hB2.size _).grown hgrow2 (by rw [size_al]; have := hB2.size; omega) (fun q hq => (World.ownsRow.lt hW2 q hq).1)
      exact ⟨⟨k + 1, R2, o ++ [(V : Int)], by omega, rfl, trivial, HR2, by omega, (by show _ = _; rw [List.length_append, HOK.out]; rfl), HO2, hW2.app hown2, hB3⟩, by omega⟩
    · have hke : s.size / 8 = k := by omega
      have j1 : ¬ (8 : Int) ≤ (R.size : Int) := by omega
      have HE : Hid (byL s (s.size / 8) = o) := by show _ = _; rw [hke]; exact HO.out.symm
      clear HO HR HB hke
      go_wp2
      go_ret
      rw [HE.out]
      exact ⟨⟨sa, sc, rfl, hW⟩, hB⟩
end Go.Proofs.YtplpggcbpcebcaaDoor
