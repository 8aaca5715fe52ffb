/- Where one may be a tick later, as the program tells it. -/
import Derived.Test.YtbndhhjgjalecabDoorQCwNbU
import Derived.Test.YtbndhhjgjalecabDoorQStPut
import Derived.Test.YtbndhhjgjalecabDoorQCwBs
namespace Go.Proofs.YtbndhhjgjalecabDoor
open Go.RowKit

set_option maxRecDepth 20000 in
set_option maxHeartbeats 2000000 in
theorem later_any (W : Int) (a : Option Addr) (n c : Nat) (f : Nat → Int) (p : Nat) (w : World) (hf : IL w a n f) (hs : sizedB W n = true) (hp : p < n) (hT : Tab w) :
    Calls Tryd.prog 25 #[gr W (hgt W n) a n c, .int .i64 (p : Int)] w fun e w' => AnsL w w' e (nbL W n f p) ∧ Below w.heap.size w w' := by
  obtain ⟨i0, hi, hzz⟩ := Option.map_eq_some_iff.1 infoI
  simp only [Prod.mk.injEq] at hzz
  obtain ⟨hz0, hz1, hz2⟩ := hzz
  have hE := lf_nbL (f := f) hs hp
  obtain ⟨R, hR⟩ : ∃ R, nbL W n f p = R := ⟨_, rfl⟩
  rw [hR] at hE ⊢
  have HE : Hid (Lib.compact ((lfK W n f p 4).mergeSort fun x y => decide (x ≤ y)) = R) := hE
  clear hE hR
  obtain ⟨H, eH⟩ : ∃ H, hgt W n = H := ⟨_, rfl⟩
  have HH : Hid (hgt W n = H) := eH
  rw [eH]
  clear eH
  have bG := bx_new (w := w) [.int .i64 W, .int .i64 H, .slice a n c] 43 rfl
  have hBG : Below w.heap.size w (w.alloc (.cells #[.int .i64 W, .int .i64 H, .slice a n c] 43)) := (Below.refl _ _).alloc (Nat.le_refl _) _
  have hown := own_lit1 (w.alloc (.cells #[.int .i64 W, .int .i64 H, .slice a n c] 43)) (w.heap.size + 1) (p : Int) (gl (lfK W n f p 0)) rfl (by simp)
  rw [size_al] at hown
  have HO : Hid (Own ((w.alloc (.cells #[.int .i64 W, .int .i64 H, .slice a n c] 43)).alloc (.cells #[.int .i64 (p : Int)] 3)) (w.heap.size + 1) (.slice (some ⟨w.heap.size + 1, 0, none⟩) 1 1) 1 (gl (lfK W n f p 0))) := hown
  have hB0 : Below (w.heap.size + 1) (w.alloc (.cells #[.int .i64 W, .int .i64 H, .slice a n c] 43)) ((w.alloc (.cells #[.int .i64 W, .int .i64 H, .slice a n c] 43)).alloc (.cells #[.int .i64 (p : Int)] 3)) := (Below.refl _ _).alloc (by simp) _
  clear hown
  go_enter Tryd.func25, Tryd.ntmps25
  go_wp2
  generalize w.alloc (.cells #[.int .i64 W, .int .i64 H, .slice a n c] 43) = W1 at *
  go_loopw [5, 9] (fun o i wr => ∃ k : Nat, k ≤ 4 ∧ i = .int .i64 k ∧ Own wr (w.heap.size + 1) o (lfK W n f p k).length (gl (lfK W n f p k)) ∧ Below (w.heap.size + 1) W1 wr) (fun _ i _ => 4 - (intOf i).toNat)
  case atStart => exact ⟨0, Nat.zero_le _, rfl, HO.out, hB0⟩
  case round =>
    obtain ⟨k, hk, rfl, hown, hB⟩ := hrel
    have hlen := lfK_len W n f p k
    have HL : Hid ((lfK W n f p k).length = k + 1) := hlen
    have hlen2 : (lfK W n f p k).length ≤ 5 := by omega
    have hBw : Below w.heap.size w wr := hBG.trans (hB.mono (by omega))
    have hbase : w.heap.size + 1 ≤ wr.heap.size := by have := bG.lt; have := hB.size; omega
    clear HO hB0 hlen
    by_cases hlt : k < 4
    · have bw := bG.below hB (by omega)
      have x0 := bw.c0
      have x1 := bw.c1
      have x2 := bw.c2
      have j1 : (k : Int) < 4 := by omega
      have hfw := hf.below hBw
      have hTw := hT.on hBw
      have hst := step_any W a n c f p k wr hfw hs hlt hp hTw
      have hstep : lfK W n f p (k + 1) = lfK W n f p k ++ [stN W (hgt W n) f k p] := rfl
      rw [HH.out] at hst
      have HS : Hid (lfK W n f p (k + 1) = lfK W n f p k ++ [stN W (hgt W n) f k p]) := hstep
      clear hstep
      rw [HH.out] at HS
      generalize stN W H f k p = z at hst HS
      clear HL
      generalize lfK W n f p k = l at hown hlen2 HS
      obtain ⟨sa, sc, rfl⟩ := hown.shape
      go_wp2_with fail
      refine hst.mono ?_
      rintro e w4 ⟨rfl, hb4⟩
      have hown4 := hown.below hb4
      have hB4 := hB.trans (hb4.mono hbase)
      have hbase4 : w.heap.size + 1 ≤ w4.heap.size := Nat.le_trans hbase hb4.size
      clear hst x0 x1 x2 bw bG hfw hTw hb4 hown hBw hB
      go_wp2_with (at_builtin; refine wpList_append_own _ rfl _ _ 22 rfl (w.heap.size + 1) 3 i0 (.int .i64 0) 1 8 Tryd.underlying22 hi hz0 hz1 hz2 rfl (by decide) _ _ _ rfl (World.ownsRow.alloc hown4 _) ⟨w4.heap.size, 0, none⟩ 1 1 [.int .i64 z] rfl rfl (cell_one_new _ _ _) (fun x hx => by simp at hx; subst hx; rfl) (by unfold maxLen; omega) (by omega) (by simp; omega) ?_; intro v' w3 hown' hgrow3 _)
      have hB3 := (hB4.alloc hbase4 (.cells #[.int .i64 z] 3)).grown hgrow3 (by simp; omega) (fun q hq => (World.ownsRow.lt hown4 q hq).1)
      exact ⟨⟨k + 1, by omega, by go_num, by rw [HS.out]; exact own_snoc hown', hB3⟩, by simp [intOf]; omega⟩
    · have hke : k = 4 := by omega
      subst hke
      clear bG hf hT
      generalize lfK W n f p 4 = l at hown hlen2 HE HL
      obtain ⟨gb, cap, rfl, hgb, hcap, hP⟩ := own_some2 hown (by have := HL.out; omega)
      clear HL
      have hsrt := Tryd.slices_Sort_int gb 0 cap l wr (ip_holds hP) hP.lt (by omega)
      have hsl : (l.mergeSort fun x y => decide (x ≤ y)).length = l.length := List.length_mergeSort l
      generalize (l.mergeSort fun x y => decide (x ≤ y)) = s at hsrt hsl HE
      have HSL : Hid (s.length = l.length) := hsl
      clear hown hsl
      go_wp2_with fail
      refine hsrt.mono ?_
      rintro e w5 ⟨rfl, nq, os, hw5⟩
      have hsl := HSL.out
      have hPB := put_ip hP s hsl nq os
      rw [← hw5] at hPB
      obtain ⟨hP5, hB5⟩ := hPB
      clear hw5 hsrt
      have hP5' : IP w5 gb s.length (gl s) := by rw [hsl]; exact hP5
      have hcm := Tryd.slices_Compact_int gb 0 cap s w5 (ip_holds hP5') (by omega) (by omega)
      have hcl : (Lib.compact s).length ≤ s.length := by unfold Lib.compact Lib.compactUpTo; rw [List.length_map]; exact Nat.le_trans (List.length_filter_le _ _) (by simp)
      rw [HE.out] at hcm hcl
      clear HE
      rw [hsl] at hcm
      clear hsl
      go_wp2_with fail
      refine hcm.mono ?_
      rintro e w6 ⟨rfl, nr, hw6⟩
      have hsl := HSL.out
      have hPC := put_ip hP5' (R ++ List.replicate (s.length - R.length) 0) (by simp; omega) nr #[]
      rw [Go.Sort.grow_empty, hsl, ← hw6] at hPC
      obtain ⟨hP6, hB6⟩ := hPC
      clear hw6 hcm
      have hP7 : IP w6 gb R.length (gl R) := ⟨hP6.lt, fun i hi => by
        rw [hP6.c i (by omega)]
        simp [gl, List.getD, List.getElem?_append, hi], hP6.fz⟩
      have hBz : Below w.heap.size w w6 := hBw.trans ((hB5.mono (by omega)).trans (hB6.mono (by omega)))
      clear hsl HSL hcl
      go_wp2
      go_ret
      exact ⟨⟨some ⟨gb, 0, none⟩, cap, rfl, lq_of hP7 (by omega) hP7.lt⟩, hBz⟩
end Go.Proofs.YtbndhhjgjalecabDoor
