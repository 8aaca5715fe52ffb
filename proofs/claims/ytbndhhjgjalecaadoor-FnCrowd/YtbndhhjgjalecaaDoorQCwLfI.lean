/- slices.Sort and slices.Compact, laid at this dump in plain words (printed by a script). -/
import Derived.Sort.EveryDepth
import Derived.Shelf.Sort.AssemblyIn
import Derived.Shelf.Bits.Mul64
import Derived.Ground.Names2Prog
import Derived.Shelf.Slices.CompactI
import Derived.Shelf.Slices.In.SortNone
import Derived.Test.YtbndhhjgjalecaaDoorProg
import Derived.Test.YtbndhhjgjalecaaDoorQClNxB
import Derived.Test.YtbndhhjgjalecaaDoorQCwNbU
import Derived.Test.YtbndhhjgjalecaaDoorQCwBs
namespace Go.Proofs
open Go.Shelf
def Tryd.lays189_ren : Go.Shelf.Ren := ⟨fun | 189 => 77 | 125 => 96 | 257 => 95 | 128 => 110 | 129 => 111 | 294 => 101 | 295 => 102 | 296 => 103 | 297 => 104 | 298 => 105 | 299 => 106 | 216 => 107 | 300 => 108 | 301 => 109 | 328 => 112 | 329 => 113 | 330 => 114 | 331 => 115 | 332 => 116 | 215 => 117 | 343 => 118 | n => n, fun | 28 => 23 | 3 => 3 | 46 => 124 | 0 => 0 | 51 => 141 | 53 => 58 | 4 => 4 | 183 => 148 | 182 => 147 | 131 => 81 | 5 => 5 | 9 => 9 | 218 => 155 | 222 => 159 | 228 => 161 | 229 => 122 | n => n, fun | n => n⟩
theorem Tryd.lays189 : Go.Proofs.Lays.n189 Tryd.prog Tryd.lays189_ren := {
  mixed := by kernel_rfl
  f125 := Tryd.func96.trans (congrArg some (by kernel_rfl))
  f128 := Tryd.func110.trans (congrArg some (by kernel_rfl))
  f129 := Tryd.func111.trans (congrArg some (by kernel_rfl))
  f189 := Tryd.func77.trans (congrArg some (by kernel_rfl))
  f215 := Tryd.func117.trans (congrArg some (by kernel_rfl))
  f216 := Tryd.func107.trans (congrArg some (by kernel_rfl))
  f257 := Tryd.func95.trans (congrArg some (by kernel_rfl))
  f294 := Tryd.func101.trans (congrArg some (by kernel_rfl))
  f295 := Tryd.func102.trans (congrArg some (by kernel_rfl))
  f296 := Tryd.func103.trans (congrArg some (by kernel_rfl))
  f297 := Tryd.func104.trans (congrArg some (by kernel_rfl))
  f298 := Tryd.func105.trans (congrArg some (by kernel_rfl))
  f299 := Tryd.func106.trans (congrArg some (by kernel_rfl))
  f300 := Tryd.func108.trans (congrArg some (by kernel_rfl))
  f301 := Tryd.func109.trans (congrArg some (by kernel_rfl))
  f328 := Tryd.func112.trans (congrArg some (by kernel_rfl))
  f329 := Tryd.func113.trans (congrArg some (by kernel_rfl))
  f330 := Tryd.func114.trans (congrArg some (by kernel_rfl))
  f331 := Tryd.func115.trans (congrArg some (by kernel_rfl))
  f332 := Tryd.func116.trans (congrArg some (by kernel_rfl))
  f343 := Tryd.func118.trans (congrArg some (by kernel_rfl))
  t0 := Tryd.underlying0
  a0 := Tryd.isAgg0
  z0 := Tryd.sizeOf0
  v0 := Tryd.zeroValue0
  t3 := Tryd.underlying3
  a3 := Tryd.isAgg3
  z3 := Tryd.sizeOf3
  v3 := Tryd.zeroValue3
  t4 := Tryd.underlying4
  a4 := Tryd.isAgg4
  z4 := Tryd.sizeOf4
  v4 := Tryd.zeroValue4
  t5 := Tryd.underlying5
  a5 := Tryd.isAgg5
  z5 := Tryd.sizeOf5
  v5 := Tryd.zeroValue5
  t9 := Tryd.underlying9
  a9 := Tryd.isAgg9
  z9 := Tryd.sizeOf9
  v9 := Tryd.zeroValue9
  t28 := Tryd.underlying23
  a28 := Tryd.isAgg23
  z28 := Tryd.sizeOf23
  v28 := Tryd.zeroValue23
  t46 := Tryd.underlying124
  a46 := Tryd.isAgg124
  z46 := Tryd.sizeOf124
  v46 := Tryd.zeroValue124
  t51 := Tryd.underlying141
  a51 := Tryd.isAgg141
  z51 := Tryd.sizeOf141
  v51 := Tryd.zeroValue141
  t53 := Tryd.underlying58
  a53 := Tryd.isAgg58
  z53 := Tryd.sizeOf58
  v53 := Tryd.zeroValue58
  t131 := Tryd.underlying81
  a131 := Tryd.isAgg81
  z131 := Tryd.sizeOf81
  v131 := Tryd.zeroValue81
  t182 := Tryd.underlying147
  a182 := Tryd.isAgg147
  z182 := Tryd.sizeOf147
  v182 := Tryd.zeroValue147
  t183 := Tryd.underlying148
  a183 := Tryd.isAgg148
  z183 := Tryd.sizeOf148
  v183 := Tryd.zeroValue148
  t218 := Tryd.underlying155
  a218 := Tryd.isAgg155
  z218 := Tryd.sizeOf155
  v218 := Tryd.zeroValue155
  t222 := Tryd.underlying159
  a222 := Tryd.isAgg159
  z222 := Tryd.sizeOf159
  v222 := Tryd.zeroValue159
  t228 := Tryd.underlying161
  a228 := Tryd.isAgg161
  z228 := Tryd.sizeOf161
  v228 := Tryd.zeroValue161
  t229 := Tryd.underlying122
  a229 := Tryd.isAgg122
  z229 := Tryd.sizeOf122
  v229 := Tryd.zeroValue122 }
open Go.Sort Go.RowKit in
theorem Tryd.slices_Sort_int (blk off cap : Nat) (zs : List Int) (w : World) (hH : Holds (Value.int .i64) w blk off zs.toArray) (hblk : blk < w.heap.size) (hsz : zs.length < 4611686018427387904) :
    Calls Tryd.prog 77 #[.slice (some ⟨blk, off, none⟩) zs.length cap] w fun e w' =>
      e = .returned (.tuple #[]) ∧ ∃ n os, w' = grow (putRow (Value.int .i64) (Sort.ahead w n) blk off (zs.mergeSort fun x y => decide (x ≤ y)).toArray) os := calls_of_every_depth fun D => AnyS.slices_Sort_int_in Tryd.lays189 D blk off cap zs w hH hblk hsz
def Tryd.laysNm220_ren : Go.Shelf.Ren := ⟨fun | 20 => 78 | n => n, fun | 22 => 23 | 3 => 3 | 4 => 4 | 0 => 0 | n => n, fun | n => n⟩
theorem Tryd.laysNm220 : Go.Proofs.Lays2.n20 Tryd.prog Tryd.laysNm220_ren := {
  mixed := by kernel_rfl
  f20 := Tryd.func78.trans (congrArg some (by kernel_rfl))
  t0 := Tryd.underlying0
  a0 := Tryd.isAgg0
  z0 := Tryd.sizeOf0
  v0 := Tryd.zeroValue0
  t3 := Tryd.underlying3
  a3 := Tryd.isAgg3
  z3 := Tryd.sizeOf3
  v3 := Tryd.zeroValue3
  t4 := Tryd.underlying4
  a4 := Tryd.isAgg4
  z4 := Tryd.sizeOf4
  v4 := Tryd.zeroValue4
  t22 := Tryd.underlying23
  a22 := Tryd.isAgg23
  z22 := Tryd.sizeOf23
  v22 := Tryd.zeroValue23
  i3 := by kernel_rfl }
open Go.RowKit Go.Lib Go.Sort in
theorem Tryd.slices_Compact_int (blk off cap : Nat) (zs : List Int) (w : World) (hH : Holds (Value.int .i64) w blk off zs.toArray) (hsz : zs.length ≤ 9223372036854775807) (hcap : zs.length ≤ cap) :
    Calls Tryd.prog 78 #[.slice (some ⟨blk, off, none⟩) zs.length cap] w fun e w' => e = .returned (.slice (some ⟨blk, off, none⟩) (Lib.compact zs).length cap) ∧ ∃ q, w' = putRow (Value.int .i64) (Sort.ahead w q) blk off (Lib.compact zs ++ List.replicate (zs.length - (Lib.compact zs).length) 0).toArray := Any.slices_Compact_int Tryd.laysNm220 blk off cap zs w hH hsz hcap
open Go.RowKit Go.Lib Go.Sort in
theorem Tryd.slices_Compact_int_empty (a : Option Addr) (cap : Nat) (w : World) :
    Calls Tryd.prog 78 #[.slice a 0 cap] w fun e w' => e = .returned (.slice a 0 cap) ∧ w' = w := Any.slices_Compact_int_empty Tryd.laysNm220 a cap w
open Go.RowKit Go.Sort in
theorem Tryd.slices_Sort_int_none (p : Option Addr) (cap : Nat) (w : World) :
    Calls Tryd.prog 77 #[.slice p 0 cap] w fun e w' => e = .returned (.tuple #[]) ∧ w' = w := Any.slices_Sort_int_none Tryd.lays189 p cap w
end Go.Proofs

/- A row that has been sorted or cut. -/
namespace Go.Proofs.YtbndhhjgjalecaaDoor
open Go.RowKit Go.Sort

theorem own_some2 {w : World} {base : Nat} {v : Value} {k : Nat} {F : Nat → Int} (h : Own w base v k F) (hk : 0 < k) : ∃ g cap, v = .slice (some ⟨g, 0, none⟩) k cap ∧ base ≤ g ∧ k ≤ cap ∧ IP w g k F := by
  have h' := h
  obtain ⟨_, h0 | ⟨g, cap, cur, rfl, h2, h3, h4, _⟩⟩ := h
  · omega
  · have hlt : g < w.heap.size := (Array.getElem?_eq_some_iff.1 h3).1
    refine ⟨g, cap, rfl, h2, h4, hlt, fun i hi => ?_, fun j => World.ownsRow.frozenAt h' j⟩
    rw [World.ownsRow.cellAt h' i (by omega)]; exact vL_get hi
theorem gl_get {l : List Int} {j : Nat} (h : j < l.length) : l.toArray[j]! = gl l j := by
  rw [getElem!_pos l.toArray j (by simpa using h)]
  simp [gl, List.getD, h]
theorem ip_holds {w : World} {b : Nat} {l : List Int} (h : IP w b l.length (gl l)) : Holds (Value.int .i64) w b 0 l.toArray := fun j hj => by
  have hj' : j < l.length := by simpa using hj
  refine ⟨?_, h.fz _⟩
  rw [Nat.zero_add, gl_get hj']; exact h.c j hj'
theorem put_ip {w : World} {b : Nat} {l : List Int} (h : IP w b l.length (gl l)) (z : List Int) (hz : z.length = l.length) (q : Nat) (os : Array Obj) :
    IP (grow (putRow (Value.int .i64) (Sort.ahead w q) b 0 z.toArray) os) b l.length (gl z) ∧ Below b w (grow (putRow (Value.int .i64) (Sort.ahead w q) b 0 z.toArray) os) := by
  have hH := holds_putRow (Value.int .i64) (Sort.ahead w q) b 0 l.toArray z.toArray (holds_ahead _ _ _ _ _ _ (ip_holds h)) (by simpa using hz)
  have hb : b < (putRow (Value.int .i64) (Sort.ahead w q) b 0 z.toArray).heap.size := by rw [size_putRow]; exact h.lt
  have hG := holds_grow (Value.int .i64) _ os b 0 z.toArray hb hH
  refine ⟨⟨?_, fun i hi => ?_, fun j => ?_⟩, ⟨rfl, rfl, rfl, ?_, fun k hk => ?_⟩⟩
  · rw [size_grow]; omega
  · have := (hG i (by simpa [hz] using hi)).1
    rw [Nat.zero_add, gl_get (by omega)] at this; exact this
  · rw [frozen?_grow _ _ _ hb, frozen?_putRow]; exact h.fz j
  · rw [size_grow, size_putRow]; exact Nat.le_add_right _ _
  · rw [heap_grow_old _ _ (Nat.lt_trans hk hb)]
    unfold putRow mapBlock
    simp only [Array.getElem?_modify]
    rw [if_neg (by omega)]
    rfl
end Go.Proofs.YtbndhhjgjalecaaDoor

/- Where one may be a tick later, as the program tells it. -/
namespace Go.Proofs.YtbndhhjgjalecaaDoor
open Go.RowKit

set_option maxRecDepth 20000 in
set_option maxHeartbeats 2000000 in
theorem later_any (W : Int) (a : Option Addr) (n c : Nat) (f : Nat → Int) (p : Nat) (w : World) (hf : IL w a n f) (hs : sizedB W n = true) (hp : p < n) (hT : Tab w) :
    Calls Tryd.prog 47 #[gr W (hgt W n) a n c, .int .i64 (p : Int)] w fun e w' => AnsL w w' e (nbL W n f p) ∧ Below w.heap.size w w' := by
  obtain ⟨i0, hi, hzz⟩ := Option.map_eq_some_iff.1 infoI
  simp only [Prod.mk.injEq] at hzz
  obtain ⟨hz0, hz1, hz2⟩ := hzz
  have hE := lf_nbL (f := f) hs hp
  obtain ⟨R, hR⟩ : ∃ R, nbL W n f p = R := ⟨_, rfl⟩
  rw [hR] at hE ⊢
  have HE : Hid (Lib.compact ((lfK W n f p 4).mergeSort fun x y => decide (x ≤ y)) = R) := hE
  clear hE hR
  obtain ⟨H, eH⟩ : ∃ H, hgt W n = H := ⟨_, rfl⟩
  have HH : Hid (hgt W n = H) := eH
  rw [eH]
  clear eH
  have bG := bx_new (w := w) [.int .i64 W, .int .i64 H, .slice a n c] 68 rfl
  have hBG : Below w.heap.size w (w.alloc (.cells #[.int .i64 W, .int .i64 H, .slice a n c] 68)) := (Below.refl _ _).alloc (Nat.le_refl _) _
  have hown := own_lit1 (w.alloc (.cells #[.int .i64 W, .int .i64 H, .slice a n c] 68)) (w.heap.size + 1) (p : Int) (gl (lfK W n f p 0)) rfl (by simp)
  rw [size_al] at hown
  have HO : Hid (Own ((w.alloc (.cells #[.int .i64 W, .int .i64 H, .slice a n c] 68)).alloc (.cells #[.int .i64 (p : Int)] 3)) (w.heap.size + 1) (.slice (some ⟨w.heap.size + 1, 0, none⟩) 1 1) 1 (gl (lfK W n f p 0))) := hown
  have hB0 : Below (w.heap.size + 1) (w.alloc (.cells #[.int .i64 W, .int .i64 H, .slice a n c] 68)) ((w.alloc (.cells #[.int .i64 W, .int .i64 H, .slice a n c] 68)).alloc (.cells #[.int .i64 (p : Int)] 3)) := (Below.refl _ _).alloc (by simp) _
  clear hown
  go_enter Tryd.func47, Tryd.ntmps47
  go_wp2
  generalize w.alloc (.cells #[.int .i64 W, .int .i64 H, .slice a n c] 68) = W1 at *
  go_loopw [5, 9] (fun o i wr => ∃ k : Nat, k ≤ 4 ∧ i = .int .i64 k ∧ Own wr (w.heap.size + 1) o (lfK W n f p k).length (gl (lfK W n f p k)) ∧ Below (w.heap.size + 1) W1 wr) (fun _ i _ => 4 - (intOf i).toNat)
  case atStart => exact ⟨0, Nat.zero_le _, rfl, HO.out, hB0⟩
  case round =>
    obtain ⟨k, hk, rfl, hown, hB⟩ := hrel
    have hlen := lfK_len W n f p k
    have HL : Hid ((lfK W n f p k).length = k + 1) := hlen
    have hlen2 : (lfK W n f p k).length ≤ 5 := by omega
    have hBw : Below w.heap.size w wr := hBG.trans (hB.mono (by omega))
    have hbase : w.heap.size + 1 ≤ wr.heap.size := by have := bG.lt; have := hB.size; omega
    clear HO hB0 hlen
    by_cases hlt : k < 4
    · have bw := bG.below hB (by omega)
      have x0 := bw.c0
      have x1 := bw.c1
      have x2 := bw.c2
      have j1 : (k : Int) < 4 := by omega
      have hfw := hf.below hBw
      have hTw := hT.on hBw
      have hst := step_any W a n c f p k wr hfw hs hlt hp hTw
      have hstep : lfK W n f p (k + 1) = lfK W n f p k ++ [stN W (hgt W n) f k p] := rfl
      rw [HH.out] at hst
      have HS : Hid (lfK W n f p (k + 1) = lfK W n f p k ++ [stN W (hgt W n) f k p]) := hstep
      clear hstep
      rw [HH.out] at HS
      generalize stN W H f k p = z at hst HS
      clear HL
      generalize lfK W n f p k = l at hown hlen2 HS
      obtain ⟨sa, sc, rfl⟩ := hown.shape
      go_wp2_with fail
      refine hst.mono ?_
      rintro e w4 ⟨rfl, hb4⟩
      have hown4 := hown.below hb4
      have hB4 := hB.trans (hb4.mono hbase)
      have hbase4 : w.heap.size + 1 ≤ w4.heap.size := Nat.le_trans hbase hb4.size
      clear hst x0 x1 x2 bw bG hfw hTw hb4 hown hBw hB
      go_wp2_with (at_builtin; refine wpList_append_own _ rfl _ _ 23 rfl (w.heap.size + 1) 3 i0 (.int .i64 0) 1 8 Tryd.underlying23 hi hz0 hz1 hz2 rfl (by decide) _ _ _ rfl (World.ownsRow.alloc hown4 _) ⟨w4.heap.size, 0, none⟩ 1 1 [.int .i64 z] rfl rfl (cell_one_new _ _ _) (fun x hx => by simp at hx; subst hx; rfl) (by unfold maxLen; omega) (by omega) (by simp; omega) ?_; intro v' w3 hown' hgrow3 _)
      have hB3 := (hB4.alloc hbase4 (.cells #[.int .i64 z] 3)).grown hgrow3 (by simp; omega) (fun q hq => (World.ownsRow.lt hown4 q hq).1)
      exact ⟨⟨k + 1, by omega, by go_num, by rw [HS.out]; exact own_snoc hown', hB3⟩, by simp [intOf]; omega⟩
    · have hke : k = 4 := by omega
      subst hke
      clear bG hf hT
      generalize lfK W n f p 4 = l at hown hlen2 HE HL
      obtain ⟨gb, cap, rfl, hgb, hcap, hP⟩ := own_some2 hown (by have := HL.out; omega)
      clear HL
      have hsrt := Tryd.slices_Sort_int gb 0 cap l wr (ip_holds hP) hP.lt (by omega)
      have hsl : (l.mergeSort fun x y => decide (x ≤ y)).length = l.length := List.length_mergeSort l
      generalize (l.mergeSort fun x y => decide (x ≤ y)) = s at hsrt hsl HE
      have HSL : Hid (s.length = l.length) := hsl
      clear hown hsl
      go_wp2_with fail
      refine hsrt.mono ?_
      rintro e w5 ⟨rfl, nq, os, hw5⟩
      have hsl := HSL.out
      have hPB := put_ip hP s hsl nq os
      rw [← hw5] at hPB
      obtain ⟨hP5, hB5⟩ := hPB
      clear hw5 hsrt
      have hP5' : IP w5 gb s.length (gl s) := by rw [hsl]; exact hP5
      have hcm := Tryd.slices_Compact_int gb 0 cap s w5 (ip_holds hP5') (by omega) (by omega)
      have hcl : (Lib.compact s).length ≤ s.length := by unfold Lib.compact Lib.compactUpTo; rw [List.length_map]; exact Nat.le_trans (List.length_filter_le _ _) (by simp)
      rw [HE.out] at hcm hcl
      clear HE
      rw [hsl] at hcm
      clear hsl
      go_wp2_with fail
      refine hcm.mono ?_
      rintro e w6 ⟨rfl, nr, hw6⟩
      have hsl := HSL.out
      have hPC := put_ip hP5' (R ++ List.replicate (s.length - R.length) 0) (by simp; omega) nr #[]
      rw [Go.Sort.grow_empty, hsl, ← hw6] at hPC
      obtain ⟨hP6, hB6⟩ := hPC
      clear hw6 hcm
      have hP7 : IP w6 gb R.length (gl R) := ⟨hP6.lt, fun i hi => by
        rw [hP6.c i (by omega)]
        simp [gl, List.getD, List.getElem?_append, hi], hP6.fz⟩
      have hBz : Below w.heap.size w w6 := hBw.trans ((hB5.mono (by omega)).trans (hB6.mono (by omega)))
      clear hsl HSL hcl
      go_wp2
      go_ret
      exact ⟨⟨some ⟨gb, 0, none⟩, cap, rfl, lq_of hP7 (by omega) hP7.lt⟩, hBz⟩
end Go.Proofs.YtbndhhjgjalecaaDoor
