/- A frame and bits that are drawn, told. -/
import Derived.Test.YtplpggcbpcebcaaDoorFdF
import Derived.Test.YtplpggcbpcebcaaDoorFdW
namespace Go.Proofs.YtplpggcbpcebcaaDoor
open Go.RowKit
def AnsG (w : World) (e : Ending) (w' : World) : Prop := ∃ (W : Int) (x : Option Addr) (n c : Nat) (f : Nat → Int), e = .returned (frv W x n c) ∧ n ≤ 9 ∧ (∃ hi, VQ w' (w.heap.size + 1) hi x n (fun i => .int .u8 (f i))) ∧ (∀ i, i < n → 0 ≤ f i ∧ f i ≤ 255) ∧ Below w.heap.size w w'
set_option maxHeartbeats 2000000 in
theorem drawGF (a : Option Addr) (len cap : Nat) (w : World) (hl : len ≤ 1048576) (hb : 0 < len → ∃ b off, a = some ⟨b, off, none⟩ ∧ b < w.heap.size ∧ ∀ i, i < len → ∃ v : Int, w.cell? ⟨b, off + i, none⟩ = some (.int .u8 v) ∧ 0 ≤ v ∧ v ≤ 255) :
    Calls Tryd.prog 22 #[.slice a len cap] w fun e w' => AnsG w e w' := by
  have hx0 : Below w.heap.size w (w.alloc (frvO 0 none 0 0 24)) := (Below.refl _ _).alloc (Nat.le_refl _) _
  have z0 := bx_new (w := w) (frvL 0 none 0 0) 24 rfl
  have hs0 : (w.alloc (frvO 0 none 0 0 24)).heap.size = w.heap.size + 1 := size_al _ _
  have hb0 : 0 < len → ∃ b off, a = some ⟨b, off, none⟩ ∧ b < (w.alloc (frvO 0 none 0 0 24)).heap.size ∧ ∀ i, i < len → ∃ v : Int, (w.alloc (frvO 0 none 0 0 24)).cell? ⟨b, off + i, none⟩ = some (.int .u8 v) ∧ 0 ≤ v ∧ v ≤ 255 := fun h0 => by
    obtain ⟨b, off, e, hlt, hc⟩ := hb h0
    refine ⟨b, off, e, by omega, fun i hi => ?_⟩
    obtain ⟨v, hv, hv1⟩ := hc i hi
    exact ⟨v, (hx0.cell (p := ⟨b, _, none⟩) hlt).trans hv, hv1⟩
  have hcur := cur_new (w.alloc (frvO 0 none 0 0 24)) a len cap hl hb0
  generalize hw0 : w.alloc (frvO 0 none 0 0 24) = w0 at *
  have hx1 : Below w0.heap.size w0 (w0.alloc (.cells #[.slice a len cap, .int .i64 0, .int .u64 0] 57)) := (Below.refl _ _).alloc (Nat.le_refl _) _
  have kF := frameD w0.heap.size a len cap _ hcur
  have z1 := z0.on hx1
  have hB1 := stepA hx0 hx1
  have hs1 : (w0.alloc (.cells #[.slice a len cap, .int .i64 0, .int .u64 0] 57)).heap.size = w0.heap.size + 1 := size_al _ _
  clear hb hb0 hcur z0 hx0 hx1
  go_enter Tryd.func22, Tryd.ntmps22
  go_wp2_with fail
  rw [hs0] at kF
  refine kF.mono ?_
  rintro e w2 ⟨W, x, n, c, f, rfl, hn, ⟨hi, hy⟩, hbd, hT⟩
  have z2 := z1.turns hT (.inl (by omega))
  have hB2 : Below w.heap.size w w2 := hB1.trans (hT.below (by omega) (by omega))
  clear kF z1 hB1 hT
  have v0 := z2.c0
  have v1 := z2.c1
  have f0 := z2.fz 0
  have f1 := z2.fz 1
  have l0 := z2.lt
  have rE := (z2.set 0 (by simp) (.int .i64 W)).set 1 (by simp) (.slice x n c)
  have hBE := (hB2.setCell (p := ⟨w.heap.size, 0, none⟩) (by simp) (.int .i64 W)).setCell (p := ⟨w.heap.size, 1, none⟩) (by simp) (.slice x n c)
  have hQE := (vq_set (vq_set hy (b := w.heap.size) (k := 0) (.int .i64 W) (.inl (by omega))) (b := w.heap.size) (k := 1) (.slice x n c) (.inl (by omega))).wide (lo' := w.heap.size + 1) (hi' := hi) (by omega) (Nat.le_refl _)
  go_wp2
  refine ret_frv Tryd.results22 rfl rE.c0 rE.c1 rfl ?_
  exact ⟨W, x, n, c, f, rfl, hn, ⟨hi, hQE⟩, hbd, hBE⟩
set_option maxHeartbeats 2000000 in
theorem drawFB (a : Option Addr) (len cap : Nat) (w : World) (hl : len ≤ 1048576) (hb : 0 < len → ∃ b off, a = some ⟨b, off, none⟩ ∧ b < w.heap.size ∧ ∀ i, i < len → ∃ v : Int, w.cell? ⟨b, off + i, none⟩ = some (.int .u8 v) ∧ 0 ≤ v ∧ v ≤ 255) :
    Calls Tryd.prog 6 #[.slice a len cap] w fun e w' => AnsG w e w' := by
  have hx0 : Below w.heap.size w (w.alloc (frvO 0 none 0 0 24)) := (Below.refl _ _).alloc (Nat.le_refl _) _
  have z0 := bx_new (w := w) (frvL 0 none 0 0) 24 rfl
  have hs0 : (w.alloc (frvO 0 none 0 0 24)).heap.size = w.heap.size + 1 := size_al _ _
  have hb0 : 0 < len → ∃ b off, a = some ⟨b, off, none⟩ ∧ b < (w.alloc (frvO 0 none 0 0 24)).heap.size ∧ ∀ i, i < len → ∃ v : Int, (w.alloc (frvO 0 none 0 0 24)).cell? ⟨b, off + i, none⟩ = some (.int .u8 v) ∧ 0 ≤ v ∧ v ≤ 255 := fun h0 => by
    obtain ⟨b, off, e, hlt, hc⟩ := hb h0
    refine ⟨b, off, e, by omega, fun i hi => ?_⟩
    obtain ⟨v, hv, hv1⟩ := hc i hi
    exact ⟨v, (hx0.cell (p := ⟨b, _, none⟩) hlt).trans hv, hv1⟩
  have kF := drawGF a len cap _ hl hb0
  clear hb hb0
  go_enter Tryd.func6, Tryd.ntmps6
  go_wp2_with fail
  refine kF.mono ?_
  rintro e w2 ⟨W, x, n, c, f, rfl, hn, ⟨hi, hy⟩, hbd, hb2⟩
  have z2 := z0.on hb2
  have hB2 := stepA hx0 hb2
  rw [hs0] at hy
  clear kF z0 hx0 hb2
  have v0 := z2.c0
  have v1 := z2.c1
  have f0 := z2.fz 0
  have f1 := z2.fz 1
  have l0 := z2.lt
  have rE := (z2.set 0 (by simp) (.int .i64 W)).set 1 (by simp) (.slice x n c)
  have hBE := (hB2.setCell (p := ⟨w.heap.size, 0, none⟩) (by simp) (.int .i64 W)).setCell (p := ⟨w.heap.size, 1, none⟩) (by simp) (.slice x n c)
  have hQE := (vq_set (vq_set hy (b := w.heap.size) (k := 0) (.int .i64 W) (.inl (by omega))) (b := w.heap.size) (k := 1) (.slice x n c) (.inl (by omega))).wide (lo' := w.heap.size + 1) (hi' := hi) (by omega) (Nat.le_refl _)
  go_wp2
  refine ret_frv Tryd.results6 rfl rE.c0 rE.c1 rfl ?_
  exact ⟨W, x, n, c, f, rfl, hn, ⟨hi, hQE⟩, hbd, hBE⟩
set_option maxHeartbeats 2000000 in
theorem drawCB (a : Option Addr) (len cap : Nat) (w : World) (hl : len ≤ 1048576) (hb : 0 < len → ∃ b off, a = some ⟨b, off, none⟩ ∧ b < w.heap.size ∧ ∀ i, i < len → ∃ v : Int, w.cell? ⟨b, off + i, none⟩ = some (.int .u8 v) ∧ 0 ≤ v ∧ v ≤ 255) :
    Calls Tryd.prog 32 #[.slice a len cap] w fun e w' => ∃ T : ByteArray, e = .returned (.string T) ∧ T.size ≤ 1000 ∧ Below w.heap.size w w' := by
  have hcur := cur_new w a len cap hl hb
  have hx1 : Below w.heap.size w (w.alloc (.cells #[.slice a len cap, .int .i64 0, .int .u64 0] 57)) := (Below.refl _ _).alloc (Nat.le_refl _) _
  have kF := bitD w.heap.size a len cap _ hcur
  have hs1 : (w.alloc (.cells #[.slice a len cap, .int .i64 0, .int .u64 0] 57)).heap.size = w.heap.size + 1 := size_al _ _
  clear hb hcur
  go_enter Tryd.func32, Tryd.ntmps32
  go_wp2_with fail
  refine kF.mono ?_
  rintro e w2 ⟨T, rfl, hT, hT2⟩
  have hB2 : Below w.heap.size w w2 := hx1.trans (hT2.below (Nat.le_refl _) (by omega))
  clear kF
  go_wp2
  go_ret
  exact ⟨T, rfl, hT, hB2⟩
set_option maxHeartbeats 2000000 in
theorem drawSB (a : Option Addr) (len cap : Nat) (w : World) (hl : len ≤ 1048576) (hb : 0 < len → ∃ b off, a = some ⟨b, off, none⟩ ∧ b < w.heap.size ∧ ∀ i, i < len → ∃ v : Int, w.cell? ⟨b, off + i, none⟩ = some (.int .u8 v) ∧ 0 ≤ v ∧ v ≤ 255) :
    Calls Tryd.prog 12 #[.slice a len cap] w fun e w' => ∃ T : ByteArray, e = .returned (.string T) ∧ T.size ≤ 1000 ∧ Below w.heap.size w w' := by
  have kF := drawCB a len cap w hl hb
  clear hb
  go_enter Tryd.func12, Tryd.ntmps12
  go_wp2_with fail
  refine kF.mono ?_
  rintro e w2 ⟨T, rfl, hT, hB2⟩
  clear kF
  go_wp2
  go_ret
  exact ⟨T, rfl, hT, hB2⟩
end Go.Proofs.YtplpggcbpcebcaaDoor
