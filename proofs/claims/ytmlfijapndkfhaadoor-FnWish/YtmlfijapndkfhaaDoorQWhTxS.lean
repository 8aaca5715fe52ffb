/- A new cursor. -/
import Derived.Test.YtmlfijapndkfhaaDoorQCur
import Derived.Test.YtmlfijapndkfhaaDoorQWhWtM
namespace Go.Proofs.YtmlfijapndkfhaaDoor
open Go.RowKit

theorem cur_new (w : World) (a : Option Addr) (len cap : Nat) (hl : len ≤ 1048576) (hb : 0 < len → ∃ b off, a = some ⟨b, off, none⟩ ∧ b < w.heap.size ∧ ∀ i, i < len → ∃ v : Int, w.cell? ⟨b, off + i, none⟩ = some (.int .u8 v) ∧ 0 ≤ v ∧ v ≤ 255) :
    Cur (w.alloc (.cells #[.slice a len cap, .int .i64 0, .int .u64 0] 41)) w.heap.size a len cap 0 := by
  have hB : Below w.heap.size w (w.alloc (.cells #[.slice a len cap, .int .i64 0, .int .u64 0] 41)) := (Below.refl _ _).alloc (Nat.le_refl _) _
  refine ⟨by simp, by simp [go_sem], by simp [go_sem], ⟨0, by simp [go_sem], by omega, by omega⟩, by simp [go_sem], by simp [go_sem], fun h0 => ?_, hl⟩
  obtain ⟨b, off, ha, hbw, hc⟩ := hb h0
  refine ⟨b, off, ha, hbw, fun i hi => ?_⟩
  obtain ⟨v, hv, hv1⟩ := hc i hi
  exact ⟨v, (hB.cell (p := ⟨b, _, none⟩) hbw).trans hv, hv1⟩
end Go.Proofs.YtmlfijapndkfhaaDoor

/- How long a wish's text can be. -/
namespace Go.Proofs.YtmlfijapndkfhaaDoor
theorem gapB_size (o : ByteArray) : (gapB o).size ≤ o.size + 1 := by
  unfold gapB
  split
  · omega
  · rw [ByteArray.size_append]; exact Nat.le_refl _
theorem prtO_size {wd : ByteArray} {f : Nat → ByteArray} {n : Nat} {o : ByteArray} (hw : wd.size = 5) (h : ∀ i, i < n → (f i).size ≤ 1048576) : (prtO wd f n o).size ≤ o.size + 6 + n * 1048577 := by
  unfold prtO
  split
  · omega
  · have h1 := wtB_size (f := f) (o := gapB o ++ wd) n h
    have h2 := gapB_size o
    rw [ByteArray.size_append, hw] at h1
    omega
theorem txt_size (rn : Nat) (re : Nat → ByteArray) (an : Nat) (av : Nat → ByteArray) (hr : rn ≤ 6) (ha : an ≤ 6) (hre : ∀ i, i < rn → (re i).size ≤ 1048576) (hav : ∀ i, i < an → (av i).size ≤ 1048576) : (txtB rn re an av).size ≤ 16777216 := by
  unfold txtB
  have h1 := prtO_size (wd := wdR) (o := ⟨#[]⟩) rfl hre
  have h2 := prtO_size (wd := wdA) (o := prtO wdR re rn ⟨#[]⟩) rfl hav
  have h3 : (⟨#[]⟩ : ByteArray).size = 0 := rfl
  omega
theorem prtL_len (wd : ByteArray) (f : Nat → ByteArray) {n : Nat} (h : n ≤ 6) : (prtL wd f n).length ≤ 7 := by
  unfold prtL
  split
  · exact Nat.zero_le _
  · simp; omega
end Go.Proofs.YtmlfijapndkfhaaDoor
