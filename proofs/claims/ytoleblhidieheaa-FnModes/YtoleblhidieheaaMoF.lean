/- The failed parts as the program keeps them: a row of texts of a call's own, with room. -/
import Derived.Test.YtoleblhidieheaaMoS
import Derived.Test.YtoleblhidieheaaMoShelf
import Derived.Lib.LazyBuf
import Derived.Lib.RowBridge
namespace Go.Proofs.Ytoleblhidieheaa
open Go.RowKit
/-- the texts l lie in a row of room c, in a block from lo on -/
def Fl (w : World) (lo : Nat) (a : Option Addr) (c : Nat) (l : List ByteArray) : Prop :=
  l.length ≤ c ∧ c ≤ maxLen ∧ ((a = none ∧ c = 0) ∨ ∃ b F, a = some ⟨b, 0, none⟩ ∧ lo ≤ b ∧ w.rowIs b 9 c F ∧ (∀ i, i < c → ∃ s, F i = .string s) ∧ ∀ i, i < l.length → F i = .string (lg l i))
theorem fl_nil (w : World) (lo : Nat) : Fl w lo none 0 [] := ⟨Nat.le_refl _, Nat.zero_le _, .inl ⟨rfl, rfl⟩⟩
theorem Fl.on {w w' : World} {lo : Nat} {a : Option Addr} {c : Nat} {l : List ByteArray} (h : Fl w lo a c l) (k : Below w.heap.size w w') : Fl w' lo a c l := by
  obtain ⟨h1, h2, h3 | ⟨b, F, ha, hb, hr, hs, hc⟩⟩ := h
  · exact ⟨h1, h2, .inl h3⟩
  · exact ⟨h1, h2, .inr ⟨b, F, ha, hb, rowIs_below hr k hr.lt, hs, hc⟩⟩
theorem Fl.set {w : World} {lo : Nat} {a : Option Addr} {c : Nat} {l : List ByteArray} (h : Fl w lo a c l) {b k : Nat} (hb : b < lo) (v : Value) : Fl (w.setCell ⟨b, k, none⟩ v) lo a c l := by
  obtain ⟨h1, h2, h3 | ⟨g, F, ha, hg, hr, hs, hc⟩⟩ := h
  · exact ⟨h1, h2, .inl h3⟩
  · exact ⟨h1, h2, .inr ⟨g, F, ha, hg, hr.setOther (by show g ≠ b; omega) v, hs, hc⟩⟩
theorem Fl.sl {w : World} {lo : Nat} {a : Option Addr} {c : Nat} {l : List ByteArray} (h : Fl w lo a c l) : SL w a l.length (lg l) := fun h0 => by
  obtain ⟨h1, h2, ⟨_, h3⟩ | ⟨b, F, ha, hb, hr, hs, hc⟩⟩ := h
  · omega
  · exact ⟨b, 0, ha, hr.lt, fun i hi => by rw [Nat.zero_add, hr.cell (by omega), hc i hi]⟩
theorem Fl.ows {w : World} {lo : Nat} {a : Option Addr} {c : Nat} {l : List ByteArray} (h : Fl w lo a c l) : OwS w lo (.slice a l.length c) l := by
  obtain ⟨h1, h2, ⟨rfl, rfl⟩ | ⟨b, F, rfl, hb, hr, hs, hc⟩⟩ := h
  · have : l = [] := List.length_eq_zero_iff.1 (by omega)
    subst this
    exact ows_nil _ _
  · obtain ⟨cur, hg, hsz, hcell⟩ := hr
    refine ⟨by simp, .inr ⟨b, c, cur, rfl, hb, hg, h1, h2, by omega, ?_⟩⟩
    rw [Nat.mul_one]
    apply List.ext_getElem?
    intro i
    by_cases hi : i < l.length
    · rw [List.getElem?_take_of_lt hi, ← Array.getElem?_toList.symm.trans rfl]
      rw [Array.getElem?_toList, hcell i (by omega), hc i hi]
      simp [lg, hi]
    · rw [List.getElem?_eq_none (by simp; omega), List.getElem?_eq_none (by simp; omega)]
/-- a search in a rising row -/
theorem bin_any (lo : Nat) (a : Option Addr) (c : Nat) (l : List ByteArray) (p : ByteArray) (w : World) (hl : l.length ≤ 1000) (hs : Srt l) (h : Fl w lo a c l) :
    Calls Try.prog 45 #[.slice a l.length c, .string p] w fun e w' => e = .returned (.tuple #[.int .i64 (plc p l : Nat), .bool (inL l p)]) ∧ ∃ q, w' = w.drewN q := by
  by_cases h0 : l = []
  · subst h0
    exact (Any2.slices_BinarySearch_string_empty Try.bin26 a c p w).mono fun e w' ⟨h1, h2⟩ => ⟨by rw [h1]; rfl, 0, by rw [h2]; rfl⟩
  · have hp : 0 < l.length := List.length_pos_iff.2 h0
    obtain ⟨b, off, rfl, hb, hc⟩ := h.sl hp
    have k := Any2.slices_BinarySearch_string Try.bin26 b off l.length c (fun t => l.getD t p) p w (by omega) (fun j hj => by rw [hc j hj]; simp [lg, hj])
    rw [bs_plc hs] at k
    refine k.mono fun e w' ⟨h1, h2⟩ => ⟨?_, h2⟩
    rw [h1]
    have e1 : decide (plc p l < l.length ∧ l.getD (plc p l) p = p) = inL l p := by
      rw [Bool.eq_iff_iff, decide_eq_true_iff, inL_iff]; exact plc_mem hs
    rw [e1]
end Go.Proofs.Ytoleblhidieheaa
