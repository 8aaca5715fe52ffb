/- What FnWin draws: choices. -/
import Derived.Test.YtapodfkoknmhdaaDoorQWhM
import Derived.Test.YtapodfkoknmhdaaDoorQCurNew
import Derived.Test.YtapodfkoknmhdaaDoorQWhDrZ
import Derived.Test.YtapodfkoknmhdaaDoorQWhDrD
import Derived.Test.YtapodfkoknmhdaaDoorQInCore
import Derived.ProofKit
import Derived.OpenShut
import Derived.ChangeOld
import Derived.Below
import Derived.Deep.Slices
namespace Go.Proofs.YtapodfkoknmhdaaDoor
open Go.RowKit
set_option maxRecDepth 20000 in
set_option maxHeartbeats 4000000 in
theorem choices_any (a : Option Addr) (len cap : Nat) (w : World) (hl : len ≤ 1048576) (hb : 0 < len → ∃ b off, a = some ⟨b, off, none⟩ ∧ b < w.heap.size ∧ ∀ i, i < len → ∃ v : Int, w.cell? ⟨b, off + i, none⟩ = some (.int .u8 v) ∧ 0 ≤ v ∧ v ≤ 255) :
    Calls Tryd.prog 20 #[.slice a len cap, .int .i64 20] w fun e w' => ∃ (x : Option Addr) (c : Nat) (th : Nat → Int), e = .returned (.slice x 20 c) ∧ (∀ i, i < 20 → 0 ≤ th i) ∧ IL w' x 20 th ∧ Below w.heap.size w w' := by
  obtain ⟨i0, hi, hzz⟩ := Option.map_eq_some_iff.1 infoI
  simp only [Prod.mk.injEq] at hzz
  obtain ⟨hz0, hz1, hz2⟩ := hzz
  have hc0 := cur_new w a len cap hl hb
  have hB0 : Below w.heap.size w (w.alloc (.cells #[.slice a len cap, .int .i64 0, .int .u64 0] 70)) := (Below.refl _ _).alloc (Nat.le_refl _) _
  have hs0 : (w.alloc (.cells #[.slice a len cap, .int .i64 0, .int .u64 0] 70)).heap.size = w.heap.size + 1 := by simp
  clear hb
  go_enter Tryd.func20, Tryd.ntmps20
  go_wp2_with fail
  generalize w.alloc (.cells #[.slice a len cap, .int .i64 0, .int .u64 0] 70) = W at *
  have hE0 : Es W W w.heap.size a len cap 0 (.slice none 0 0) 0 (fun _ => 0) := ⟨hc0, World.ownsRow_nil _ _ _ _, turns_of (Below.refl _ _)⟩
  have hC : w.heap.size < W.heap.size := by omega
  go_loopw [6] (fun v wr => ∃ (k n' : Nat) (F : Nat → Int), k ≤ 20 ∧ (∃ xa xc, v = .slice xa k xc) ∧ n' ≤ 2 * k ∧ Hid (∀ i, i < k → 0 ≤ F i) ∧ Hid (Es W wr w.heap.size a len cap n' v k F)) (fun v _ => 20 - lenV v)
  case atStart => exact ⟨0, 0, _, Nat.zero_le _, ⟨_, _, rfl⟩, Nat.zero_le _, fun i hi => absurd hi (Nat.not_lt_zero _), hE0⟩
  case round =>
    clear hE0 hc0
    obtain ⟨k, n5, F, hk, ⟨xa, xc, rfl⟩, hn5, HF, HE⟩ := hrel
    by_cases hlt : k < 20
    · have j1 : (k : Int) < 20 := by omega
      go_wp2_with fail
      refine (pick_any w.heap.size a len cap n5 14 _ HE.out.cur (by omega)).mono ?_
      rintro e w6 ⟨p6, n6, rfl, h60, h61, -, hn6, hc6, hO6⟩
      have HE6 : Hid (Es W w6 w.heap.size a len cap n6 _ k F) := HE.out.step hc6 hO6 hC
      have hs6 := HE6.out.t.size
      clear HE hO6 h61 hc6
      go_wp2_with (at_builtin; refine wpList_append_own _ rfl _ _ 41 rfl W.heap.size 3 i0 (.int .i64 0) 1 8 Tryd.underlying41 hi hz0 hz1 hz2 rfl (by decide) _ _ _ rfl (World.ownsRow.alloc HE6.out.own _) ⟨w6.heap.size, 0, none⟩ 1 1 [.int .i64 p6] rfl rfl (cell_one_new _ _ _) (fun x hx => by simp at hx; subst hx; rfl) (by unfold maxLen; omega) (by omega) (by simp; omega) ?_; intro v' w8 hown' hgrow8 _)
      have HE8 : Hid (Es W w8 w.heap.size a len cap n6 v' (k + 1) (put F k p6)) := HE6.out.app hown' hgrow8 hC
      have HF8 : Hid (∀ i, i < k + 1 → 0 ≤ put F k p6 i) := fun i hi => by
        unfold put
        split
        · exact h60
        · exact HF.out i (by omega)
      obtain ⟨ya, yc, hv⟩ := HE8.out.own.shape
      subst hv
      exact ⟨⟨k + 1, n6, _, by omega, ⟨_, _, rfl⟩, by omega, HF8, HE8⟩, by simp [lenV]; omega⟩
    · have e20 : k = 20 := by omega
      subst e20
      have HL : Hid (IL wr xa 20 F) := HE.out.own.il
      have hBw : Below w.heap.size w wr := hB0.trans (HE.out.t.below (B := w.heap.size) (Nat.le_refl _) (by omega))
      clear HE
      go_wp2
      go_ret
      exact ⟨xa, xc, F, rfl, HF.out, HL.out, hBw⟩
end Go.Proofs.YtapodfkoknmhdaaDoor

/- The law on plans that win, at every argument. -/
namespace Go.Proofs.YtapodfkoknmhdaaDoor
open Go.RowKit
theorem by_below {w w2 : World} {a : Option Addr} {len : Nat} (hB : Below w.heap.size w w2) (hb : 0 < len → ∃ b off, a = some ⟨b, off, none⟩ ∧ b < w.heap.size ∧ ∀ i, i < len → ∃ v : Int, w.cell? ⟨b, off + i, none⟩ = some (.int .u8 v) ∧ 0 ≤ v ∧ v ≤ 255) :
    0 < len → ∃ b off, a = some ⟨b, off, none⟩ ∧ b < w2.heap.size ∧ ∀ i, i < len → ∃ v : Int, w2.cell? ⟨b, off + i, none⟩ = some (.int .u8 v) ∧ 0 ≤ v ∧ v ≤ 255 := fun h0 => by
  obtain ⟨b, off, ha, hbw, hc⟩ := hb h0
  refine ⟨b, off, ha, Nat.lt_of_lt_of_le hbw hB.size, fun i hi => ?_⟩
  obtain ⟨v, hv, hv1⟩ := hc i hi
  exact ⟨v, (hB.cell (p := ⟨b, _, none⟩) hbw).trans hv, hv1⟩
set_option maxHeartbeats 400000 in
theorem win_long1 (A : Option Addr) (len cap : Nat) (A2 : Option Addr) (len2 cap2 : Nat) (w : World) (h : 1048576 < len) :
    Calls Tryd.prog 4 #[.slice A len cap, .slice A2 len2 cap2] w fun e w' => e = .returned (.bool true) ∧ Below w.heap.size w w' := by
  have j : (1048576 : Int) < (len : Int) := by omega
  go_enter Tryd.func4, Tryd.ntmps4
  go_wp2
  go_ret
  exact ⟨rfl, Below.refl _ _⟩
set_option maxHeartbeats 400000 in
theorem win_long2 (A : Option Addr) (len cap : Nat) (A2 : Option Addr) (len2 cap2 : Nat) (w : World) (h1 : len ≤ 1048576) (h : 1048576 < len2) :
    Calls Tryd.prog 4 #[.slice A len cap, .slice A2 len2 cap2] w fun e w' => e = .returned (.bool true) ∧ Below w.heap.size w w' := by
  have j1 : ¬ (1048576 : Int) < (len : Int) := by omega
  have j : (1048576 : Int) < (len2 : Int) := by omega
  go_enter Tryd.func4, Tryd.ntmps4
  go_wp2
  go_ret
  exact ⟨rfl, Below.refl _ _⟩
theorem winAll (A : Option Addr) (len cap : Nat) (A2 : Option Addr) (len2 cap2 : Nat) (w : World) (hU : U8 w)
    (hb : 0 < len → ∃ b off, A = some ⟨b, off, none⟩ ∧ b < w.heap.size ∧ ∀ i, i < len → ∃ v : Int, w.cell? ⟨b, off + i, none⟩ = some (.int .u8 v) ∧ 0 ≤ v ∧ v ≤ 255)
    (hb2 : 0 < len2 → ∃ b off, A2 = some ⟨b, off, none⟩ ∧ b < w.heap.size ∧ ∀ i, i < len2 → ∃ v : Int, w.cell? ⟨b, off + i, none⟩ = some (.int .u8 v) ∧ 0 ≤ v ∧ v ≤ 255) :
    Calls Tryd.prog 4 #[.slice A len cap, .slice A2 len2 cap2] w fun e w' => e = .returned (.bool true) ∧ Below w.heap.size w w' := by
  by_cases h1 : len ≤ 1048576
  · by_cases h2 : len2 ≤ 1048576
    · exact winFn A len cap A2 len2 cap2 w h1 h2 hU (drawStr A len cap w (fun w2 hB => drawWin A len cap w2 h1 (by_below hB hb) (fun C n w3 hc hn => board_any C A len cap n w3 hc hn))) (fun w2 hB => choices_any A2 len2 cap2 w2 h2 (by_below hB hb2))
    · exact win_long2 A len cap A2 len2 cap2 w h1 (by omega)
  · exact win_long1 A len cap A2 len2 cap2 w (by omega)
end Go.Proofs.YtapodfkoknmhdaaDoor

/- How a slice of bytes that came in is opened. -/
namespace Go.Proofs.YtapodfkoknmhdaaDoor
open Go.ChangeShapes Go.WideShapes Go.ChangeAt Go.RowKit Go.Deep

section
variable {H : Type} {enc : TypeId × Value → H} {P : Program} {w : World} {base : Nat} {held : Bool}

/-- the bytes of a slice -/
abbrev BL (w : World) (a : Option Addr) (len : Nat) : Prop := 0 < len → ∃ b off, a = some ⟨b, off, none⟩ ∧ b < w.heap.size ∧ ∀ i, i < len → ∃ v : Int, w.cell? ⟨b, off + i, none⟩ = some (.int .u8 v) ∧ 0 ≤ v ∧ v ≤ 255
theorem wf_u8 {n : Int} (h : (Lit.int .u8 n).wf = true) : 0 ≤ n ∧ n ≤ 255 := by
  have e0 : IntKind.u8.min = 0 := by decide
  have e1 : IntKind.u8.max = 255 := by decide
  simp only [Lit.wf, e0, e1, Bool.and_eq_true, decide_eq_true_eq] at h
  exact h
/-- a slice of bytes, opened -/
theorem open_bl {t e : TypeId} {fuel : Nat} {cs : List Value} {x : DataW H × List MemPlace} (ht : P.underlying t = some (.slice e)) (he : P.underlying e = some (.int .u8)) (hc : P.cellsOf e = 1)
    (h : DataW.trod enc P w base (fun _ => true) held fuel t cs = some x) :
    ∃ (a : Option Addr) (len cap : Nat), cs = [.slice a len cap] ∧ len ≤ 9223372036854775807 ∧ BL w a len := by
  rcases open_slice1 ht hc h with ⟨hcs, _⟩ | ⟨a, len, cap, m, n, V, D, Pl, hcs, _, hl, hm, hmm, _, hV⟩
  · exact ⟨none, 0, 0, hcs, by decide, fun h0 => absurd h0 (Nat.lt_irrefl _)⟩
  · simp only [if_true] at hmm
    subst hmm
    refine ⟨some a, len, m, hcs, by unfold maxLen at hm; omega, fun h0 => ?_⟩
    obtain ⟨b, off, spot⟩ := a
    have hc0 := (hV 0 (by omega)).1
    have hspot : spot = none := by simpa [Addr.add] using World.cell?_spot hc0
    subst hspot
    refine ⟨b, off, rfl, ?_, fun i hi => ?_⟩
    · have := hc0
      rw [show (⟨b, off, none⟩ : Addr).add 0 = ⟨b, off, none⟩ from rfl] at this
      exact World.block_lt_of_cell? _ _ this
    · obtain ⟨v, hv, _, hw⟩ := DataW.trod_int he (hV i (by omega)).2
      simp only [List.cons.injEq, and_true] at hv
      refine ⟨v, ?_, wf_u8 hw⟩
      rw [← hv, ← (hV i (by omega)).1]
      unfold Addr.add
      by_cases e : i = 0
      · subst e; rfl
      · simp [e]
end
end Go.Proofs.YtapodfkoknmhdaaDoor
