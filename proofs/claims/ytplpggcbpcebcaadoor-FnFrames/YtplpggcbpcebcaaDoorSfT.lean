/- The program's look at bits, and how many alike stand at their end. -/
import Derived.Test.YtplpggcbpcebcaaDoorSfB
import Derived.Test.YtplpggcbpcebcaaDoorTmShelf
namespace Go.Proofs.YtplpggcbpcebcaaDoor
open Go.RowKit
theorem toList_empty (l : List UInt8) : (⟨l.toArray⟩ : ByteArray).toList.isEmpty = l.isEmpty := by
  rw [Lib.toList_data]
set_option maxHeartbeats 2000000 in
theorem iBits (s : ByteArray) (w : World) (hs : s.size ≤ 1048576) :
    Calls Tryd.prog 33 #[.string s] w fun e w' => e = .returned (.bool (bitB s)) ∧ Below w.heap.size w w' := by
  unfold bitB
  by_cases h3 : s.size ≤ 300
  · have j : (s.size : Int) ≤ 300 := by omega
    rw [decide_eq_true h3, Bool.true_and]
    have k := fun w2 => trim_any s ⟨#[48, 49]⟩ w2 hs (by decide) (by decide)
    have he : (⟨(Lib.trimS s.data.toList (⟨#[48, 49]⟩ : ByteArray).data.toList).toArray⟩ : ByteArray).toList.isEmpty = btsB (bt s) s.size := by
      rw [toList_empty]; exact trim_bits s
    generalize (⟨(Lib.trimS s.data.toList (⟨#[48, 49]⟩ : ByteArray).data.toList).toArray⟩ : ByteArray) = T at *
    generalize btsB (bt s) s.size = B at *
    go_enter Tryd.func33, Tryd.ntmps33
    go_wp2_with fail
    refine (k _).mono ?_
    rintro e w2 ⟨rfl, hb2⟩
    clear k
    go_wp2
    go_ret
    exact ⟨rfl, hb2⟩
  · have j : decide ((s.size : Int) ≤ 300) = false := decide_eq_false (by omega)
    rw [decide_eq_false h3, Bool.false_and]
    go_enter Tryd.func33, Tryd.ntmps33
    go_wp2
    go_ret
    exact ⟨rfl, Below.refl _ _⟩
/-- the run of bits alike in its block -/
def Rn (w : World) (R : Nat) (l r : Int) : Prop := Bx w R [.int .u8 l, .int .i64 r]
set_option maxHeartbeats 2000000 in
theorem take_any (R : Nat) (l r x : Int) (w : World) (h0 : 0 ≤ r) (h1 : r ≤ 5) (hR : Rn w R l r) :
    Calls Tryd.prog 34 #[.pointer (some ⟨R, 0, none⟩), .int .u8 x] w fun e w' => e = .returned (.tuple #[]) ∧ Rn w' R x (rnN l r x) ∧ Only R w w' := by
  have b0 := hR.c0
  have b1 := hR.c1
  have f0 := hR.fz 0
  have f1 := hR.fz 1
  have bl := hR.lt
  unfold rnN
  by_cases hx : x = l
  · subst hx
    rw [if_pos rfl]
    have hS : Rn (w.setCell ⟨R, 1, none⟩ (.int .i64 (r + 1))) R x (r + 1) := hR.set 1 (by simp) (.int .i64 (r + 1))
    have hO := (Only.refl R w).set 1 (.int .i64 (r + 1))
    have HS : Hid (Rn (w.setCell ⟨R, 1, none⟩ (.int .i64 (r + 1))) R x (r + 1)) := hS
    clear hR hS
    go_enter Tryd.func34, Tryd.ntmps34
    go_wp2
    go_end0
    exact ⟨rfl, HS.out, hO⟩
  · rw [if_neg hx]
    have hq : (x != l) = true := by simpa using hx
    have hS1 : Rn ((w.setCell ⟨R, 0, none⟩ (.int .u8 x)).setCell ⟨R, 1, none⟩ (.int .i64 0)) R x 0 := (hR.set 0 (by simp) (.int .u8 x)).set 1 (by simp) (.int .i64 0)
    have hO1 := ((Only.refl R w).set 0 (.int .u8 x)).set 1 (.int .i64 0)
    have hS : Rn (((w.setCell ⟨R, 0, none⟩ (.int .u8 x)).setCell ⟨R, 1, none⟩ (.int .i64 0)).setCell ⟨R, 1, none⟩ (.int .i64 1)) R x 1 := hS1.set 1 (by simp) (.int .i64 1)
    have hO := hO1.set 1 (.int .i64 1)
    have HS : Hid (Rn (((w.setCell ⟨R, 0, none⟩ (.int .u8 x)).setCell ⟨R, 1, none⟩ (.int .i64 0)).setCell ⟨R, 1, none⟩ (.int .i64 1)) R x 1) := hS
    have c0 := hS1.c0
    have c1 := hS1.c1
    have d1 := hS1.fz 1
    have cl := hS1.lt
    clear hR hS hS1 hO1
    go_enter Tryd.func34, Tryd.ntmps34
    go_wp2
    go_end0
    exact ⟨rfl, HS.out, hO⟩
set_option maxHeartbeats 2000000 in
theorem full_any (R : Nat) (l r : Int) (w : World) (hR : Rn w R l r) :
    Calls Tryd.prog 35 #[.pointer (some ⟨R, 0, none⟩)] w fun e w' => e = .returned (.bool (r == 5)) ∧ w' = w := by
  have b1 := hR.c1
  have bl := hR.lt
  clear hR
  go_enter Tryd.func35, Tryd.ntmps35
  go_wp2
  go_ret
  exact ⟨rfl, rfl⟩
end Go.Proofs.YtplpggcbpcebcaaDoor
