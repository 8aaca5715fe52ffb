/- The walk of the law on UnstuffBits. -/
import Derived.Test.YtdpgedkgjfdefabDoorUsS
namespace Go.Proofs.YtdpgedkgjfdefabDoor
open Go.RowKit
theorem txt_same (a : ByteArray) : (a.toList != a.toList) = false := by simp
set_option maxHeartbeats 1000000 in
theorem unLaw (s : ByteArray) (w : World) :
    Calls Tryd.prog 3 #[.string s] w fun e w' => e = .returned (.bool true) ∧ Below w.heap.size w w' := by
  by_cases hs : s.size ≤ 1048576
  · have j : ¬ (1048576 : Int) < (s.size : Int) := by omega
    have kI := fun w2 => iUn s w2 hs
    have kS := fun w2 => sUn s w2 hs
    generalize uT s = T at *
    generalize uB s = B at *
    have hT := txt_same T
    have hB : (B != B) = false := by simp
    go_enter Tryd.func3, Tryd.ntmps3
    go_wp2_with fail
    refine (kS _).mono ?_
    rintro e w2 ⟨rfl, hb2⟩
    clear kS
    go_wp2_with fail
    refine (kI _).mono ?_
    rintro e w3 ⟨rfl, hb3⟩
    have hB3 := stepA hb2 hb3
    clear kI hb2 hb3
    go_wp2
    go_ret
    exact ⟨rfl, hB3⟩
  · have j : (1048576 : Int) < (s.size : Int) := by omega
    go_enter Tryd.func3, Tryd.ntmps3
    go_wp2
    go_ret
    exact ⟨rfl, Below.refl _ _⟩
end Go.Proofs.YtdpgedkgjfdefabDoor
