/- The ground of good cells. -/
import Derived.Test.YtbndhhjgjalecabDoorQClGround
namespace Go.Proofs.YtbndhhjgjalecabDoor
open Go.RowKit
theorem groundOf_yes (W : Int) (a : Option Addr) (n c : Nat) (f : Nat → Int) (w : World) (hn : n ≤ 1048576) (hf : IL w a n f) (h : celB W n f = true) :
    Calls Tryd.prog 21 #[cel W a n c] w fun e w' => e = .returned (.tuple #[gr W (hgt W n) a n c, .bool true]) ∧ Below w.heap.size w w' := by
  have k := groundOf_any W a n c f w hn hf
  rw [h] at k
  exact k
theorem groundOf_no (W : Int) (a : Option Addr) (n c : Nat) (f : Nat → Int) (w : World) (hn : n ≤ 1048576) (hf : IL w a n f) (h : celB W n f = false) :
    Calls Tryd.prog 21 #[cel W a n c] w fun e w' => e = .returned (.tuple #[gr 0 0 none 0 0, .bool false]) ∧ Below w.heap.size w w' := by
  have k := groundOf_any W a n c f w hn hf
  rw [h] at k
  exact k

end Go.Proofs.YtbndhhjgjalecabDoor
