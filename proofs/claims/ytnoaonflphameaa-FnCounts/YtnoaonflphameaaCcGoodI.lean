/- GoodCounts, as the program says it. -/
import Derived.Test.YtnoaonflphameaaCcGood
namespace Go.Proofs.Ytnoaonflphameaa
open Go.RowKit

set_option maxHeartbeats 1000000 in
theorem implGoodC (W : Int) (a b : Option Addr) (n c m d : Nat) (f g : Nat → Int) (w : World) (hn : n ≤ 1048576) (hm : m ≤ 1048576) (hf : IL w a n f) (hg : IL w b m g) :
    Calls Try.prog 36 #[cnt W a n c b m d] w fun e w' => e = .returned (.bool (cntB W n f m g)) ∧ Below w.heap.size w w' := by
  go_enter Try.func36, Try.ntmps36
  go_wp2_with fail
  first
    | refine (sidesOf_any W a b n c m d f g _ hn hm (hf.alloc _) (hg.alloc _)).mono ?_
    | refine (sidesOf_any W a b n c m d f g _ hn hm hf hg).mono ?_
  rintro e w1 ⟨rfl, hb1⟩
  go_wp2
  go_ret
  first | exact ⟨rfl, below_al hb1⟩ | exact ⟨rfl, (below_al hb1).alloc (below_al hb1).size _⟩

end Go.Proofs.Ytnoaonflphameaa
