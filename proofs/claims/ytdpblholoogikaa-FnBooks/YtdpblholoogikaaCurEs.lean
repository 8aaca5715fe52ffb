/- A row of ints that grows while a cursor is drawn from (as in ChEvD). -/
import Derived.Test.YtdpblholoogikaaCurPk
import Derived.Test.YtdpblholoogikaaLqBase
namespace Go.Proofs.Ytdpblholoogikaa
open Go.RowKit
theorem tn_only {C : Nat} {w w' : World} (h : Only C w w') : Turns C (C + 1) w w' := (OnlyIn.of h (Nat.le_refl _) (Nat.lt_succ_self _)).turns
theorem tn_below {lo hi B : Nat} {w w' w'' : World} (h : Turns lo hi w w') (k : Below B w' w'') (hB : w.heap.size ≤ B) : Turns lo hi w w'' :=
  ⟨k.os.trans h.os, k.tape.trans h.tape, k.output.trans h.output, Nat.le_trans h.size k.size, fun x hx hn => (k.block x (by omega)).trans (h.block x hx hn)⟩
/-- what stands while events are drawn -/
structure Es (w wx : World) (C : Nat) (a : Option Addr) (len cap n' : Nat) (v : Value) (k : Nat) (F : Nat → Int) : Prop where
  cur : Cur wx C a len cap n'
  own : Own wx w.heap.size v k F
  t : Turns C (C + 1) w wx
section
variable {w wx wy : World} {C : Nat} {a : Option Addr} {len cap n' n2 : Nat} {v v' : Value} {k : Nat} {F : Nat → Int}
theorem Es.step (h : Es w wx C a len cap n' v k F) (hc : Cur wy C a len cap n2) (o : Only C wx wy) (hC : C < w.heap.size) : Es w wy C a len cap n2 v k F :=
  ⟨hc, h.own.only o hC, h.t.trans (tn_only o)⟩
theorem Es.app {x : Int} (h : Es w wx C a len cap n' v k F) (ho : wy.ownsRow w.heap.size 3 1 v' (k + 1) (vL F k ++ [.int .i64 x])) (hg : (wx.alloc (.cells #[.int .i64 x] 3)).grownBy wy v.ownBlock) (hC : C < w.heap.size) : Es w wy C a len cap n' v' (k + 1) (put F k x) := by
  have hb : Below w.heap.size wx wy := ((Below.refl _ _).alloc h.t.size (.cells #[.int .i64 x] 3)).grown hg (by simp; have := h.t.size; omega) (fun q hq => (World.ownsRow.lt h.own q hq).1)
  exact ⟨h.cur.below hb hC, own_put ho, tn_below h.t hb (Nat.le_refl _)⟩
end
/-- how long a slice is -/
def lenV : Value → Nat
  | .slice _ n _ => n
  | _ => 0
end Go.Proofs.Ytdpblholoogikaa
