/- Regions whose answer is laid into a box of the call's own, whenever that was made. -/
import Derived.Test.YtfciecoigfnnhaaBxGrow
import Derived.Test.YtfciecoigfnnhaaBxKeep
import Derived.Test.YtfciecoigfnnhaaBxMark
import Derived.Deep.CutRange
namespace Go.Proofs.Ytfciecoigfnnhaa
open Go.RowKit
/-- what a region leaves that holds two copies and a call with two boxes, and lays its answer into a box of the call's own -/
def CutA (wr wx : World) (N : Nat) (F G : Nat → Nat) (Q : Bool) (s6 s7 : Value) : Prop :=
  ∃ g a c b d lo hi, s6 = .pointer (some ⟨g, 0, none⟩) ∧ s7 = .bool Q ∧ wr.heap.size ≤ g ∧ Bx wx g (bxL a N c b N d) ∧ BP wx lo hi a N F b N G ∧ wr.heap.size ≤ lo ∧ hi ≤ wx.heap.size ∧ (g < lo ∨ hi ≤ g) ∧ Below wr.heap.size wr wx
theorem bAl {W w1 : World} (h : Below W.heap.size W w1) (o : Obj) : Below W.heap.size W (w1.alloc o) := h.alloc h.size o
theorem bSt {W w1 : World} {g : Nat} {u v : Value} (h : Below W.heap.size W w1) (hg : W.heap.size ≤ g) : Below W.heap.size W ((w1.setCell ⟨g, 0, none⟩ u).setCell ⟨g, 1, none⟩ v) := (h.setCell (p := ⟨g, 0, none⟩) hg _).setCell (p := ⟨g, 1, none⟩) hg _
theorem nbx {W w1 w2 : World} {t : TypeId} (h : Below W.heap.size W w1) (k : Below (w1.alloc (bxO none 0 0 none 0 0 t)).heap.size (w1.alloc (bxO none 0 0 none 0 0 t)) w2) :
    Below W.heap.size W w2 ∧ Bx w2 w1.heap.size (bxL none 0 0 none 0 0) := ⟨stepA (bAl h _) k, (bx_new (bxL none 0 0 none 0 0) t rfl).on k⟩
theorem nbxd {W w1 w2 : World} {t : TypeId} (h : Below W.heap.size W w1) (k : Below (w1.alloc (bxO none 0 0 none 0 0 t)).drew.heap.size (w1.alloc (bxO none 0 0 none 0 0 t)).drew w2) :
    Below W.heap.size W w2 ∧ Bx w2 w1.heap.size (bxL none 0 0 none 0 0) := nbx (t := t) h ((Below.refl _ _).drew.trans k)
theorem markBox_int (a b : Option Addr) (n c m d k lo hi : Nat) (q : Int) (hq : q = (k : Int)) (f g : Nat → Nat) (w : World) (hn : n ≤ 1048576) (hm : m ≤ 1048576) (hk : k ≤ 1048576 * 2 + 1) (h : BP w lo hi a n f b m g) (hs : hi ≤ w.heap.size) :
    Calls Try.prog 23 #[bxv a n c b m d, .int .i64 q] w fun e w' => e = .returned (.int .i64 (q + (n : Int) + (m : Int))) ∧ BP w' lo hi a n (fun i => cv ((k : Int) + (i : Int))) b m (fun i => cv ((((k + n : Nat) : Int)) + (i : Int))) ∧ Turns lo hi w w' := by
  subst hq
  exact markBox_any a b n c m d k lo hi f g w hn hm hk h hs
theorem bp_al {w : World} {lo hi : Nat} {a b : Option Addr} {n m : Nat} {F G : Nat → Nat} (h : BP w lo hi a n F b m G) (o : Obj) : BP (w.alloc o) lo hi a n F b m G := h.on ((Below.refl _ _).alloc (Nat.le_refl _) o)
end Go.Proofs.Ytfciecoigfnnhaa
