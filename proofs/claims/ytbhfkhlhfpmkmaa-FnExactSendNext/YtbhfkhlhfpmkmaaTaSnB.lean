/- The boxes of a call of SendNext. -/
import Derived.Test.YtbhfkhlhfpmkmaaTaSnM
import Derived.Test.YtbhfkhlhfpmkmaaTaB
import Derived.Deep.Cut
namespace Go.Proofs.Ytbhfkhlhfpmkmaa
open Go.RowKit
/-- the boxes of a call of SendNext: the sender, what is told -/
theorem boxes_sn (a : Option Addr) (n c : Nat) (k t : Int) (w : World) : Bx (((w.alloc (snO a n c k t 44)).alloc (.cells #[.int .i64 0, .int .i64 0] 43)).alloc (snO none 0 0 0 0 44)) w.heap.size (snL a n c k t) ∧
    Bx (((w.alloc (snO a n c k t 44)).alloc (.cells #[.int .i64 0, .int .i64 0] 43)).alloc (snO none 0 0 0 0 44)) (w.heap.size + 1) [.int .i64 0, .int .i64 0] ∧
    Bx (((w.alloc (snO a n c k t 44)).alloc (.cells #[.int .i64 0, .int .i64 0] 43)).alloc (snO none 0 0 0 0 44)) (w.heap.size + 2) (snL none 0 0 0 0) ∧
    Below w.heap.size w (((w.alloc (snO a n c k t 44)).alloc (.cells #[.int .i64 0, .int .i64 0] 43)).alloc (snO none 0 0 0 0 44)) :=
  ⟨((bx_new _ _ rfl).alloc _).alloc _, (bx_new [.int .i64 0, .int .i64 0] _ (by simp)).alloc _, bx_new (snL none 0 0 0 0) _ (by simp), (((Below.refl _ _).alloc (Nat.le_refl _) _).alloc (by simp) _).alloc (by simp; omega) _⟩
/-- five cells stored into the two boxes of the answer -/
theorem five {w : World} {bp bs : Nat} {p q u v x : Value} (h1 : Bx w bp [p, q]) (h2 : Bx w bs [u, v, x]) (hne : bp ≠ bs) (p' q' u' v' x' : Value) :
    Bx (((((w.setCell ⟨bp, 0, none⟩ p').setCell ⟨bp, 1, none⟩ q').setCell ⟨bs, 0, none⟩ u').setCell ⟨bs, 1, none⟩ v').setCell ⟨bs, 2, none⟩ x') bp [p', q'] ∧
    Bx (((((w.setCell ⟨bp, 0, none⟩ p').setCell ⟨bp, 1, none⟩ q').setCell ⟨bs, 0, none⟩ u').setCell ⟨bs, 1, none⟩ v').setCell ⟨bs, 2, none⟩ x') bs [u', v', x'] :=
  ⟨((((h1.set 0 (by simp) p').set 1 (by simp) q').far _ hne).far _ hne).far _ hne, ((((h2.far _ (Ne.symm hne)).far _ (Ne.symm hne)).set 0 (by simp) u').set 1 (by simp) v').set 2 (by simp) x'⟩
theorem five_below {B : Nat} {w0 w : World} {bp bs : Nat} (h : Below B w0 w) (h1 : B ≤ bp) (h2 : B ≤ bs) (p' q' u' v' x' : Value) :
    Below B w0 (((((w.setCell ⟨bp, 0, none⟩ p').setCell ⟨bp, 1, none⟩ q').setCell ⟨bs, 0, none⟩ u').setCell ⟨bs, 1, none⟩ v').setCell ⟨bs, 2, none⟩ x') :=
  ((((h.setCell (p := ⟨bp, 0, none⟩) h1 _).setCell (p := ⟨bp, 1, none⟩) h1 _).setCell (p := ⟨bs, 0, none⟩) h2 _).setCell (p := ⟨bs, 1, none⟩) h2 _).setCell (p := ⟨bs, 2, none⟩) h2 _
theorem five_lq {w : World} {lo hi bp bs : Nat} {a : Option Addr} {n : Nat} {F : Nat → Int} (h : LQ w lo hi a n F) (h1 : bp < lo) (h2 : bs < lo) (p' q' u' v' x' : Value) :
    LQ (((((w.setCell ⟨bp, 0, none⟩ p').setCell ⟨bp, 1, none⟩ q').setCell ⟨bs, 0, none⟩ u').setCell ⟨bs, 1, none⟩ v').setCell ⟨bs, 2, none⟩ x') lo hi a n F :=
  lq_set (lq_set (lq_set (lq_set (lq_set h _ (.inl h1)) _ (.inl h1)) _ (.inl h2)) _ (.inl h2)) _ (.inl h2)
theorem five_size (w : World) (bp bs : Nat) (p' q' u' v' x' : Value) : (((((w.setCell ⟨bp, 0, none⟩ p').setCell ⟨bp, 1, none⟩ q').setCell ⟨bs, 0, none⟩ u').setCell ⟨bs, 1, none⟩ v').setCell ⟨bs, 2, none⟩ x').heap.size = w.heap.size := by
  simp only [size_set]
/-- what stands behind the five stores -/
theorem five_end {w0 w : World} {lo bp bs : Nat} {p q u v x : Value} {a : Option Addr} {n : Nat} {F : Nat → Int} (h1 : Bx w bp [p, q]) (h2 : Bx w bs [u, v, x]) (hne : bp ≠ bs) (hL : LQ w lo w.heap.size a n F) (l1 : bp < lo) (l2 : bs < lo) (l3 : w0.heap.size ≤ lo) (hB : Below w0.heap.size w0 w) (k1 : w0.heap.size ≤ bp) (k2 : w0.heap.size ≤ bs) (p' q' u' v' x' : Value) :
    Bx (((((w.setCell ⟨bp, 0, none⟩ p').setCell ⟨bp, 1, none⟩ q').setCell ⟨bs, 0, none⟩ u').setCell ⟨bs, 1, none⟩ v').setCell ⟨bs, 2, none⟩ x').drew bp [p', q'] ∧
    Bx (((((w.setCell ⟨bp, 0, none⟩ p').setCell ⟨bp, 1, none⟩ q').setCell ⟨bs, 0, none⟩ u').setCell ⟨bs, 1, none⟩ v').setCell ⟨bs, 2, none⟩ x').drew bs [u', v', x'] ∧
    LQ (((((w.setCell ⟨bp, 0, none⟩ p').setCell ⟨bp, 1, none⟩ q').setCell ⟨bs, 0, none⟩ u').setCell ⟨bs, 1, none⟩ v').setCell ⟨bs, 2, none⟩ x').drew w0.heap.size (((((w.setCell ⟨bp, 0, none⟩ p').setCell ⟨bp, 1, none⟩ q').setCell ⟨bs, 0, none⟩ u').setCell ⟨bs, 1, none⟩ v').setCell ⟨bs, 2, none⟩ x').drew.heap.size a n F ∧
    Below w0.heap.size w0 (((((w.setCell ⟨bp, 0, none⟩ p').setCell ⟨bp, 1, none⟩ q').setCell ⟨bs, 0, none⟩ u').setCell ⟨bs, 1, none⟩ v').setCell ⟨bs, 2, none⟩ x').drew := by
  obtain ⟨r1, r2⟩ := five h1 h2 hne p' q' u' v' x'
  have r3 := five_lq hL l1 l2 p' q' u' v' x'
  have r4 := five_below hB k1 k2 p' q' u' v' x'
  have r5 := five_size w bp bs p' q' u' v' x'
  generalize ((((w.setCell ⟨bp, 0, none⟩ p').setCell ⟨bp, 1, none⟩ q').setCell ⟨bs, 0, none⟩ u').setCell ⟨bs, 1, none⟩ v').setCell ⟨bs, 2, none⟩ x' = W at *
  have hd : Below W.heap.size W W.drew := (Below.refl _ _).drew
  exact ⟨r1.on hd, r2.on hd, (r3.on hd).wide l3 (by have := hd.size; omega), stepA r4 hd⟩
end Go.Proofs.Ytbhfkhlhfpmkmaa
