/- Two lists of floats laid into a new box. -/
import Derived.Test.YtfciecoigfnnhaaBxEach
import Derived.Test.YtfciecoigfnnhaaBxPairI
import Derived.Test.YtfciecoigfnnhaaBxCut
import Derived.Test.YtfciecoigfnnhaaBxNone
namespace Go.Proofs.Ytfciecoigfnnhaa
open Go.RowKit

theorem each_hi2 (a b : Option Addr) (n c d : Nat) (f g : Nat → Nat) (w : World) (hf : FS w a n f) (hg : FS w b n g) (gf : ∀ i, i < n → goodB (f i) = true) (gg : ∀ i, i < n → goodB (g i) = true) :
    Calls Try.prog 62 #[.func (.func 63) #[] #[], .slice a n c, .slice b n d] w fun e w' => ∃ l, e = .returned (.slice (some ⟨l, 0, none⟩) n n) ∧ w.heap.size ≤ l ∧ FP w' l n (fun i => hiF (f i) (g i)) ∧ Below w.heap.size w w' :=
  (each_hi a b n c d f g w hf hg gf gg).mono fun _ _ ⟨h1, h2, h3⟩ => ⟨_, h1, Nat.le_refl _, h2, h3⟩
theorem each_lo2 (a b : Option Addr) (n c d : Nat) (f g : Nat → Nat) (w : World) (hf : FS w a n f) (hg : FS w b n g) (gf : ∀ i, i < n → goodB (f i) = true) (gg : ∀ i, i < n → goodB (g i) = true) :
    Calls Try.prog 62 #[.func (.func 64) #[] #[], .slice a n c, .slice b n d] w fun e w' => ∃ l, e = .returned (.slice (some ⟨l, 0, none⟩) n n) ∧ w.heap.size ≤ l ∧ FP w' l n (fun i => loF (f i) (g i)) ∧ Below w.heap.size w w' :=
  (each_lo a b n c d f g w hf hg gf gg).mono fun _ _ ⟨h1, h2, h3⟩ => ⟨_, h1, Nat.le_refl _, h2, h3⟩
abbrev two (l1 l2 n : Nat) : List Value := [.slice (some ⟨l1, 0, none⟩) n n, .slice (some ⟨l2, 0, none⟩) n n]
/-- what a region leaves that lays two new lists into a new box -/
def CutM (wr wx : World) (n : Nat) (F G : Nat → Nat) (s : Value) : Prop :=
  ∃ g l1 l2, s = .pointer (some ⟨g, 0, none⟩) ∧ wr.heap.size ≤ g ∧ wr.heap.size ≤ l1 ∧ l1 < l2 ∧ l1 ≠ g ∧ l2 ≠ g ∧ Bx wx g (two l1 l2 n) ∧ FP wx l1 n F ∧ FP wx l2 n G ∧ Below wr.heap.size wr wx
theorem FP.far {w : World} {b n g k : Nat} {F : Nat → Nat} (h : FP w b n F) (v : Value) (hn : b ≠ g) : FP (w.setCell ⟨g, k, none⟩ v) b n F :=
  h.only (b' := g) ((Only.refl g w).set k v) hn
theorem cutM_end {wr w6 : World} {n l1 l2 : Nat} {F G : Nat → Nat} {t : TypeId} (hw : Below wr.heap.size wr w6) (h1 : wr.heap.size ≤ l1) (h2 : l1 < l2) (p1 : FP w6 l1 n F) (p2 : FP w6 l2 n G) :
    CutM wr (w6.alloc (.cells (two l1 l2 n).toArray t)) n F G (.pointer (some ⟨w6.heap.size, 0, none⟩)) :=
  ⟨_, l1, l2, rfl, hw.size, h1, h2, Nat.ne_of_lt p1.lt, Nat.ne_of_lt p2.lt, bx_new _ _ rfl, p1.below ((Below.refl w6.heap.size w6).alloc (Nat.le_refl _) _) p1.lt, p2.below ((Below.refl w6.heap.size w6).alloc (Nat.le_refl _) _) p2.lt, hw.alloc hw.size _⟩
theorem cutM_set {wr w6 : World} {n g l1 l2 : Nat} {F G : Nat → Nat} {u v : Value} (hw : Below wr.heap.size wr w6) (hg : wr.heap.size ≤ g) (h1 : wr.heap.size ≤ l1) (h2 : l1 < l2) (n1 : l1 ≠ g) (n2 : l2 ≠ g) (nb : Bx w6 g [u, v]) (p1 : FP w6 l1 n F) (p2 : FP w6 l2 n G) :
    CutM wr ((w6.setCell ⟨g, 0, none⟩ (.slice (some ⟨l1, 0, none⟩) n n)).setCell ⟨g, 1, none⟩ (.slice (some ⟨l2, 0, none⟩) n n)) n F G (.pointer (some ⟨g, 0, none⟩)) :=
  ⟨g, l1, l2, rfl, hg, h1, h2, n1, n2, (nb.set 0 (by simp) _).set 1 (by simp) _, (p1.far _ n1).far _ n1, (p2.far _ n2).far _ n2, bSt hw hg⟩
theorem fs_of {w : World} {l n : Nat} {F : Nat → Nat} (h : FP w l n F) (hn : n ≤ 1048576) (hF : ∀ i, i < n → F i < 18446744073709551616) : FS w (some ⟨l, 0, none⟩) n F :=
  ⟨hn, hF, fun _ => ⟨l, 0, rfl, h.lt, fun i hi => by rw [Nat.zero_add]; exact h.c i hi⟩⟩
theorem bp_two {w : World} {lo l1 l2 n : Nat} {F G : Nat → Nat} (p1 : FP w l1 n F) (p2 : FP w l2 n G) (h1 : lo ≤ l1) (h2 : l1 < l2) : BP w lo w.heap.size (some ⟨l1, 0, none⟩) n F (some ⟨l2, 0, none⟩) n G :=
  ⟨l1, l1 + 1, l2, l2 + 1, h1, p1.lt, by omega, p2.lt, .inl (by omega), fq_of p1 (Nat.le_refl _) (by omega), fq_of p2 (Nat.le_refl _) (by omega)⟩
theorem meet_none (f g f2 g2 : Nat → Nat) (n : Nat) : noneB (fun i => hiF (f i) (f2 i)) (fun i => loF (g i) (g2 i)) n = allMeet f g f2 g2 n := by
  induction n with
  | zero => rfl
  | succ n ih => unfold noneB allMeet; rw [ih]
theorem good_at {n m : Nat} {f g : Nat → Nat} (h : boxB n f m g = true) : (∀ i, i < n → goodB (f i) = true) ∧ (∀ i, i < n → goodB (g i) = true) := by
  have := (boxB_len h).2.2.2
  refine ⟨fun i hi => ?_, fun i hi => ?_⟩ <;> · have := allO_at this hi; simp only [okR, Bool.and_eq_true] at this; simp [this]
end Go.Proofs.Ytfciecoigfnnhaa
