/- The least list: the walk. -/
import Derived.Test.YtfciecoigfnnhaaQWyNxI
import Derived.Test.YtfciecoigfnnhaaQWyPlM
import Derived.Laws.OwnMore
import Derived.Maps.AppendAt
import Derived.OneCell
import Derived.Deep.LoopGhost
import Derived.Test.YtfciecoigfnnhaaQClGround
namespace Go.Proofs.Ytfciecoigfnnhaa
open Go.RowKit

/-- the list so far: what is put behind it from i on is put behind the whole -/
def GotC (st : Nat → Nat → Int) (n : Nat) (A B : Nat → Int) (tt x i : Nat) (l : List Int) : Prop :=
  ∃ l' : List Int, l = l' ++ [(i : Int)] ∧ ∀ t, Ch st n A B tt i t → Ch st n A B tt x (l' ++ t)
theorem gotC_start (st : Nat → Nat → Int) (n : Nat) (A B : Nat → Int) (tt x : Nat) : GotC st n A B tt x x [(x : Int)] := ⟨[], rfl, fun _ h => h⟩
theorem GotC.step {st : Nat → Nat → Int} {n : Nat} {A B : Nat → Int} {tt x i k : Nat} {l : List Int} (h : GotC st n A B tt x i l) (hi : i ≠ tt) (hk : Nx st n A B i k) : GotC st n A B tt x k (l ++ [(k : Int)]) := by
  obtain ⟨l', rfl, h2⟩ := h
  refine ⟨l' ++ [(i : Int)], rfl, fun t ht => ?_⟩
  have := h2 _ (.go hi hk ht)
  simpa using this
theorem GotC.done {st : Nat → Nat → Int} {n : Nat} {A B : Nat → Int} {tt x i : Nat} {l : List Int} (h : GotC st n A B tt x i l) (hi : i = tt) : Ch st n A B tt x l := by
  subst hi
  obtain ⟨l', rfl, h2⟩ := h
  exact h2 _ .stop
theorem own_less {w : World} {base base' : Nat} {v : Value} {k : Nat} {F : Nat → Int} (h : Own w base v k F) (hb : base' ≤ base) : Own w base' v k F := by
  obtain ⟨h1, h2 | ⟨g, cap, cur, e1, e2, r⟩⟩ := h
  · exact ⟨h1, .inl h2⟩
  · exact ⟨h1, .inr ⟨g, cap, cur, e1, Nat.le_trans hb e2, r⟩⟩
/-- what stands at each round -/
def LpL (w1 : World) (st : Nat → Nat → Int) (n : Nat) (A B : Nat → Int) (tt x g : Nat) (s5 s6 s7 : Value) (wr : World) : Prop :=
  ∃ (l : List Int) (i : Nat) (nx : Int) (b : Bool), s6 = .int .i64 nx ∧ s7 = .bool b ∧ i < n ∧ 0 ≤ A i ∧ GotC st n A B tt x i l ∧ (l.length : Int) + (A i + B i) ≤ 257 ∧ A i + B i ≤ (g : Int) ∧ ((b = true ∧ ∃ kn : Nat, nx = (kn : Int) ∧ i ≠ tt ∧ Nx st n A B i kn) ∨ (b = false ∧ i = tt)) ∧ Own wr w1.heap.size s5 l.length (gl l) ∧ Below w1.heap.size w1 wr
/-- the answer: the list, in a block of its own -/
def AnsLL (w w' : World) (st : Nat → Nat → Int) (n : Nat) (A B : Nat → Int) (tt x : Nat) (e : Ending) : Prop :=
  ∃ (l : List Int) (v : Value), e = .returned v ∧ Ch st n A B tt x l ∧ Own w' w.heap.size v l.length (gl l)

set_option maxHeartbeats 8000000 in
set_option maxRecDepth 20000 in
theorem least_any (W H : Int) (q : Option Addr) (n c Tb Mb : Nat) (pv : Option Addr) (cv : Nat) (f : Nat → Int) (st : Nat → Nat → Int) (A B TA TB : Nat → Int) (tt x : Nat) (w : World) (hsz : sizedB W n = true) (hHe : H = hgt W n) (hst0 : st = stN W n f) (hf : IL w q n f) (hT : IP w Tb (n * 2) (f2 TA TB)) (hD : Dst st n tt A B) (hag : ∀ i, i < n → 0 ≤ A i → TA i = A i ∧ TB i = B i) (hx : x < n) (h0 : 0 ≤ A x) (ht : tt < n) :
    Calls Try.prog 43 #[srA W H q n c Tb Mb pv cv, .int .i64 (x : Int)] w fun e w' => AnsLL w w' st n A B tt x e ∧ Below w.heap.size w w' := by
  obtain ⟨i0, hi, hzz⟩ := Option.map_eq_some_iff.1 infoI
  simp only [Prod.mk.injEq] at hzz
  obtain ⟨hz0, hz1, hz2⟩ := hzz
  have hn2 := sized_le hsz
  have kn0 := fun i w hf hT hi h0 => nextFrom_any W H q n c Tb Mb pv cv f st A B TA TB tt i w hsz hHe hst0 hf hT hD hag hi h0 ht
  have hin : Hid (∀ i k, st i k = 0 ∨ st i k = 1 ∨ st i k = 2) := fun i k => (by rw [hst0]; exact stN_in W n f i k : _ ∨ _ ∨ _)
  have HD : Hid (Dst st n tt A B) := hD
  have H0 : Hid (0 ≤ A x) := h0
  have hb0 : Below w.heap.size w (w.alloc (.cells #[.int .i64 W, .int .i64 H, .slice q n c, .slice (some ⟨Tb, 0, none⟩) n n, .map (some Mb), .slice pv 0 cv] 83)) := (Below.refl _ _).alloc (Nat.le_refl _) _
  have bX := bx_new (w := w) [.int .i64 W, .int .i64 H, .slice q n c, .slice (some ⟨Tb, 0, none⟩) n n, .map (some Mb), .slice pv 0 cv] 83 rfl
  have HF1 : Hid _ := IL.below hf hb0
  have HT1 : Hid _ := hT.below hb0 hT.lt
  have lT1 : Tb < (w.alloc (.cells #[.int .i64 W, .int .i64 H, .slice q n c, .slice (some ⟨Tb, 0, none⟩) n n, .map (some Mb), .slice pv 0 cv] 83)).heap.size := Nat.lt_of_lt_of_le hT.lt hb0.size
  clear hHe hst0 hD hag hf hT h0
  go_enter Try.func43, Try.ntmps43
  go_upto_region 1 with fail
  generalize w.alloc (.cells #[.int .i64 W, .int .i64 H, .slice q n c, .slice (some ⟨Tb, 0, none⟩) n n, .map (some Mb), .slice pv 0 cv] 83) = w1 at *
  have hown0 := own_one w1 w1.heap.size (x : Int) (Nat.le_refl _)
  have hal : Below w1.heap.size w1 (w1.alloc (.cells #[.int .i64 (x : Int)] 3)) := (Below.refl _ _).alloc (Nat.le_refl _) _
  have bX2 := bX.on hal
  have hF2 := IL.below HF1.out hal
  have hT2 := IP.below HT1.out hal lT1
  have LX := bX.lt
  have HBX : Hid (Bx w1 w.heap.size [.int .i64 W, .int .i64 H, .slice q n c, .slice (some ⟨Tb, 0, none⟩) n n, .map (some Mb), .slice pv 0 cv]) := bX
  have x0 := bX2.c0
  have x1 := bX2.c1
  have x2 := bX2.c2
  have x3 := bX2.c3
  have x4 := bX2.c 4 (by simp)
  have x5 := bX2.c 5 (by simp)
  simp only [List.getElem?_cons_succ, List.getElem?_cons_zero] at x4 x5
  have kn := fun w hf hT => kn0 x w hf hT hx H0.out
  clear bX bX2
  go_wp2_with fail
  refine (kn _ hF2 hT2).mono ?_
  rintro e9 w4 ⟨⟨nx, b, rfl, hnb⟩, hb4⟩
  have hB4 := stepA hal hb4
  have O4 := hown0.below hb4
  have HLP : Hid (LpL w1 st n A B tt x (A x + B x).toNat (.slice (some ⟨w1.heap.size, 0, none⟩) 1 1) (.int .i64 nx) (.bool b) w4) := (by
    have hb := (HD.out : Dst st n tt A B).bnd x hx H0.out
    exact ⟨[(x : Int)], x, nx, b, rfl, rfl, hx, H0.out, gotC_start st n A B tt x, by simp; omega, by have := H0.out; omega, hnb, O4, hB4⟩ : LpL _ _ _ _ _ _ _ _ _ _ _ _)
  clear hown0 hal hF2 hT2 x0 x1 x2 x3 x4 x5 kn hnb hb4 hB4 O4
  go_wp2
  go_loopg [5, 6, 7] ((A x + B x).toNat) (fun g s5 s6 s7 wx => LpL w1 st n A B tt x g s5 s6 s7 wx)
  case atStart => exact HLP.out
  case round =>
    obtain ⟨l, i, nx, b, rfl, rfl, hi2, ha2, hG, hlen, hgk, hnb, hown, hbe⟩ := hrel
    clear HLP
    obtain ⟨sa, sc, rfl⟩ := hown.shape
    have HG : Hid (GotC st n A B tt x i l) := hG
    clear hG
    rcases hnb with ⟨rfl, k, rfl, hit, hNx⟩ | ⟨rfl, hit⟩
    · have hAk := (okB_t.1 hNx.2.1).2.1
      have hless := (HD.out : Dst st n tt A B).less hin.out hi2 ha2 hNx.1 hNx.2.1
      have hbk := (HD.out : Dst st n tt A B).bnd k hNx.1 hAk
      have HGK : Hid (GotC st n A B tt x k (l ++ [(k : Int)])) := GotC.step HG.out hit hNx
      have HM : Hid (gk - 1 < gk ∧ ((l ++ [(k : Int)]).length : Int) + (A k + B k) ≤ 257 ∧ A k + B k ≤ ((gk - 1 : Nat) : Int)) := (by simp; omega : _ ∧ _ ∧ _)
      have hkn := hNx.1
      have hll : l.length ≤ 257 := by omega
      have kn := fun w hf hT => kn0 k w hf hT hkn hAk
      have hbz : w1.heap.size ≤ wr.heap.size := hbe.size
      clear hNx hless hbk hlen hgk HG kn0
      go_wp2_with (first | (at_builtin; refine wpList_append_own _ rfl _ _ 23 rfl w1.heap.size 3 i0 (.int .i64 0) 1 8 Try.underlying23 hi hz0 hz1 hz2 rfl (by decide) _ _ _ rfl (World.ownsRow.alloc hown _) ⟨wr.heap.size, 0, none⟩ 1 1 [.int .i64 (k : Int)] rfl rfl (cell_one_new _ _ _) (fun x hx => by simp at hx; subst hx; rfl) (by unfold maxLen; omega) (by omega) (by simp; omega) ?_; intro v' w3 hown' hgrow3 _; have hB5 := (hbe.alloc hbe.size (.cells #[.int .i64 (k : Int)] 3)).grown hgrow3 (by simp; omega) (fun q hq => (World.ownsRow.lt hown q hq).1); have bX5 := Bx.on HBX.out hB5; have x0 := bX5.c0; have x1 := bX5.c1; have x2 := bX5.c2; have x3 := bX5.c3; have x4 := bX5.c 4 (by simp); have x5 := bX5.c 5 (by simp); simp only [List.getElem?_cons_succ, List.getElem?_cons_zero] at x4 x5) | (fail))
      refine (kn _ (IL.below HF1.out hB5) (IP.below HT1.out hB5 lT1)).mono ?_
      rintro e9 w6 ⟨⟨nx, b, rfl, hnb⟩, hb6⟩
      have hB6 := stepA hB5 hb6
      have O6 := (own_snoc hown').below hb6
      have HLP : Hid (LpL w1 st n A B tt x (gk - 1) v' (.int .i64 nx) (.bool b) w6) := (⟨l ++ [(k : Int)], k, nx, b, rfl, rfl, hkn, hAk, HGK.out, HM.out.2.1, HM.out.2.2, hnb, O6, hB6⟩ : LpL _ _ _ _ _ _ _ _ _ _ _ _)
      clear x0 x1 x2 x3 x4 x5 bX5 hown hown' hgrow3 kn hnb hb6
      go_wp2
      go_roundg (gk - 1)
      case measure => exact HM.out.1
      case rel => exact HLP.out
    · have HC : Hid (Ch st n A B tt x l) := GotC.done HG.out hit
      have HBE : Hid (Below w.heap.size w wr) := Below.trans hb0 (hbe.mono hb0.size)
      have O9 : Own wr w.heap.size (.slice sa l.length sc) l.length (gl l) := own_less hown hb0.size
      have HO : Hid (Own wr w.heap.size (.slice sa l.length sc) l.length (gl l)) := O9
      clear hown O9 hbe hlen hgk HG
      go_wp2
      go_ret
      exact ⟨⟨l, _, rfl, HC.out, HO.out⟩, HBE.out⟩
end Go.Proofs.Ytfciecoigfnnhaa

/- The ground of good cells. -/
namespace Go.Proofs.Ytfciecoigfnnhaa
open Go.RowKit
theorem groundOf_yes (W : Int) (a : Option Addr) (n c : Nat) (f : Nat → Int) (w : World) (hn : n ≤ 1048576) (hf : IL w a n f) (h : celB W n f = true) :
    Calls Try.prog 40 #[cel W a n c] w fun e w' => e = .returned (.tuple #[gr W (hgt W n) a n c, .bool true]) ∧ Below w.heap.size w w' := by
  have k := groundOf_any W a n c f w hn hf
  rw [h] at k
  exact k
theorem groundOf_no (W : Int) (a : Option Addr) (n c : Nat) (f : Nat → Int) (w : World) (hn : n ≤ 1048576) (hf : IL w a n f) (h : celB W n f = false) :
    Calls Try.prog 40 #[cel W a n c] w fun e w' => e = .returned (.tuple #[gr 0 0 none 0 0, .bool false]) ∧ Below w.heap.size w w' := by
  have k := groundOf_any W a n c f w hn hf
  rw [h] at k
  exact k

end Go.Proofs.Ytfciecoigfnnhaa
