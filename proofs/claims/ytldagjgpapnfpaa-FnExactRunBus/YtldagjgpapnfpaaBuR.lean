/- What was sent, as a row of the call's own; the bus beside it (tools/gen_bur2.py; tools/draft_bur.txt goes on with RunBus' own loop). -/
import Derived.Test.YtldagjgpapnfpaaBuM
import Derived.Test.YtldagjgpapnfpaaCtI
namespace Go.Proofs.Ytldagjgpapnfpaa
open Go.RowKit
theorem infoSn : (Try.prog.info? 65).map (fun i => (i.zero, i.size, i.bytes)) = some (some (.agg #[.int .i64 0, .int .i64 0, .int .i64 0, .bool false]), 4, 32) := by kernel_rfl
/-- what was sent, as cells -/
def snC : List (Int × Int × Int × Bool) → List Value
  | [] => []
  | (a, b, c, d) :: l => .int .i64 a :: .int .i64 b :: .int .i64 c :: .bool d :: snC l
theorem snC_len : ∀ l, (snC l).length = l.length * 4
  | [] => rfl
  | (a, b, c, d) :: l => by simp [snC, snC_len l]; omega
theorem snC_app : ∀ (l : List (Int × Int × Int × Bool)) (a b c : Int) (d : Bool), snC (l ++ [(a, b, c, d)]) = snC l ++ [.int .i64 a, .int .i64 b, .int .i64 c, .bool d]
  | [], a, b, c, d => rfl
  | (p, q, r, s) :: l, a, b, c, d => by simp [snC, snC_app l]
theorem four_new (w : World) (p q r s : Value) (t : TypeId) : ∀ j u, [p, q, r, s][j]? = some u → (w.alloc (.cells #[p, q, r, s] t)).cell? ((⟨w.heap.size, 0, none⟩ : Addr).add j) = some u := by
  intro j u hu
  have hb := bx_new (w := w) [p, q, r, s] t rfl
  have hj : j < 4 := by simpa using (List.getElem?_eq_some_iff.1 hu).1
  have hc := hb.c j (by simpa using hj)
  rw [Addr.add_lit, Nat.zero_add, hc, ← hu]
def OwS (w : World) (base : Nat) (v : Value) (l : List (Int × Int × Int × Bool)) : Prop := w.ownsRow base 65 4 v l.length (snC l)
theorem OwS.same {w w' : World} {base : Nat} {v : Value} {l : List (Int × Int × Int × Bool)} (h : OwS w base v l) (hb : ∀ q, v.ownBlock = some q → w'.heap[q]? = w.heap[q]?) : OwS w' base v l := by
  obtain ⟨hl, h0 | ⟨g, cap, cur, h1, h2, h3, h4⟩⟩ := h
  · exact ⟨hl, .inl h0⟩
  · exact ⟨hl, .inr ⟨g, cap, cur, h1, h2, (hb g (by rw [h1]; rfl)).trans h3, h4⟩⟩
theorem OwS.on {w w' : World} {base : Nat} {v : Value} {l : List (Int × Int × Int × Bool)} (h : OwS w base v l) (b : Below w.heap.size w w') : OwS w' base v l :=
  h.same fun q hq => b.block q (World.ownsRow.lt h q hq).2
theorem OwS.shape {w : World} {base : Nat} {v : Value} {l : List (Int × Int × Int × Bool)} (h : OwS w base v l) : ∃ a c, v = .slice a l.length c := by
  obtain ⟨_, ⟨rfl, h0⟩ | ⟨g, cap, cur, rfl, _⟩⟩ := h
  · exact ⟨none, 0, by rw [h0]⟩
  · exact ⟨_, _, rfl⟩
/-- the bus stays where what has turned lies behind it -/
theorem Bus.low {base B : Nat} {w w' : World} {v : Value} {k : Nat} {Pt : Nat → Nat} {t : Tks} {LF : Nat → Nat} {SE EC : Nat → Int} (h : Bus base w v k Pt t LF SE EC) (hb : Below B w w') (hP : ∀ i, i < k → Pt i < B) (hv : ∀ q, v.ownBlock = some q → q < B) : Bus base w' v k Pt t LF SE EC := by
  refine ⟨?_, fun i hi => Bx.below (h.sp i hi) hb (hP i hi), h.ge, h.nb, h.inj⟩
  obtain ⟨hl, h0 | ⟨g, cap, cur, h1, h2, h3, h4⟩⟩ := h.own
  · exact ⟨hl, .inl h0⟩
  · exact ⟨hl, .inr ⟨g, cap, cur, h1, h2, (hb.block g (hv g (by rw [h1]; rfl))).trans h3, h4⟩⟩
/-- what good talkers are -/
theorem tks_facts {t : Tks} {n : Nat} (h : tksB t n = true) (i : Nat) (hi : i < n) : t.qm i ≤ 8 ∧ (0 ≤ t.er i ∧ t.er i ≤ 255) ∧ ∀ j, j < t.qm i → 0 ≤ t.I i j ∧ t.I i j ≤ 2047 := by
  have hg : tgB t i = true := by
    cases e : tgB t i with
    | true => rfl
    | false => rw [tksB_no hi e] at h; cases h
  unfold tgB at hg
  by_cases hc : t.qm i ≤ 8 ∧ 1 ≤ t.sh i ∧ t.sh i ≤ 10 ∧ 0 ≤ t.er i ∧ t.er i ≤ 255
  · refine ⟨hc.1, ⟨hc.2.2.2.1, hc.2.2.2.2⟩, fun j hj => ?_⟩
    rw [tkB_in hc] at hg
    cases e : frB (t.I i j) (t.N i j) with
    | false => rw [frsB_no hj e] at hg; cases hg
    | true =>
      unfold frB at e
      simp only [Bool.and_eq_true] at e
      exact idB_of e.1
  · rw [tkB_no hc] at hg; cases hg
end Go.Proofs.Ytldagjgpapnfpaa
