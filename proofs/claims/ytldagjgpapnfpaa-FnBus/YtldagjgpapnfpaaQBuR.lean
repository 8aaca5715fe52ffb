/- One number among those of a list, as the library looks for it (the chapter on wishes has the same text over its own names). -/
import Derived.Test.YtldagjgpapnfpaaQInCore
import Derived.Test.YtldagjgpapnfpaaQBuM
namespace Go.Proofs.Ytldagjgpapnfpaa
open Go.RowKit
/-- v is one of the first K -/
def hsB (F : Nat → Int) (K : Nat) (v : Int) : Bool := decide (∃ j, j < K ∧ F j = v)
theorem hsB_zero (F : Nat → Int) (v : Int) : hsB F 0 v = false := by
  unfold hsB
  exact decide_eq_false fun ⟨j, h, _⟩ => absurd h (Nat.not_lt_zero _)
theorem hsB_step (F : Nat → Int) (K : Nat) (v : Int) : hsB F (K + 1) v = (hsB F K v || decide (F K = v)) := by
  unfold hsB
  rw [← Bool.decide_or]
  refine decide_eq_decide.mpr ⟨?_, ?_⟩
  · rintro ⟨j, h, e⟩
    by_cases hj : j = K
    · subst hj; exact .inr e
    · exact .inl ⟨j, by omega, e⟩
  · rintro (⟨j, h, e⟩ | e)
    · exact ⟨j, by omega, e⟩
    · exact ⟨K, by omega, e⟩
set_option maxHeartbeats 2000000 in
theorem iIndexI (a : Option Addr) (n c : Nat) (F : Nat → Int) (v : Int) (w : World) (hn : n ≤ 1048576) (ha : IL w a n F) :
    Calls Try.prog 48 #[.slice a n c, .int .i64 v] w fun e w' => (∃ z : Int, e = .returned (.int .i64 z) ∧ hsB F n v = decide (0 ≤ z)) ∧ w' = w := by
  have HT : Hid (∀ k, k < n → (v == F k) = true → hsB F n v = true) := fun k hk h => by
    unfold hsB; exact decide_eq_true ⟨k, hk, (eq_of_beq h).symm⟩
  have HF : Hid (∀ k, hsB F k v = false → (v == F k) = false → hsB F (k + 1) v = false) := fun k h1 h2 => by
    rw [hsB_step, h1, decide_eq_false (fun e => by rw [e] at h2; simp at h2)]; rfl
  go_enter Try.func48, Try.ntmps48
  go_wp2
  go_loopw [8] (fun i wr => ∃ k : Nat, k ≤ n ∧ i = .int .i64 (k : Int) ∧ Hid (hsB F k v = false) ∧ wr = w) (fun i _ => n - (intOf i).toNat)
  case atStart => exact ⟨0, Nat.zero_le _, rfl, hsB_zero F v, rfl⟩
  case round =>
    obtain ⟨k, hk, rfl, HE, hw⟩ := hrel
    have hw' := hw.symm
    clear hw
    subst hw'
    by_cases hlt : k < n
    · obtain ⟨b1, o1, rfl, l1, hc1⟩ := ha (by omega)
      have y1 := hc1 k hlt
      have j0 : (0 : Int) ≤ (k : Int) := by omega
      have j1 : (k : Int) < (n : Int) := by omega
      have HT2 : Hid ((v == F k) = true → hsB F n v = true) := HT.out k hlt
      have HF2 : Hid ((v == F k) = false → hsB F (k + 1) v = false) := HF.out k HE.out
      clear hc1 ha HT HF HE
      generalize F k = X at *
      cases hx : (v == X) with
      | true =>
        have HR : Hid (hsB F n v = true) := HT2.out hx
        clear HT2 HF2
        go_wp2
        go_ret
        exact ⟨⟨(k : Int), rfl, by rw [HR.out]; simp⟩, rfl⟩
      | false =>
        have HR : Hid (hsB F (k + 1) v = false) := HF2.out hx
        clear HT2 HF2
        go_wp2
        exact ⟨⟨k + 1, by omega, by go_num, HR, trivial⟩, by simp [intOf]; omega⟩
    · have : k = n := by omega
      subst this
      go_wp2
      go_ret
      exact ⟨⟨-1, rfl, by rw [HE.out]; rfl⟩, rfl⟩
set_option maxHeartbeats 2000000 in
theorem iContI (a : Option Addr) (n c : Nat) (F : Nat → Int) (v : Int) (w : World) (hn : n ≤ 1048576) (ha : IL w a n F) :
    Calls Try.prog 29 #[.slice a n c, .int .i64 v] w fun e w' => e = .returned (.bool (hsB F n v)) ∧ w' = w := by
  have k := iIndexI a n c F v w hn ha
  generalize hsB F n v = B at *
  go_enter Try.func29, Try.ntmps29
  go_wp2_with fail
  refine k.mono ?_
  rintro e w2 ⟨⟨z, rfl, hz⟩, hw2⟩
  have hs2 := hw2.symm
  clear hw2 k
  subst hs2 hz
  go_wp2
  go_ret
  exact ⟨rfl, rfl⟩
end Go.Proofs.Ytldagjgpapnfpaa

/- What was sent, as a row of the call's own; the bus beside it (tools/gen_bur2.py; tools/draft_bur.txt goes on with RunBus' own loop). -/
namespace Go.Proofs.Ytldagjgpapnfpaa
open Go.RowKit
theorem infoSn : (Try.prog.info? 65).map (fun i => (i.zero, i.size, i.bytes)) = some (some (.agg #[.int .i64 0, .int .i64 0, .int .i64 0, .bool false]), 4, 32) := by kernel_rfl
/-- what was sent, as cells -/
def snC : List (Int × Int × Int × Bool) → List Value
  | [] => []
  | (a, b, c, d) :: l => .int .i64 a :: .int .i64 b :: .int .i64 c :: .bool d :: snC l
theorem snC_len : ∀ l, (snC l).length = l.length * 4
  | [] => rfl
  | (a, b, c, d) :: l => by simp [snC, snC_len l]; omega
theorem snC_app : ∀ (l : List (Int × Int × Int × Bool)) (a b c : Int) (d : Bool), snC (l ++ [(a, b, c, d)]) = snC l ++ [.int .i64 a, .int .i64 b, .int .i64 c, .bool d]
  | [], a, b, c, d => rfl
  | (p, q, r, s) :: l, a, b, c, d => by simp [snC, snC_app l]
theorem four_new (w : World) (p q r s : Value) (t : TypeId) : ∀ j u, [p, q, r, s][j]? = some u → (w.alloc (.cells #[p, q, r, s] t)).cell? ((⟨w.heap.size, 0, none⟩ : Addr).add j) = some u := by
  intro j u hu
  have hb := bx_new (w := w) [p, q, r, s] t rfl
  have hj : j < 4 := by simpa using (List.getElem?_eq_some_iff.1 hu).1
  have hc := hb.c j (by simpa using hj)
  rw [Addr.add_lit, Nat.zero_add, hc, ← hu]
def OwS (w : World) (base : Nat) (v : Value) (l : List (Int × Int × Int × Bool)) : Prop := w.ownsRow base 65 4 v l.length (snC l)
theorem OwS.same {w w' : World} {base : Nat} {v : Value} {l : List (Int × Int × Int × Bool)} (h : OwS w base v l) (hb : ∀ q, v.ownBlock = some q → w'.heap[q]? = w.heap[q]?) : OwS w' base v l := by
  obtain ⟨hl, h0 | ⟨g, cap, cur, h1, h2, h3, h4⟩⟩ := h
  · exact ⟨hl, .inl h0⟩
  · exact ⟨hl, .inr ⟨g, cap, cur, h1, h2, (hb g (by rw [h1]; rfl)).trans h3, h4⟩⟩
theorem OwS.on {w w' : World} {base : Nat} {v : Value} {l : List (Int × Int × Int × Bool)} (h : OwS w base v l) (b : Below w.heap.size w w') : OwS w' base v l :=
  h.same fun q hq => b.block q (World.ownsRow.lt h q hq).2
theorem OwS.shape {w : World} {base : Nat} {v : Value} {l : List (Int × Int × Int × Bool)} (h : OwS w base v l) : ∃ a c, v = .slice a l.length c := by
  obtain ⟨_, ⟨rfl, h0⟩ | ⟨g, cap, cur, rfl, _⟩⟩ := h
  · exact ⟨none, 0, by rw [h0]⟩
  · exact ⟨_, _, rfl⟩
/-- the bus stays where what has turned lies behind it -/
theorem Bus.low {base B : Nat} {w w' : World} {v : Value} {k : Nat} {Pt : Nat → Nat} {t : Tks} {LF : Nat → Nat} {SE EC : Nat → Int} (h : Bus base w v k Pt t LF SE EC) (hb : Below B w w') (hP : ∀ i, i < k → Pt i < B) (hv : ∀ q, v.ownBlock = some q → q < B) : Bus base w' v k Pt t LF SE EC := by
  refine ⟨?_, fun i hi => Bx.below (h.sp i hi) hb (hP i hi), h.ge, h.nb, h.inj⟩
  obtain ⟨hl, h0 | ⟨g, cap, cur, h1, h2, h3, h4⟩⟩ := h.own
  · exact ⟨hl, .inl h0⟩
  · exact ⟨hl, .inr ⟨g, cap, cur, h1, h2, (hb.block g (hv g (by rw [h1]; rfl))).trans h3, h4⟩⟩
/-- what good talkers are -/
theorem tks_facts {t : Tks} {n : Nat} (h : tksB t n = true) (i : Nat) (hi : i < n) : t.qm i ≤ 8 ∧ (0 ≤ t.er i ∧ t.er i ≤ 255) ∧ ∀ j, j < t.qm i → 0 ≤ t.I i j ∧ t.I i j ≤ 2047 := by
  have hg : tgB t i = true := by
    cases e : tgB t i with
    | true => rfl
    | false => rw [tksB_no hi e] at h; cases h
  unfold tgB at hg
  by_cases hc : t.qm i ≤ 8 ∧ 1 ≤ t.sh i ∧ t.sh i ≤ 10 ∧ 0 ≤ t.er i ∧ t.er i ≤ 255
  · refine ⟨hc.1, ⟨hc.2.2.2.1, hc.2.2.2.2⟩, fun j hj => ?_⟩
    rw [tkB_in hc] at hg
    cases e : frB (t.I i j) (t.N i j) with
    | false => rw [frsB_no hj e] at hg; cases hg
    | true =>
      unfold frB at e
      simp only [Bool.and_eq_true] at e
      exact idB_of e.1
  · rw [tkB_no hc] at hg; cases hg
end Go.Proofs.Ytldagjgpapnfpaa
