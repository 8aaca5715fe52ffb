/- The next cell of the least list. -/
import Derived.Test.YtfciecoigfnnhaaQWyMs
import Derived.BigRegion
import Derived.Deep.RegionHeld
import Derived.Deep.RegionHeld3
namespace Go.Proofs.Ytfciecoigfnnhaa
open Go.RowKit

theorem eq_toll (a b c d : Int) (w : World) : (Op.equalIn 10000 88 (tl a b) (tl c d)).run Try.prog w = .ok (decide (a = c) && decide (b = d)) w := by
  have hf : Try.prog.underlying 88 = some (.struct (Try.prog.fieldsOf 88)) := by
    have h := Try.underlying88
    unfold Program.fieldsOf
    rw [h]
  rw [run_equalIn_struct w 9999 88 _ _ hf (by kernel_rfl)]
  have hp : ∀ (xs : Array Value) (k : Nat) (v : Int), xs[k]? = some (.int .i64 v) → ∀ w, (part 3 xs k).run Try.prog w = .ok (.int .i64 v) w := by
    intro xs k v h w
    simp [part, go_sem, h]
  have he : ∀ (x y : Int) (w : World), (Op.equalIn 9999 3 (.int .i64 x) (.int .i64 y)).run Try.prog w = .ok (x == y) w := fun x y w => run_equalIn_int w 9998 3 .i64 .i64 x y Try.underlying3
  have q0 := hp #[.int .i64 a, .int .i64 b] 0 a rfl
  have q1 := hp #[.int .i64 a, .int .i64 b] 1 b rfl
  have z0 := hp #[.int .i64 c, .int .i64 d] 0 c rfl
  have z1 := hp #[.int .i64 c, .int .i64 d] 1 d rfl
  unfold Program.fieldsOf
  rw [Try.underlying88]
  simp [Op.eqFields, Sem.run_bind, q0, q1, z0, z1, Result.andThen_ok, he, Sem.run_ite, Sem.run_pure]
  by_cases h1 : a = c
  · by_cases h2 : b = d <;> simp [h1, h2]
  · simp [h1]
/-- whether a way may go on, by tolls -/
theorem okB_toll {st : Nat → Nat → Int} {n tt : Nat} {A B : Nat → Int} (h : Dst st n tt A B) (hsy : ∀ i k, st i k = st k i) (hin : ∀ i k, st i k = 0 ∨ st i k = 1 ∨ st i k = 2) (hlt : ∀ i k, st i k ≠ 0 → i < n ∧ k < n) {i k : Nat} (hi : i < n) (h0 : 0 ≤ A i) (hk : k < n) (hs : st i k ≠ 0) :
    0 ≤ A k ∧ okB st A B i k = (decide (A k + stA (st i k) = A i) && decide (B k + stC (st i k) = B i)) := by
  have hr := h.reach hsy hin hlt h0 hs
  refine ⟨hr, ?_⟩
  have b1 := h.bnd i hi h0
  have b2 := h.bnd k hk hr
  have e : okB st A B i k = decide (ky (A k) (B k) + wt (st i k) = ky (A i) (B i)) := by simp [okB, hs, hr]
  rw [e]
  have key : (ky (A k) (B k) + wt (st i k) = ky (A i) (B i)) ↔ (A k + stA (st i k) = A i ∧ B k + stC (st i k) = B i) := by
    rcases hin i k with q | q | q
    · exact absurd q hs
    · have e1 : wt (st i k) = 408 := by rw [q]; rfl
      have e2 : stA (st i k) = 1 := by rw [q]; rfl
      have e3 : stC (st i k) = 0 := by rw [q]; rfl
      rw [e1, e2, e3]
      constructor
      · intro hh
        have := ky_inj (a := A k + 1) (b := B k) (c := A i) (d := B i) (by omega) (by omega) (by unfold ky at *; omega)
        omega
      · rintro ⟨g1, g2⟩
        unfold ky
        omega
    · have e1 : wt (st i k) = 577 := by rw [q]; rfl
      have e2 : stA (st i k) = 0 := by rw [q]; rfl
      have e3 : stC (st i k) = 1 := by rw [q]; rfl
      rw [e1, e2, e3]
      constructor
      · intro hh
        have := ky_inj (a := A k) (b := B k + 1) (c := A i) (d := B i) (by omega) (by omega) (by unfold ky at *; omega)
        omega
      · rintro ⟨g1, g2⟩
        unfold ky
        omega
  rw [decide_eq_decide.2 key, Bool.decide_and]
theorem okB_end {st : Nat → Nat → Int} {n tt : Nat} {A B : Nat → Int} (h : Dst st n tt A B) (ht : tt < n) {k : Nat} (hk : k < n) : okB st A B tt k = false := by
  cases e : okB st A B tt k with
  | false => rfl
  | true =>
    obtain ⟨_, o2, o3⟩ := okB_t.1 e
    have l := (h.least tt 0 0 ht .nil).2
    have b := h.bnd k hk o2
    have w := wt_pos (st tt k)
    unfold ky at *
    omega
/-- the answer: the next one, or that there is none -/
def AnsN (st : Nat → Nat → Int) (n : Nat) (A B : Nat → Int) (tt i : Nat) (e : Ending) : Prop :=
  ∃ (k : Int) (b : Bool), e = .returned (.tuple #[.int .i64 k, .bool b]) ∧ ((b = true ∧ ∃ kn : Nat, k = (kn : Int) ∧ i ≠ tt ∧ Nx st n A B i kn) ∨ (b = false ∧ i = tt))
theorem ansN_no {st : Nat → Nat → Int} {n tt : Nat} {A B : Nat → Int} (h : Dst st n tt A B) (hlt : ∀ i k, st i k ≠ 0 → i < n ∧ k < n) {i : Nat} (hi : i < n) (h0 : 0 ≤ A i) {l : List Int} (hl : ∀ k : Nat, k < n → st i k ≠ 0 → (k : Int) ∈ l) (hno : ∀ t, t < l.length → okB st A B i (gl l t).toNat = false) :
    AnsN st n A B tt i (.returned (.tuple #[.int .i64 0, .bool false])) := by
  refine ⟨0, false, rfl, .inr ⟨rfl, ?_⟩⟩
  by_cases e : i = tt
  · exact e
  · obtain ⟨k, hk, ho⟩ := h.next hlt hi h0 e
    obtain ⟨t, ht, e2⟩ := mem_gl (hl k hk (okB_t.1 ho).1)
    have := hno t ht
    rw [e2, Int.toNat_natCast, ho] at this
    cases this
theorem ansN_yes {st : Nat → Nat → Int} {n tt : Nat} {A B : Nat → Int} (h : Dst st n tt A B) (hlt : ∀ i k, st i k ≠ 0 → i < n ∧ k < n) (htn : tt < n) {i k j : Nat} {l : List Int} (hk : k < n) (hl : ∀ k : Nat, k < n → st i k ≠ 0 → (k : Int) ∈ l) (hr : ∀ p q, p < q → q < l.length → gl l p < gl l q) (hno : ∀ t, t < j → okB st A B i (gl l t).toNat = false) (hj : j < l.length) (hkv : gl l j = (k : Int)) (ho : okB st A B i k = true) :
    AnsN st n A B tt i (.returned (.tuple #[.int .i64 (k : Int), .bool true])) := by
  refine ⟨k, true, rfl, .inl ⟨rfl, k, rfl, ?_, hk, ho, fun x hx => ?_⟩⟩
  · intro e
    subst e
    rw [okB_end h htn hk] at ho
    cases ho
  · cases e : okB st A B i x with
    | false => rfl
    | true =>
      have hs := (okB_t.1 e).1
      obtain ⟨t, ht, e2⟩ := mem_gl (hl x (hlt i x hs).2 hs)
      have htj : t < j := by
        rcases Nat.lt_or_ge t j with q | q
        · exact q
        · rcases Nat.lt_or_ge j t with q2 | q2
          · have := hr j t q2 ht; omega
          · have : t = j := by omega
            subst this
            omega
      have := hno t htj
      rw [e2, Int.toNat_natCast, e] at this
      cases this
end Go.Proofs.Ytfciecoigfnnhaa
