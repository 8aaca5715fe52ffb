/- Lists of ints laid behind one another; a list and whether it is one. -/
import Derived.Test.YtjmdghkhapajiaaLqBase
namespace Go.Proofs.Ytjmdghkhapajiaa
open Go.RowKit
/-- f's numbers behind F's first k -/
def apF (F : Nat → Int) (k : Nat) (f : Nat → Int) (i : Nat) : Int := if i < k then F i else f (i - k)
theorem vL_app (F : Nat → Int) (k : Nat) (f : Nat → Int) (n : Nat) : vL (apF F k f) (k + n) = vL F k ++ vL f n := by
  induction n with
  | zero =>
    simp only [Nat.add_zero, vL, List.range_zero, List.map_nil, List.append_nil]
    exact List.map_congr_left fun i hi => by rw [apF, if_pos (List.mem_range.1 hi)]
  | succ n ih =>
    rw [← Nat.add_assoc, vL_succ, vL_succ, ih, List.append_assoc]
    congr 2
    rw [apF, if_neg (by omega), Nat.add_sub_cancel_left]
theorem own_app {w : World} {base : Nat} {v : Value} {k n : Nat} {F f : Nat → Int} (h : w.ownsRow base 3 1 v (k + n) (vL F k ++ vL f n)) : Own w base v (k + n) (apF F k f) := by
  unfold Own; rw [vL_app]; exact h
theorem own_cg {w : World} {base : Nat} {v : Value} {k : Nat} {F G : Nat → Int} (h : Own w base v k F) (e : ∀ i, i < k → F i = G i) : Own w base v k G := by
  have : vL F k = vL G k := List.map_congr_left fun i hi => by rw [e i (List.mem_range.1 hi)]
  unfold Own at *; rw [← this]; exact h
theorem own_app0 {w : World} {base : Nat} {v : Value} {n : Nat} {F f : Nat → Int} (h : w.ownsRow base 3 1 v (0 + n) (vL F 0 ++ vL f n)) : Own w base v n f := by
  have e : vL F 0 ++ vL f n = vL f n := by simp [vL]
  rw [e, Nat.zero_add] at h
  exact h
/-- the place of a list of a call's own, and its room -/
theorem own_at {w : World} {base : Nat} {v : Value} {k : Nat} {F : Nat → Int} (h : Own w base v k F) (hk : 0 < k) : ∃ g c, v = .slice (some ⟨g, 0, none⟩) k c ∧ base ≤ g ∧ k ≤ c ∧ IP w g k F := by
  have h' := h
  obtain ⟨_, ⟨_, h2⟩ | ⟨g, cap, cur, hv, hb, hg, h3, _⟩⟩ := h
  · omega
  · obtain ⟨g', c', e, h4, h5⟩ := h'.some hk
    rw [hv] at e
    cases e
    exact ⟨g, cap, hv, hb, h3, h5⟩
theorem slice1t (gb go m d : Nat) (hm : 1 ≤ m) (hd : m ≤ d) : ∃ A : Option Addr, (∀ w, (Instr.sliceAt 24 (.slice (some ⟨gb, go, none⟩) m d) (some (.int .i64 1)) none none).run Try.prog w = .ok (.slice A (m - 1) (d - 1)) w) ∧ (2 ≤ m → A = some ⟨gb, go + 1, none⟩) ∧ ∃ b o, A = some ⟨b, o, none⟩ := by
  refine ⟨if d = 1 then some ⟨gb, go, none⟩ else some ⟨gb, go + 1, none⟩, fun w => ?_, fun h => if_neg (by omega), ?_⟩
  · have he : Try.prog.elem 24 = 3 := by kernel_rfl
    have hu : Try.prog.underlying 24 = some (.slice (Try.prog.elem 24)) := by rw [he]; exact Try.underlying24
    rw [run_sliceAt_slice (h := hu), run_slice_l (ht := hu) (h0 := by omega) (h1 := by omega)]
    have e : Int.toNat 1 = 1 := rfl
    rw [e]
    have hsz : (sizeOf (Try.prog.elem 24)).run Try.prog w = .ok 1 w := by kernel_rfl
    rw [hsz]
    simp [Result.andThen, sliced, Addr.add]
  · split
    · exact ⟨_, _, rfl⟩
    · exact ⟨_, _, rfl⟩
theorem il_news {w : World} {b o n : Nat} {f : Nat → Int} (h : IL w (some ⟨b, o, none⟩) n f) : ∀ j u, (vL f n)[j]? = some u → w.cell? ((⟨b, o, none⟩ : Addr).add j) = some u := by
  intro j u hu
  have hj : j < n := by
    have := (List.getElem?_eq_some_iff.1 hu).1
    rw [vL_len] at this
    exact this
  obtain ⟨b', o', e, _, hc⟩ := h (by omega)
  cases e
  have hu2 := Option.some.inj ((vL_get (F := f) hj).symm.trans hu)
  rw [← hu2, Addr.add_lit]
  exact hc j hj
theorem vL_one (f : Nat → Int) (n : Nat) : ∀ u ∈ vL f n, u.oneCell' = true := by
  intro u hu
  obtain ⟨x, _, rfl⟩ := List.mem_map.1 hu
  rfl
theorem own_new0 (w : World) (base : Nat) (F : Nat → Int) (h : base ≤ w.heap.size) : Own (w.alloc (.cells #[] 3)) base (.slice (some ⟨w.heap.size, 0, none⟩) 0 0) 0 F :=
  World.ownsRow_made w #[] 0 h (by unfold maxLen; omega) rfl
theorem il_drop {w : World} {b o n : Nat} {f : Nat → Int} (h : IL w (some ⟨b, o, none⟩) (n + 1) f) : IL w (some ⟨b, o + 1, none⟩) n (fun i => f (i + 1)) := fun hn => by
  obtain ⟨b', o', e, h1, h2⟩ := h (by omega)
  cases e
  exact ⟨b, o + 1, rfl, h1, fun i hi => by have := h2 (i + 1) (by omega); rwa [show o + 1 + i = o + (i + 1) by omega]⟩
/-- the answer of a function that tells a list and whether it is one -/
def AnsTb (w w' : World) (e : Ending) (N : Nat) (F : Nat → Int) (q : Bool) : Prop := ∃ a' c', e = .returned (.tuple #[.slice a' N c', .bool q]) ∧ LQ w' w.heap.size w'.heap.size a' N F
theorem ansTb_nil (w w' : World) (F : Nat → Int) (q : Bool) : AnsTb w w' (.returned (.tuple #[.slice none 0 0, .bool q])) 0 F q := ⟨none, 0, rfl, lq_none _ _ _ _ _⟩
theorem ansTb_own {w w' : World} {a : Option Addr} {N c : Nat} {F : Nat → Int} {q : Bool} (h : Own w' w.heap.size (.slice a N c) N F) : AnsTb w w' (.returned (.tuple #[.slice a N c, .bool q])) N F q := ⟨a, c, rfl, h.lq⟩
end Go.Proofs.Ytjmdghkhapajiaa
