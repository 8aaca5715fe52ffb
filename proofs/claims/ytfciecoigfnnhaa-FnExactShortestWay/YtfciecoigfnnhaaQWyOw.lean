/- Openings in memory: a list of them that is the search's own. -/
import Derived.Test.YtfciecoigfnnhaaQWyHp
import Derived.Test.YtfciecoigfnnhaaQClVal
import Derived.Laws.OwnMore
import Derived.WalkSmall
import Derived.OneCell
namespace Go.Proofs.Ytfciecoigfnnhaa
open Go.RowKit

/-- an opening as a value -/
abbrev ov (x : Og) : Value := .agg #[.int .i64 x.p, .int .i64 x.a, .int .i64 x.b]
/-- openings by one flat index -/
def f3 (E : Nat → Og) (t : Nat) : Int := if t % 3 = 0 then (E (t / 3)).p else if t % 3 = 1 then (E (t / 3)).a else (E (t / 3)).b
theorem f3_0 (E : Nat → Og) (i : Nat) : f3 E (i * 3) = (E i).p := by
  have h1 : i * 3 % 3 = 0 := by omega
  have h2 : i * 3 / 3 = i := by omega
  simp [f3, h1, h2]
theorem f3_1 (E : Nat → Og) (i : Nat) : f3 E (i * 3 + 1) = (E i).a := by
  have h1 : (i * 3 + 1) % 3 = 1 := by omega
  have h2 : (i * 3 + 1) / 3 = i := by omega
  simp [f3, h1, h2]
theorem f3_2 (E : Nat → Og) (i : Nat) : f3 E (i * 3 + 2) = (E i).b := by
  have h1 : (i * 3 + 2) % 3 = 2 := by omega
  have h2 : (i * 3 + 2) / 3 = i := by omega
  simp [f3, h1, h2]
theorem f3_pt (E : Nat → Og) (i : Nat) (x : Og) : f3 (ptO E i x) = put (put (put (f3 E) (i * 3) x.p) (i * 3 + 1) x.a) (i * 3 + 2) x.b := by
  funext t
  unfold put
  by_cases e : t / 3 = i
  · have ht : t = i * 3 ∨ t = i * 3 + 1 ∨ t = i * 3 + 2 := by omega
    rcases ht with rfl | rfl | rfl
    · rw [f3_0, ptO_i]; simp
    · rw [f3_1, ptO_i]; simp
    · rw [f3_2, ptO_i]; simp
  · have h1 : t ≠ i * 3 + 2 := by omega
    have h2 : t ≠ i * 3 + 1 := by omega
    have h3 : t ≠ i * 3 := by omega
    simp only [h1, h2, h3, if_false]
    unfold f3
    rw [ptO_o E x e]
/-- the slice v is the search's own, with the first m openings of E -/
def OwO (w : World) (base : Nat) (v : Value) (m : Nat) (E : Nat → Og) : Prop := w.ownsRow base 117 3 v m (vL (f3 E) (m * 3))
theorem OwO.get {w : World} {base : Nat} {v : Value} {m : Nat} {E : Nat → Og} (h : OwO w base v m E) (hm : 0 < m) : ∃ g cap, v = .slice (some ⟨g, 0, none⟩) m cap ∧ base ≤ g ∧ m ≤ cap ∧ IP w g (m * 3) (f3 E) := by
  have h' := h
  obtain ⟨_, h0 | ⟨g, cap, cur, rfl, h2, h3, h4, _⟩⟩ := h
  · omega
  · have hlt : g < w.heap.size := (Array.getElem?_eq_some_iff.1 h3).1
    refine ⟨g, cap, rfl, h2, h4, hlt, fun i hi => ?_, fun j => World.ownsRow.frozenAt h' j⟩
    rw [World.ownsRow.cellAt h' i (by omega)]; exact vL_get hi
theorem OwO.shape {w : World} {base : Nat} {v : Value} {m : Nat} {E : Nat → Og} (h : OwO w base v m E) : ∃ a cap, v = .slice a m cap := by
  obtain ⟨_, ⟨rfl, rfl⟩ | ⟨g, cap, cur, rfl, _⟩⟩ := h
  · exact ⟨_, _, rfl⟩
  · exact ⟨_, _, rfl⟩
theorem OwO.below {w w' : World} {base : Nat} {v : Value} {m : Nat} {E : Nat → Og} (h : OwO w base v m E) (b : Below w.heap.size w w') : OwO w' base v m E := by
  obtain ⟨hl, h⟩ := h
  refine ⟨hl, ?_⟩
  rcases h with h | ⟨g, cap, cur, h1, h2, h3, h4⟩
  · exact .inl h
  · have hg : g < w.heap.size := (Array.getElem?_eq_some_iff.1 h3).1
    exact .inr ⟨g, cap, cur, h1, h2, (b.block g hg).trans h3, h4⟩
theorem OwO.far {w : World} {base : Nat} {v : Value} {m : Nat} {E : Nat → Og} (h : OwO w base v m E) {a : Addr} (ha : a.block < base) (u : Value) : OwO (w.setCell a u) base v m E := ownsRow_setCell_below h ha u
/-- blocks from base on, but none that lies lower, may have turned -/
theorem OwO.only {w w' : World} {base : Nat} {v : Value} {m : Nat} {E : Nat → Og} (h : OwO w base v m E) (e : ∀ k, k < w.heap.size → base ≤ k → w'.heap[k]? = w.heap[k]?) : OwO w' base v m E := by
  obtain ⟨hl, h⟩ := h
  refine ⟨hl, ?_⟩
  rcases h with h | ⟨g, cap, cur, h1, h2, h3, h4⟩
  · exact .inl h
  · have hg : g < w.heap.size := (Array.getElem?_eq_some_iff.1 h3).1
    exact .inr ⟨g, cap, cur, h1, h2, (e g hg h2).trans h3, h4⟩
theorem vL_set (F : Nat → Int) (n k : Nat) (x : Int) : (vL F n).set k (.int .i64 x) = vL (put F k x) n := by
  apply List.ext_getElem?
  intro i
  by_cases hi : i < n
  · rw [vL_get hi]
    by_cases e : k = i
    · subst e
      rw [List.getElem?_set_self (by rw [vL_len]; exact hi)]
      simp [put]
    · rw [List.getElem?_set_ne e, vL_get hi]
      have : ¬ i = k := fun h => e h.symm
      simp [put, this]
  · rw [List.getElem?_eq_none (by rw [List.length_set, vL_len]; omega), List.getElem?_eq_none (by rw [vL_len]; omega)]
/-- one of them is stored -/
theorem OwO.set {w : World} {base g cap m : Nat} {E : Nat → Og} (h : OwO w base (.slice (some ⟨g, 0, none⟩) m cap) m E) (i : Nat) (x : Og) :
    OwO (((w.setCell ⟨g, i * 3, none⟩ (.int .i64 x.p)).setCell ⟨g, i * 3 + 1, none⟩ (.int .i64 x.a)).setCell ⟨g, i * 3 + 2, none⟩ (.int .i64 x.b)) base (.slice (some ⟨g, 0, none⟩) m cap) m (ptO E i x) := by
  have h1 := (World.ownsRow.stored h (i * 3) (.int .i64 x.p)).1
  have h2 := (World.ownsRow.stored h1 (i * 3 + 1) (.int .i64 x.a)).1
  have h3 := (World.ownsRow.stored h2 (i * 3 + 2) (.int .i64 x.b)).1
  rw [vL_set, vL_set, vL_set, ← f3_pt] at h3
  exact h3
theorem vL_app3 (E : Nat → Og) (m : Nat) (x : Og) : vL (f3 E) (m * 3) ++ [.int .i64 x.p, .int .i64 x.a, .int .i64 x.b] = vL (f3 (ptO E m x)) ((m + 1) * 3) := by
  have e : (m + 1) * 3 = m * 3 + 1 + 1 + 1 := by omega
  rw [e, vL_succ, vL_succ, vL_succ]
  have hc : vL (f3 (ptO E m x)) (m * 3) = vL (f3 E) (m * 3) := by
    unfold vL
    refine List.map_congr_left fun t ht => ?_
    have ht' := List.mem_range.1 ht
    unfold f3
    rw [ptO_o E x (by omega)]
  have e2 : m * 3 + 1 + 1 = m * 3 + 2 := rfl
  rw [hc, e2, f3_0, f3_1, f3_2, ptO_i]
  simp
/-- one is appended -/
theorem owO_snoc {w : World} {base : Nat} {v : Value} {m : Nat} {E : Nat → Og} {x : Og} (h : w.ownsRow base 117 3 v (m + 1) (vL (f3 E) (m * 3) ++ [.int .i64 x.p, .int .i64 x.a, .int .i64 x.b])) : OwO w base v (m + 1) (ptO E m x) := by
  unfold OwO; rw [← vL_app3]; exact h
theorem vL_cut (F : Nat → Int) (a b : Nat) : vL F (a + b) = vL F a ++ (List.range b).map (fun i => .int .i64 (F (a + i))) := by
  unfold vL
  rw [List.range_add, List.map_append, List.map_map]
  rfl
/-- the last one is cut off -/
theorem OwO.pop {w : World} {base g cap m : Nat} {E : Nat → Og} (h : OwO w base (.slice (some ⟨g, 0, none⟩) (m + 1) cap) (m + 1) E) : OwO w base (.slice (some ⟨g, 0, none⟩) m cap) m E := by
  unfold OwO at h
  have e : (m + 1) * 3 = m * 3 + 3 := by omega
  rw [e, vL_cut] at h
  exact ownsRow_pop (by rw [vL_len]) h
theorem OwO.congr {w : World} {base : Nat} {v : Value} {m : Nat} {E F : Nat → Og} (h : OwO w base v m E) (e : ∀ i, i < m → E i = F i) : OwO w base v m F := by
  have : vL (f3 E) (m * 3) = vL (f3 F) (m * 3) := by
    unfold vL
    refine List.map_congr_left fun t ht => ?_
    have ht' := List.mem_range.1 ht
    unfold f3
    rw [e (t / 3) (by omega)]
  unfold OwO at h ⊢
  rw [← this]
  exact h
theorem sw_pt (E : Nat → Og) (i j : Nat) : swO E i j = ptO (ptO E j (E i)) i (E j) := by
  funext k
  unfold swO ptO
  rfl

set_option maxHeartbeats 1000000 in
theorem ahead_any (x y : Og) (w : World) (hx : BdO x) (hy : BdO y) (kc : ∀ w, Calls Try.prog 54 #[.agg #[.int .i64 x.a, .int .i64 x.b], .agg #[.int .i64 y.a, .int .i64 y.b]] w fun e w' => e = .returned (.int .i64 (cmpV (x.a - y.a) (x.b - y.b))) ∧ Below w.heap.size w w') :
    Calls Try.prog 132 #[ov x, ov y] w fun e w' => e = .returned (.bool (decide (ko x < ko y))) ∧ Below w.heap.size w w' := by
  have hb0 : Below w.heap.size w ((w.alloc (.cells #[.int .i64 x.p, .int .i64 x.a, .int .i64 x.b] 117)).alloc (.cells #[.int .i64 y.p, .int .i64 y.a, .int .i64 y.b] 117)) := ((Below.refl _ _).alloc (Nat.le_refl _) _).alloc (by simp) _
  rw [← ah_key hx hy]
  unfold ahB
  generalize cmpV (x.a - y.a) (x.b - y.b) = v at kc ⊢
  go_enter Try.func132, Try.ntmps132
  go_wp2_with fail
  refine (kc _).mono ?_
  rintro e9 w1 ⟨rfl, hb1⟩
  have hB1 := stepA hb0 hb1
  go_wp2
  go_ret
  exact ⟨rfl, hB1⟩
end Go.Proofs.Ytfciecoigfnnhaa
