/- Openings in memory: a list of them that is the search's own. -/
import Derived.Test.YtfciecoigfnnhaaQWyHp
import Derived.Test.YtfciecoigfnnhaaQClVal
import Derived.Laws.OwnMore
import Derived.WalkSmall
import Derived.OneCell
namespace Go.Proofs.Ytfciecoigfnnhaa
open Go.RowKit

/-- an opening as a value -/
abbrev ov (x : Og) : Value := .agg #[.int .i64 x.p, .int .i64 x.a, .int .i64 x.b]
/-- openings by one flat index -/
def f3 (E : Nat → Og) (t : Nat) : Int := if t % 3 = 0 then (E (t / 3)).p else if t % 3 = 1 then (E (t / 3)).a else (E (t / 3)).b
theorem f3_0 (E : Nat → Og) (i : Nat) : f3 E (i * 3) = (E i).p := by
  have h1 : i * 3 % 3 = 0 := by omega
  have h2 : i * 3 / 3 = i := by omega
  simp [f3, h1, h2]
theorem f3_1 (E : Nat → Og) (i : Nat) : f3 E (i * 3 + 1) = (E i).a := by
  have h1 : (i * 3 + 1) % 3 = 1 := by omega
  have h2 : (i * 3 + 1) / 3 = i := by omega
  simp [f3, h1, h2]
theorem f3_2 (E : Nat → Og) (i : Nat) : f3 E (i * 3 + 2) = (E i).b := by
  have h1 : (i * 3 + 2) % 3 = 2 := by omega
  have h2 : (i * 3 + 2) / 3 = i := by omega
  simp [f3, h1, h2]
theorem f3_pt (E : Nat → Og) (i : Nat) (x : Og) : f3 (ptO E i x) = put (put (put (f3 E) (i * 3) x.p) (i * 3 + 1) x.a) (i * 3 + 2) x.b := by
  funext t
  unfold put
  by_cases e : t / 3 = i
  · have ht : t = i * 3 ∨ t = i * 3 + 1 ∨ t = i * 3 + 2 := by omega
    rcases ht with rfl | rfl | rfl
    · rw [f3_0, ptO_i]; simp
    · rw [f3_1, ptO_i]; simp
    · rw [f3_2, ptO_i]; simp
  · have h1 : t ≠ i * 3 + 2 := by omega
    have h2 : t ≠ i * 3 + 1 := by omega
    have h3 : t ≠ i * 3 := by omega
    simp only [h1, h2, h3, if_false]
    unfold f3
    rw [ptO_o E x e]
/-- the slice v is the search's own, with the first m openings of E -/
def OwO (w : World) (base : Nat) (v : Value) (m : Nat) (E : Nat → Og) : Prop := w.ownsRow base 117 3 v m (vL (f3 E) (m * 3))
theorem OwO.get {w : World} {base : Nat} {v : Value} {m : Nat} {E : Nat → Og} (h : OwO w base v m E) (hm : 0 < m) : ∃ g cap, v = .slice (some ⟨g, 0, none⟩) m cap ∧ base ≤ g ∧ m ≤ cap ∧ IP w g (m * 3) (f3 E) := by
  have h' := h
  obtain ⟨_, h0 | ⟨g, cap, cur, rfl, h2, h3, h4, _⟩⟩ := h
  · omega
  · have hlt : g < w.heap.size := (Array.getElem?_eq_some_iff.1 h3).1
    refine ⟨g, cap, rfl, h2, h4, hlt, fun i hi => ?_, fun j => World.ownsRow.frozenAt h' j⟩
    rw [World.ownsRow.cellAt h' i (by omega)]; exact vL_get hi
theorem OwO.shape {w : World} {base : Nat} {v : Value} {m : Nat} {E : Nat → Og} (h : OwO w base v m E) : ∃ a cap, v = .slice a m cap := by
  obtain ⟨_, ⟨rfl, rfl⟩ | ⟨g, cap, cur, rfl, _⟩⟩ := h
  · exact ⟨_, _, rfl⟩
  · exact ⟨_, _, rfl⟩
theorem OwO.below {w w' : World} {base : Nat} {v : Value} {m : Nat} {E : Nat → Og} (h : OwO w base v m E) (b : Below w.heap.size w w') : OwO w' base v m E := by
  obtain ⟨hl, h⟩ := h
  refine ⟨hl, ?_⟩
  rcases h with h | ⟨g, cap, cur, h1, h2, h3, h4⟩
  · exact .inl h
  · have hg : g < w.heap.size := (Array.getElem?_eq_some_iff.1 h3).1
    exact .inr ⟨g, cap, cur, h1, h2, (b.block g hg).trans h3, h4⟩
theorem OwO.far {w : World} {base : Nat} {v : Value} {m : Nat} {E : Nat → Og} (h : OwO w base v m E) {a : Addr} (ha : a.block < base) (u : Value) : OwO (w.setCell a u) base v m E := ownsRow_setCell_below h ha u
/-- blocks from base on, but none that lies lower, may have turned -/
theorem OwO.only {w w' : World} {base : Nat} {v : Value} {m : Nat} {E : Nat → Og} (h : OwO w base v m E) (e : ∀ k, k < w.heap.size → base ≤ k → w'.heap[k]? = w.heap[k]?) : OwO w' base v m E := by
  obtain ⟨hl, h⟩ := h
  refine ⟨hl, ?_⟩
  rcases h with h | ⟨g, cap, cur, h1, h2, h3, h4⟩
  · exact .inl h
  · have hg : g < w.heap.size := (Array.getElem?_eq_some_iff.1 h3).1
    exact .inr ⟨g, cap, cur, h1, h2, (e g hg h2).trans h3, h4⟩
theorem vL_set (F : Nat → Int) (n k : Nat) (x : Int) : (vL F n).set k (.int .i64 x) = vL (put F k x) n := by
  apply List.ext_getElem?
  intro i
  by_cases hi : i < n
  · rw [vL_get hi]
    by_cases e : k = i
    · subst e
      rw [List.getElem?_set_self (by rw [vL_len]; exact hi)]
      simp [put]
    · rw [List.getElem?_set_ne e, vL_get hi]
      have : ¬ i = k := fun h => e h.symm
      simp [put, this]
  · rw [List.getElem?_eq_none (by rw [List.length_set, vL_len]; omega), List.getElem?_eq_none (by rw [vL_len]; omega)]
/-- one of them is stored -/
theorem OwO.set {w : World} {base g cap m : Nat} {E : Nat → Og} (h : OwO w base (.slice (some ⟨g, 0, none⟩) m cap) m E) (i : Nat) (x : Og) :
    OwO (((w.setCell ⟨g, i * 3, none⟩ (.int .i64 x.p)).setCell ⟨g, i * 3 + 1, none⟩ (.int .i64 x.a)).setCell ⟨g, i * 3 + 2, none⟩ (.int .i64 x.b)) base (.slice (some ⟨g, 0, none⟩) m cap) m (ptO E i x) := by
  have h1 := (World.ownsRow.stored h (i * 3) (.int .i64 x.p)).1
  have h2 := (World.ownsRow.stored h1 (i * 3 + 1) (.int .i64 x.a)).1
  have h3 := (World.ownsRow.stored h2 (i * 3 + 2) (.int .i64 x.b)).1
  rw [vL_set, vL_set, vL_set, ← f3_pt] at h3
  exact h3
theorem vL_app3 (E : Nat → Og) (m : Nat) (x : Og) : vL (f3 E) (m * 3) ++ [.int .i64 x.p, .int .i64 x.a, .int .i64 x.b] = vL (f3 (ptO E m x)) ((m + 1) * 3) := by
  have e : (m + 1) * 3 = m * 3 + 1 + 1 + 1 := by omega
  rw [e, vL_succ, vL_succ, vL_succ]
  have hc : vL (f3 (ptO E m x)) (m * 3) = vL (f3 E) (m * 3) := by
    unfold vL
    refine List.map_congr_left fun t ht => ?_
    have ht' := List.mem_range.1 ht
    unfold f3
    rw [ptO_o E x (by omega)]
  have e2 : m * 3 + 1 + 1 = m * 3 + 2 := rfl
  rw [hc, e2, f3_0, f3_1, f3_2, ptO_i]
  simp
/-- one is appended -/
theorem owO_snoc {w : World} {base : Nat} {v : Value} {m : Nat} {E : Nat → Og} {x : Og} (h : w.ownsRow base 117 3 v (m + 1) (vL (f3 E) (m * 3) ++ [.int .i64 x.p, .int .i64 x.a, .int .i64 x.b])) : OwO w base v (m + 1) (ptO E m x) := by
  unfold OwO; rw [← vL_app3]; exact h
theorem vL_cut (F : Nat → Int) (a b : Nat) : vL F (a + b) = vL F a ++ (List.range b).map (fun i => .int .i64 (F (a + i))) := by
  unfold vL
  rw [List.range_add, List.map_append, List.map_map]
  rfl
/-- the last one is cut off -/
theorem OwO.pop {w : World} {base g cap m : Nat} {E : Nat → Og} (h : OwO w base (.slice (some ⟨g, 0, none⟩) (m + 1) cap) (m + 1) E) : OwO w base (.slice (some ⟨g, 0, none⟩) m cap) m E := by
  unfold OwO at h
  have e : (m + 1) * 3 = m * 3 + 3 := by omega
  rw [e, vL_cut] at h
  exact ownsRow_pop (by rw [vL_len]) h
theorem OwO.congr {w : World} {base : Nat} {v : Value} {m : Nat} {E F : Nat → Og} (h : OwO w base v m E) (e : ∀ i, i < m → E i = F i) : OwO w base v m F := by
  have : vL (f3 E) (m * 3) = vL (f3 F) (m * 3) := by
    unfold vL
    refine List.map_congr_left fun t ht => ?_
    have ht' := List.mem_range.1 ht
    unfold f3
    rw [e (t / 3) (by omega)]
  unfold OwO at h ⊢
  rw [← this]
  exact h
theorem sw_pt (E : Nat → Og) (i j : Nat) : swO E i j = ptO (ptO E j (E i)) i (E j) := by
  funext k
  unfold swO ptO
  rfl

set_option maxHeartbeats 1000000 in
theorem ahead_any (x y : Og) (w : World) (hx : BdO x) (hy : BdO y) (kc : ∀ w, Calls Try.prog 54 #[.agg #[.int .i64 x.a, .int .i64 x.b], .agg #[.int .i64 y.a, .int .i64 y.b]] w fun e w' => e = .returned (.int .i64 (cmpV (x.a - y.a) (x.b - y.b))) ∧ Below w.heap.size w w') :
    Calls Try.prog 132 #[ov x, ov y] w fun e w' => e = .returned (.bool (decide (ko x < ko y))) ∧ Below w.heap.size w w' := by
  have hb0 : Below w.heap.size w ((w.alloc (.cells #[.int .i64 x.p, .int .i64 x.a, .int .i64 x.b] 117)).alloc (.cells #[.int .i64 y.p, .int .i64 y.a, .int .i64 y.b] 117)) := ((Below.refl _ _).alloc (Nat.le_refl _) _).alloc (by simp) _
  rw [← ah_key hx hy]
  unfold ahB
  generalize cmpV (x.a - y.a) (x.b - y.b) = v at kc ⊢
  go_enter Try.func132, Try.ntmps132
  go_wp2_with fail
  refine (kc _).mono ?_
  rintro e9 w1 ⟨rfl, hb1⟩
  have hB1 := stepA hb0 hb1
  go_wp2
  go_ret
  exact ⟨rfl, hB1⟩
end Go.Proofs.Ytfciecoigfnnhaa

/- The heap of openings within the search, and what its functions leave as it was. -/
namespace Go.Proofs.Ytfciecoigfnnhaa
open Go.RowKit

/-- the heap lies in the fifth cell of the block Sb, its openings in blocks from base on -/
structure Hs (w : World) (base Sb m : Nat) (E : Nat → Og) : Prop where
  sb : Sb < base
  le : base ≤ w.heap.size
  v : ∃ v, w.cell? ⟨Sb, 5, none⟩ = some v ∧ OwO w base v m E
  fz : w.frozen? ⟨Sb, 5, none⟩ = false
  all : AllO m E
  ok : m ≤ 1048576
/-- what the heap's functions leave as it was -/
structure Ht (base Sb : Nat) (w w' : World) : Prop where
  os : w'.os = w.os
  tape : w'.tape = w.tape
  output : w'.output = w.output
  size : w.heap.size ≤ w'.heap.size
  block : ∀ k, k < base → k ≠ Sb → w'.heap[k]? = w.heap[k]?
  sbc : ∀ j, j ≠ 5 → w'.cell? ⟨Sb, j, none⟩ = w.cell? ⟨Sb, j, none⟩
  sbf : ∀ j, w'.frozen? ⟨Sb, j, none⟩ = w.frozen? ⟨Sb, j, none⟩
theorem Ht.refl (base Sb : Nat) (w : World) : Ht base Sb w w := ⟨rfl, rfl, rfl, Nat.le_refl _, fun _ _ _ => rfl, fun _ _ => rfl, fun _ => rfl⟩
theorem Ht.trans {base Sb : Nat} {w w' w'' : World} (h : Ht base Sb w w') (k : Ht base Sb w' w'') : Ht base Sb w w'' :=
  ⟨k.os.trans h.os, k.tape.trans h.tape, k.output.trans h.output, Nat.le_trans h.size k.size, fun c h1 h2 => (k.block c h1 h2).trans (h.block c h1 h2), fun j hj => (k.sbc j hj).trans (h.sbc j hj), fun j => (k.sbf j).trans (h.sbf j)⟩
theorem ht_below {base Sb : Nat} {w w' : World} (h : Below w.heap.size w w') (hb : base ≤ w.heap.size) (hs : Sb < base) : Ht base Sb w w' :=
  ⟨h.os, h.tape, h.output, h.size, fun k h1 _ => h.block k (by omega), fun j _ => h.cell (p := ⟨Sb, j, none⟩) (by simp; omega), fun j => h.frozen (p := ⟨Sb, j, none⟩) (by simp; omega)⟩
theorem Ht.set {base Sb g j : Nat} {w w' : World} (h : Ht base Sb w w') (hg : base ≤ g) (hs : Sb < base) (v : Value) : Ht base Sb w (w'.setCell ⟨g, j, none⟩ v) :=
  h.trans ⟨rfl, rfl, rfl, by simp, fun k h1 _ => Below.heap_setCell w' ⟨g, j, none⟩ v k (by simp; omega), fun i _ => cell_same (Below.heap_setCell w' ⟨g, j, none⟩ v Sb (by simp; omega)) i, fun i => frozen_same (Below.heap_setCell w' ⟨g, j, none⟩ v Sb (by simp; omega)) i⟩
theorem Ht.hd {base Sb : Nat} {w w' : World} (h : Ht base Sb w w') (v : Value) : Ht base Sb w (w'.setCell ⟨Sb, 5, none⟩ v) :=
  h.trans ⟨rfl, rfl, rfl, by simp, fun k _ h2 => Below.heap_setCell w' ⟨Sb, 5, none⟩ v k (by simpa using h2), fun i hi => World.cell?_setCell_other _ _ _ _ (by simp <;> omega), fun i => by simp⟩
theorem Hs.on {w w' : World} {base Sb m : Nat} {E : Nat → Og} (h : Hs w base Sb m E) (k : Below w.heap.size w w') : Hs w' base Sb m E := by
  obtain ⟨v, h1, h2⟩ := h.v
  have hs : Sb < w.heap.size := Nat.lt_of_lt_of_le h.sb h.le
  exact ⟨h.sb, Nat.le_trans h.le k.size, ⟨v, (k.cell (p := ⟨Sb, 5, none⟩) hs).trans h1, h2.below k⟩, (k.frozen (p := ⟨Sb, 5, none⟩) hs).trans h.fz, h.all, h.ok⟩
/-- another block of the search's turned -/
theorem Hs.turn {w w' : World} {base Sb m : Nat} {E : Nat → Og} (h : Hs w base Sb m E) (e : ∀ k, k < w.heap.size → base ≤ k → w'.heap[k]? = w.heap[k]?) (c : w'.cell? ⟨Sb, 5, none⟩ = w.cell? ⟨Sb, 5, none⟩) (f : w'.frozen? ⟨Sb, 5, none⟩ = w.frozen? ⟨Sb, 5, none⟩) (hs : w.heap.size ≤ w'.heap.size) : Hs w' base Sb m E := by
  obtain ⟨v, h1, h2⟩ := h.v
  exact ⟨h.sb, Nat.le_trans h.le hs, ⟨v, c.trans h1, h2.only e⟩, f.trans h.fz, h.all, h.ok⟩
/-- the block in which the openings lie -/
def hO (w : World) (Sb : Nat) : Option Nat := match w.cell? ⟨Sb, 5, none⟩ with
  | some v => v.ownBlock
  | none => none
theorem hO_at {w : World} {Sb : Nat} {v : Value} (h : w.cell? ⟨Sb, 5, none⟩ = some v) : hO w Sb = v.ownBlock := by unfold hO; rw [h]
theorem hO_same {w w' : World} {Sb : Nat} (h : w'.cell? ⟨Sb, 5, none⟩ = w.cell? ⟨Sb, 5, none⟩) : hO w' Sb = hO w Sb := by unfold hO; rw [h]
/-- nothing that there was has turned but the openings' own block and the heap's cell -/
structure Hq (Sb : Nat) (w w' : World) : Prop where
  keep : ∀ k, k < w.heap.size → k ≠ Sb → some k ≠ hO w Sb → w'.heap[k]? = w.heap[k]?
  own : hO w' Sb = hO w Sb ∨ ∃ g, hO w' Sb = some g ∧ w.heap.size ≤ g
theorem Hq.refl (Sb : Nat) (w : World) : Hq Sb w w := ⟨fun _ _ _ _ => rfl, .inl rfl⟩
theorem Hq.trans {Sb : Nat} {w w' w'' : World} (h : Hq Sb w w') (k : Hq Sb w' w'') (hs : w.heap.size ≤ w'.heap.size) : Hq Sb w w'' := by
  refine ⟨fun i h1 h2 h3 => ?_, ?_⟩
  · refine (k.keep i (by omega) h2 ?_).trans (h.keep i h1 h2 h3)
    rcases h.own with e | ⟨g, e, hg⟩
    · rw [e]; exact h3
    · rw [e]; intro q; injection q with q; omega
  · rcases k.own with e | ⟨g, e, hg⟩
    · rw [e]; exact h.own
    · exact .inr ⟨g, e, by omega⟩
theorem hq_below {Sb : Nat} {w w' : World} (h : Below w.heap.size w w') (hs : Sb < w.heap.size) : Hq Sb w w' :=
  ⟨fun k h1 _ _ => h.block k h1, .inl (hO_same (h.cell (p := ⟨Sb, 5, none⟩) hs))⟩
theorem hq_row {Sb g n cap : Nat} {w w' : World} (c5 : w.cell? ⟨Sb, 5, none⟩ = some (.slice (some ⟨g, 0, none⟩) n cap)) (c : w'.cell? ⟨Sb, 5, none⟩ = w.cell? ⟨Sb, 5, none⟩) (h : ∀ k, k < w.heap.size → k ≠ g → w'.heap[k]? = w.heap[k]?) : Hq Sb w w' :=
  ⟨fun k h1 _ h3 => h k h1 (fun e => h3 (by rw [hO_at c5, e]; rfl)), .inl (hO_same c)⟩
/-- a block that there was, and that is not the openings', stays so -/
theorem Hq.apart {Sb b : Nat} {w w' : World} (h : Hq Sb w w') (hb : b < w.heap.size) (hn : some b ≠ hO w Sb) : some b ≠ hO w' Sb := by
  rcases h.own with e | ⟨g, e, hg⟩
  · rw [e]; exact hn
  · rw [e]; intro q; injection q with q; omega
theorem Bx.hq {w w' : World} {Sb b : Nat} {vs : List Value} (h : Bx w b vs) (q : Hq Sb w w') (hb : b ≠ Sb) (hn : some b ≠ hO w Sb) (hs : w.heap.size ≤ w'.heap.size) : Bx w' b vs := by
  have e := q.keep b h.lt hb hn
  exact ⟨Nat.lt_of_lt_of_le h.lt hs, fun i hi => (cell_same e i).trans (h.c i hi), fun j => (frozen_same e j).trans (h.fz j)⟩
theorem Hs.own {w : World} {base Sb m : Nat} {E : Nat → Og} (h : Hs w base Sb m E) {b : Nat} (hb : some b = hO w Sb) : base ≤ b ∧ b < w.heap.size := by
  obtain ⟨v, h1, h2⟩ := h.v
  rw [hO_at h1] at hb
  exact World.ownsRow.lt h2 b hb.symm
theorem mtO (x : Og) (w : World) : (method 165 117 (ov x) "loop.example/g00047/impl.ahead").run Try.prog w = .ok (132, ov x) w := by kernel_rfl
end Go.Proofs.Ytfciecoigfnnhaa
