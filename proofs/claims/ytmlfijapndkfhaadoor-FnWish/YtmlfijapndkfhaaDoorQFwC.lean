/- slices.Grow and slices.Concat of texts. -/
import Derived.Test.YtmlfijapndkfhaaDoorQWhWtM
import Derived.Test.YtmlfijapndkfhaaDoorQReEq
import Derived.Lib.AppendZeros
import Derived.Laws.AppendOwnNone
namespace Go.Proofs.YtmlfijapndkfhaaDoor
open Go.RowKit
theorem SL.alloc {w : World} {a : Option Addr} {n : Nat} {S : Nat → ByteArray} (h : SL w a n S) (o : Obj) : SL (w.alloc o) a n S := h.below ((Below.refl w.heap.size w).alloc (Nat.le_refl _) o)
theorem infoS : (Tryd.prog.info? 9).map (fun i => (i.zero, i.size, i.bytes)) = some (some (.string ⟨#[]⟩), 1, 16) := by kernel_rfl
/-- a row of texts of a call's own -/
def OwS (w : World) (base : Nat) (v : Value) (l : List ByteArray) : Prop := w.ownsRow base 9 1 v l.length (l.map Value.string)
theorem zc_size (n : Nat) : (Builtin.zeroCells (Value.cells (.string ⟨#[]⟩)) n).size = n := by
  have h : (Value.cells (.string ⟨#[]⟩)).size = 1 := rfl
  simp [Builtin.zeroCells, h]
set_option maxRecDepth 20000 in
set_option maxHeartbeats 2000000 in
theorem iGrow0 (n : Nat) (w : World) (hn : n ≤ 16777216) :
    Calls Tryd.prog 42 #[.slice none 0 0, .int .i64 (n : Int)] w fun e w' => (∃ v, e = .returned v ∧ OwS w' w.heap.size v []) ∧ Below w.heap.size w w' := by
  obtain ⟨i0, hi, hzz⟩ := Option.map_eq_some_iff.1 infoS
  simp only [Prod.mk.injEq] at hzz
  obtain ⟨hz0, hz1, hz2⟩ := hzz
  by_cases h0 : n = 0
  · subst h0
    go_enter Tryd.func42, Tryd.ntmps42
    go_wp2
    go_ret
    exact ⟨⟨_, rfl, ⟨rfl, .inl ⟨rfl, rfl⟩⟩⟩, Below.refl _ _⟩
  · have hr := fun ty => Lib.run_append_nil_zeros (P := Tryd.prog) w 23 3 ty 9 i0 (.string ⟨#[]⟩) .i64 .i64 Tryd.underlying23 Tryd.underlying3 hi hz0 n (by omega) (by omega) (by omega) (by rw [hz2]; omega)
    have g1 := grownCap_ge w n 0 9
    have g2 := grownCap_le_maxLen w n 0 9 (by unfold maxLen; omega)
    have j0 : ¬ (n : Int) < 0 := by omega
    have j1 : (0 : Int) < (n : Int) := by omega
    generalize grownCap w n 0 9 = cp at *
    have hb : Below w.heap.size w (w.drew.alloc (.cells (Builtin.zeroCells (Value.cells (.string ⟨#[]⟩)) n ++ Builtin.zeroCells (Value.cells (.string ⟨#[]⟩)) (cp - n)) 9)) := ((Below.refl _ _).drew).alloc (Nat.le_refl _) _
    go_enter Tryd.func42, Tryd.ntmps42
    go_wp2_with (at_builtin; refine Lib.wpList_append_run _ rfl _ _ _ _ rfl _ _ rfl rfl _ _ (hr _) ?_)
    go_ret
    have hcs : (Builtin.zeroCells (Value.cells (.string ⟨#[]⟩)) n ++ Builtin.zeroCells (Value.cells (.string ⟨#[]⟩)) (cp - n)).size = cp * 1 := by
      rw [Array.size_append, zc_size, zc_size]; omega
    exact ⟨⟨_, rfl, ⟨rfl, .inr ⟨w.heap.size, cp, _, rfl, Nat.le_refl _, by show (w.heap.push _)[w.heap.size]? = _; simp; rfl, Nat.zero_le _, g2, hcs, by simp⟩⟩⟩, hb⟩
/-- the texts of a list -/
def slL (f : Nat → ByteArray) (n : Nat) : List ByteArray := (List.range n).map f
theorem slL_len (f : Nat → ByteArray) (n : Nat) : (slL f n).length = n := by simp [slL]
theorem ows_sl {w : World} {base : Nat} {a : Option Addr} {n c : Nat} {l : List ByteArray} (h : OwS w base (.slice a n c) l) (hn : l.length = n) : SL w a n (fun i => l[i]!) := by
  unfold OwS at h
  subst hn
  intro h0
  have h' := h
  obtain ⟨_, ⟨_, h2⟩ | ⟨g, cap, cur, hv, hb, hg, _⟩⟩ := h
  · omega
  · cases hv
    refine ⟨g, 0, rfl, (Array.getElem?_eq_some_iff.1 hg).1, fun i hi => ?_⟩
    rw [Nat.zero_add, World.ownsRow.cellAt h' i (by omega)]
    simp [hi]
theorem OwS.below {w w' : World} {base : Nat} {v : Value} {l : List ByteArray} (h : OwS w base v l) (b : Below w.heap.size w w') : OwS w' base v l := by
  unfold OwS at h ⊢
  obtain ⟨hl, h⟩ := h
  refine ⟨hl, ?_⟩
  rcases h with h | ⟨g, cap, cur, h1, h2, h3, h4⟩
  · exact .inl h
  · have hg : g < w.heap.size := (Array.getElem?_eq_some_iff.1 h3).1
    exact .inr ⟨g, cap, cur, h1, h2, (b.block g hg).trans h3, h4⟩
theorem OwS.shape {w : World} {base : Nat} {v : Value} {l : List ByteArray} (h : OwS w base v l) : (v = .slice none 0 0 ∧ l = []) ∨ ∃ g c, v = .slice (some ⟨g, 0, none⟩) l.length c ∧ base ≤ g ∧ g < w.heap.size ∧ l.length ≤ c := by
  obtain ⟨_, ⟨h1, h2⟩ | ⟨g, cap, cur, hv, hb, hg, h3, _⟩⟩ := h
  · exact .inl ⟨h1, List.length_eq_zero_iff.1 h2⟩
  · exact .inr ⟨g, cap, hv, hb, (Array.getElem?_eq_some_iff.1 hg).1, h3⟩
theorem ows_app {w : World} {base : Nat} {v : Value} {l m : List ByteArray} {n : Nat} (hn : m.length = n) (h : w.ownsRow base 9 1 v (l.length + n) (l.map Value.string ++ m.map Value.string)) : OwS w base v (l ++ m) := by
  unfold OwS
  subst hn
  rw [List.length_append, List.map_append]
  exact h
theorem sl_news {w : World} {b o n : Nat} {f : Nat → ByteArray} (h : SL w (some ⟨b, o, none⟩) n f) : ∀ j u, ((slL f n).map Value.string)[j]? = some u → w.cell? ((⟨b, o, none⟩ : Addr).add j) = some u := by
  intro j u hu
  have hj : j < n := by
    have := (List.getElem?_eq_some_iff.1 hu).1
    simpa [slL] using this
  obtain ⟨b', o', e, _, hc⟩ := h (by omega)
  cases e
  have : some u = some (Value.string (f j)) := by
    rw [← hu]; simp [slL, hj]
  rw [this]
  rw [Addr.add_lit]
  exact hc j hj
theorem sl_one (f : Nat → ByteArray) (n : Nat) : ∀ u ∈ (slL f n).map Value.string, u.oneCell' = true := by
  intro u hu
  obtain ⟨x, _, rfl⟩ := List.mem_map.1 hu
  rfl
set_option maxRecDepth 20000 in
set_option maxHeartbeats 2000000 in
/-- of two lists, neither of them without an address unless it is nil -/
theorem iConcat (cb : Nat) (v1 v2 : Option Addr) (n1 c1 n2 c2 : Nat) (f1 f2 : Nat → ByteArray) (w : World) (h1 : n1 ≤ 1048576) (h2 : n2 ≤ 1048576) (hcb : cb < w.heap.size) (x0 : w.cell? ⟨cb, 0, none⟩ = some (.slice v1 n1 c1)) (x1 : w.cell? ⟨cb, 1, none⟩ = some (.slice v2 n2 c2))
    (k1 : (v1 = none ∧ n1 = 0 ∧ c1 = 0) ∨ ∃ b o, v1 = some ⟨b, o, none⟩) (k2 : (v2 = none ∧ n2 = 0 ∧ c2 = 0) ∨ ∃ b o, v2 = some ⟨b, o, none⟩) (s1 : SL w v1 n1 f1) (s2 : SL w v2 n2 f2) :
    Calls Tryd.prog 19 #[.slice (some ⟨cb, 0, none⟩) 2 2] w fun e w' => (∃ v, e = .returned v ∧ OwS w' w.heap.size v (slL f1 n1 ++ slL f2 n2)) ∧ Below w.heap.size w w' := by
  obtain ⟨i0, hi, hzz⟩ := Option.map_eq_some_iff.1 infoS
  simp only [Prod.mk.injEq] at hzz
  obtain ⟨hz0, hz1, hz2⟩ := hzz
  have kG := fun n w hn => iGrow0 n w hn
  go_enter Tryd.func19, Tryd.ntmps19
  go_wp2_with fail
  go_loopw [3, 11] (fun s i wr => ∃ k : Nat, k ≤ 2 ∧ i = .int .i64 (k : Int) ∧ s = .int .i64 ((if k = 0 then 0 else if k = 1 then n1 else n1 + n2 : Nat) : Int) ∧ wr = w) (fun _ i _ => 2 - (intOf i).toNat)
  case atStart => exact ⟨0, Nat.zero_le _, rfl, rfl, rfl⟩
  case round =>
    obtain ⟨k, hk, rfl, rfl, hw⟩ := hrel
    have hw' := hw.symm
    clear hw
    subst hw'
    by_cases hlt : k < 2
    · have hk2 : k = 0 ∨ k = 1 := by omega
      rcases hk2 with rfl | rfl
      · have j1 : ¬ (n1 : Int) < 0 := by omega
        go_wp2
        exact ⟨⟨1, by omega, by go_num, by simp, trivial⟩, by simp [intOf]⟩
      · have j1 : ¬ (n1 : Int) + (n2 : Int) < 0 := by omega
        go_wp2
        exact ⟨⟨2, by omega, by go_num, by simp, trivial⟩, by simp [intOf]⟩
    · have e2 : k = 2 := by omega
      subst e2
      have kG2 := kG (n1 + n2) w (by omega)
      have hcast : ((n1 + n2 : Nat) : Int) = (n1 : Int) + (n2 : Int) := by omega
      simp only [hcast] at kG2
      clear hcast kG
      go_wp2_with fail
      refine kG2.mono ?_
      rintro e w5 ⟨⟨v0, rfl, hO5⟩, hb5⟩
      clear kG2
      go_wp2_with fail
      go_loopw [6, 27] (fun v i wr => ∃ k : Nat, k ≤ 2 ∧ i = .int .i64 (k : Int) ∧ OwS wr w.heap.size v (if k = 0 then [] else if k = 1 then slL f1 n1 else slL f1 n1 ++ slL f2 n2) ∧ Below w.heap.size w wr) (fun _ i _ => 2 - (intOf i).toNat)
      case atStart => exact ⟨0, Nat.zero_le _, rfl, hO5, hb5⟩
      case round =>
        obtain ⟨k, hk, rfl, hO, hB⟩ := hrel
        clear hO5 hb5
        by_cases hlt : k < 2
        · have hk2 : k = 0 ∨ k = 1 := by omega
          rcases hk2 with rfl | rfl
          · rw [if_pos rfl] at hO
            have y := (hB.cell (p := ⟨cb, 0, none⟩) hcb).trans x0
            have sW := s1.below hB
            rcases k1 with ⟨e1, e2, e3⟩ | ⟨b, o, rfl⟩
            · have y' : wr.cell? ⟨cb, 0, none⟩ = some (.slice none 0 0) := by rw [y, e1, e2, e3]
              have HE : Hid (slL f1 n1 = []) := by
                show slL f1 n1 = []
                rw [e2]; rfl
              clear y e1 e2 e3 sW
              go_wp2_with (at_builtin; refine wpList_append_own_none rfl _ _ 23 rfl w.heap.size 9 i0 1 Tryd.underlying23 hi _ _ _ rfl hO rfl ?_)
              exact ⟨⟨1, by omega, by go_num, by show OwS _ _ _ (slL f1 n1); rw [HE.out]; exact hO, hB⟩, by simp [intOf]⟩
            · have hnw := sl_news sW
              go_wp2_with (at_builtin; refine wpList_append_own _ rfl _ _ 23 rfl w.heap.size 9 i0 (.string ⟨#[]⟩) 1 16 Tryd.underlying23 hi hz0 hz1 hz2 rfl (by decide) _ _ _ rfl hO ⟨b, o, none⟩ n1 c1 ((slL f1 n1).map Value.string) rfl (by simp [slL]) hnw (sl_one f1 n1) (by unfold maxLen; simp; omega) (by simp; omega) hB.size ?_; intro v' w6 hown' hgrow3 _)
              have hO6 : OwS w6 w.heap.size v' ([] ++ slL f1 n1) := ows_app (slL_len _ _) hown'
              have hB6 := hB.grown hgrow3 hB.size (fun q hq => (World.ownsRow.lt hO q hq).1)
              exact ⟨⟨1, by omega, by go_num, by simpa using hO6, hB6⟩, by simp [intOf]⟩
          · rw [if_neg (by decide), if_pos rfl] at hO
            have y := (hB.cell (p := ⟨cb, 1, none⟩) hcb).trans x1
            have sW := s2.below hB
            rcases k2 with ⟨e1, e2, e3⟩ | ⟨b, o, rfl⟩
            · have y' : wr.cell? ⟨cb, 1, none⟩ = some (.slice none 0 0) := by rw [y, e1, e2, e3]
              have HE : Hid (slL f2 n2 = []) := by
                show slL f2 n2 = []
                rw [e2]; rfl
              clear y e1 e2 e3 sW
              go_wp2_with (at_builtin; refine wpList_append_own_none rfl _ _ 23 rfl w.heap.size 9 i0 1 Tryd.underlying23 hi _ _ _ rfl hO rfl ?_)
              exact ⟨⟨2, by omega, by go_num, by show OwS _ _ _ (slL f1 n1 ++ slL f2 n2); rw [HE.out, List.append_nil]; exact hO, hB⟩, by simp [intOf]⟩
            · have hnw := sl_news sW
              go_wp2_with (at_builtin; refine wpList_append_own _ rfl _ _ 23 rfl w.heap.size 9 i0 (.string ⟨#[]⟩) 1 16 Tryd.underlying23 hi hz0 hz1 hz2 rfl (by decide) _ _ _ rfl hO ⟨b, o, none⟩ n2 c2 ((slL f2 n2).map Value.string) rfl (by simp [slL]) hnw (sl_one f2 n2) (by unfold maxLen; simp [slL]; omega) (by simp [slL]; omega) hB.size ?_; intro v' w6 hown' hgrow3 _)
              have hO6 : OwS w6 w.heap.size v' ((slL f1 n1) ++ slL f2 n2) := ows_app (slL_len _ _) hown'
              have hB6 := hB.grown hgrow3 hB.size (fun q hq => (World.ownsRow.lt hO q hq).1)
              exact ⟨⟨2, by omega, by go_num, hO6, hB6⟩, by simp [intOf]⟩
        · have e2 : k = 2 := by omega
          subst e2
          rw [if_neg (by decide), if_neg (by decide)] at hO
          go_wp2
          go_ret
          exact ⟨⟨_, rfl, hO⟩, hB⟩
end Go.Proofs.YtmlfijapndkfhaaDoor
