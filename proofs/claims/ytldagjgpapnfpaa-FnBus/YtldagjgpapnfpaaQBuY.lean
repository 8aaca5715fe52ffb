/- Bytes that came from somewhere, copied by an append to none. -/
import Derived.Test.YtldagjgpapnfpaaQBuQ
import Derived.Laws.AppendOwnNone
import Derived.Lib.AppendZeros
import Derived.Laws.Cover3
namespace Go.Proofs.Ytldagjgpapnfpaa
open Go.RowKit
theorem held_append {P : Program} {o : Oper} {a : Act} {w w' : World} {K : Act → World → Prop} {Q : Exit → Act → World → Prop} {b : Prop} [Decidable b] (hb : b) (s x : Operand) (t : TypeId) (ho : o.op = .call { callee := .builtin .append, args := #[s, x], argTypes := #[t, t] }) {v vx v' : Value} (hs : a.eval s = v) (hx : a.eval x = vx) (hr : (Builtin.append_ #[t, t] o.type #[v, vx]).run P w = .ok v' w') (h : K (a.put o.dst v') w') : if b then Oper.wp P o a w K Q else K (a.put o.dst undef) w := by
  rw [if_pos hb]
  unfold Oper.wp execOp
  simp only [ho, resolve, invoke, builtin, Sem.run_bind, Sem.run_pure, Result.andThen_ok, List.map_toArray, List.map_cons, List.map_nil, hs, hx, hr]
  exact h
def bsV (S : Nat → Int) (n : Nat) : List Value := (List.range n).map fun i => .int .u8 (S i)
theorem bsV_len (S : Nat → Int) (n : Nat) : (bsV S n).length = n := by simp [bsV]
theorem bsV_get {S : Nat → Int} {n i : Nat} (h : i < n) : (bsV S n)[i]? = some (.int .u8 (S i)) := by simp [bsV, h]
/-- a row of bytes of a call's own, as a list that may be written -/
theorem owb_vq {w : World} {base g n c : Nat} {S : Nat → Int} {v : Value} (h : w.ownsRow base 5 1 v n (bsV S n)) (hv : v = .slice (some ⟨g, 0, none⟩) n c) : VQ w base w.heap.size (some ⟨g, 0, none⟩) n (fun i => .int .u8 (S i)) ∧ n ≤ c := by
  subst hv
  have h' := h
  obtain ⟨_, ⟨h1, h2⟩ | ⟨g', cap, cur, h1, h2, h3, h4, _⟩⟩ := h
  · cases h1
  · cases h1
    have hfz : ∀ i, w.frozen? ⟨g, i, none⟩ = false := fun i => World.ownsRow.frozenAt h' i
    exact ⟨fun _ => ⟨g, rfl, h2, (Array.getElem?_eq_some_iff.1 h3).1, ⟨(Array.getElem?_eq_some_iff.1 h3).1, fun i hi => by rw [World.ownsRow.cellAt h' i (by omega), bsV_get hi], hfz⟩⟩, h4⟩
/-- an append of bytes to none -/
theorem app_bytes {w : World} {base g : Nat} (hown : w.ownsRow base 5 1 (.slice (some ⟨g, 0, none⟩) 0 0) 0 []) (hbase : base ≤ w.heap.size) (a : Option Addr) (n c : Nat) (S : Nat → Int) (hn : n ≤ 1048576) (hs : Shp a n c) (hy : YL w a n S) :
    ∃ g' c' w', (Builtin.append_ #[22, 22] 22 #[.slice (some ⟨g, 0, none⟩) 0 0, .slice a n c]).run Try.prog w = .ok (.slice (some ⟨g', 0, none⟩) n c') w' ∧ w'.ownsRow base 5 1 (.slice (some ⟨g', 0, none⟩) n c') n (bsV S n) ∧ w.grownBy w' (some g) ∧ (g' = g ∨ g' = w.heap.size) := by
  obtain ⟨i0, hi, hzz⟩ := Option.map_eq_some_iff.1 infoU8
  simp only [Prod.mk.injEq] at hzz
  obtain ⟨hz0, hz1, hz2⟩ := hzz
  obtain ⟨hnc, ⟨rfl, rfl, rfl⟩ | ⟨b, o, rfl⟩⟩ := hs
  · exact ⟨g, 0, w, run_append_owned_none (P := Try.prog) w base 22 22 5 i0 1 Try.underlying22 hi _ 0 [] hown, hown, World.grownBy.refl _ _, .inl rfl⟩
  · have hnews : ∀ j u, (bsV S n)[j]? = some u → w.cell? ((⟨b, o, none⟩ : Addr).add j) = some u := fun j u hj => by
      have hl := (List.getElem?_eq_some_iff.1 hj).1
      rw [bsV_len] at hl
      obtain ⟨b', o', e, hbw, hc⟩ := hy (by omega)
      cases e
      rw [bsV_get hl] at hj
      rw [Addr.add_lit, hc j hl, ← hj]
    obtain ⟨v', w', hr, h2, h3, h4, h5⟩ := run_append_own_at (P := Try.prog) w base 22 22 5 i0 (.int .u8 0) 1 1 Try.underlying22 hi hz0 hz1 hz2 rfl (by decide) _ 0 [] hown ⟨b, o, none⟩ n c (bsV S n) (by rw [bsV_len]; omega) hnews (fun u hu => by obtain ⟨i, _, rfl⟩ := List.mem_map.1 hu; rfl) (by unfold maxLen; omega) (by omega) hbase
    rw [Nat.zero_add, List.nil_append] at h2
    obtain ⟨_, ⟨e1, e2⟩ | ⟨g', c', cur, rfl, _⟩⟩ := id h2
    · have := h4.1 e1
      simp at this
    · refine ⟨g', c', w', hr, h2, h3, ?_⟩
      simpa [Value.ownBlock] using h5
set_option maxRecDepth 20000 in
set_option maxHeartbeats 1000000 in
theorem cloneY (a : Option Addr) (n c : Nat) (S : Nat → Int) (w : World) (hn : n ≤ 1048576) (hs : Shp a n c) (hy : YL w a n S) :
    Calls Try.prog 74 #[.slice a n c] w fun e w' => ∃ a' c', e = .returned (.slice a' n c') ∧ VQ w' w.heap.size w'.heap.size a' n (fun i => .int .u8 (S i)) ∧ Shp a' n c' ∧ Below w.heap.size w w' := by
  have hq0 : ∀ (a : Option Addr) (n c : Nat) (w : World), (Op.equalIn 10000 22 (.slice a n c) (.slice none 0 0)).run Try.prog w = .ok (Option.isNone a) w := fun a n c w => run_equalIn_slice_nil w 9999 22 5 a n c Try.underlying22
  have hq : ∀ (a : Option Addr) (n c : Nat) (w : World), (binOp .eql 22 (.slice a n c) (.slice none 0 0)).run Try.prog w = .ok (.bool (Option.isNone a)) w := fun a n c w => by
    have := hq0 a n c w
    simp [binOp, Op.equal, Op.maxDepth, go_sem, this]
  clear hq0
  obtain ⟨hnc, ⟨rfl, rfl, rfl⟩ | ⟨b, o, rfl⟩⟩ := id hs
  · go_enter Try.func74, Try.ntmps74
    go_wp2
    go_ret
    exact ⟨none, 0, rfl, vq_none _ _ _ _ _, shp_none, Below.refl _ _⟩
  · have hb0 : Below w.heap.size w (w.alloc (.cells #[] 5)) := (Below.refl _ _).alloc (Nat.le_refl _) _
    obtain ⟨g', c', w', hr, ho, hg, hat⟩ := app_bytes (w := w.alloc (.cells #[] 5)) (World.ownsRow_made w #[] 0 (Nat.le_refl _) (by unfold maxLen; omega) rfl) (by simp) (some ⟨b, o, none⟩) n c S hn hs (hy.alloc _)
    have hB : Below w.heap.size w w' := hb0.grown hg (by simp) (fun q hq => by cases hq; exact Nat.le_refl _)
    have hv := owb_vq ho rfl
    go_enter Try.func74, Try.ntmps74
    go_wp2_with (at_builtin; refine Lib.wpList_append_run (P := Try.prog) _ rfl _ _ _ _ rfl _ _ rfl rfl _ _ hr ?_)
    go_ret
    exact ⟨_, _, rfl, hv.1, shp_at _ _ hv.2, hB⟩
end Go.Proofs.Ytldagjgpapnfpaa
