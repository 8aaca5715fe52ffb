/- What FnPlaces draws: a list of places. -/
import Derived.Test.YtipopglbpfdcmaaDoorPlExt
import Derived.Test.YtipopglbpfdcmaaDoorClAll
namespace Go.Proofs.YtipopglbpfdcmaaDoor
open Go.RowKit

theorem turns_below {lo hi B : Nat} {w w' w'' : World} (h : Turns lo hi w w') (k : Below B w' w'') (hB : w.heap.size ≤ B) : Turns lo hi w w'' :=
  ⟨k.os.trans h.os, k.tape.trans h.tape, k.output.trans h.output, Nat.le_trans h.size k.size, fun j hj hd => (k.block j (by omega)).trans (h.block j hj hd)⟩
/-- the answer: a list of the call's own -/
def AnsPl (w w' : World) (e : Ending) (C : Nat) (a : Option Addr) (len cap n k : Nat) : Prop := ∃ (a' : Option Addr) (c' : Nat) (l : List Int) (n' : Nat), e = .returned (.slice a' l.length c') ∧ l.length ≤ k ∧ LQ w' w.heap.size w'.heap.size a' l.length (gl l) ∧ n' ≤ n + 2 * k + 4 ∧ Cur w' C a len cap n' ∧ Turns C (C + 1) w w'
/-- a list that grows behind the cursor's steps -/
structure Grw (wr w2 : World) (o : Value) (C : Nat) (a : Option Addr) (len cap n k : Nat) (l : List Int) (n' : Nat) : Prop where
  own : Own wr w2.heap.size o l.length (gl l)
  le : l.length ≤ k
  small : n' ≤ n + 2 * k
  cur : Cur wr C a len cap n'
  turns : Turns C (C + 1) w2 wr

set_option maxHeartbeats 4000000 in
theorem places_any (C : Nat) (a : Option Addr) (len cap n : Nat) (W : Int) (b : Option Addr) (m d : Nat) (f : Nat → Int) (w : World) (h : Cur w C a len cap n) (hn : n ≤ 900000) (hm : m ≤ 1000) (hf : IL w b m f) :
    Calls Tryd.prog 10 #[.pointer (some ⟨C, 0, none⟩), cel W b m d] w fun e w' => AnsPl w w' e C a len cap n 257 := by
  obtain ⟨i0, hi, hzz⟩ := Option.map_eq_some_iff.1 infoI
  simp only [Prod.mk.injEq] at hzz
  obtain ⟨hz0, hz1, hz2⟩ := hzz
  have hb0 : Below w.heap.size w (w.alloc (celO W b m d 25)) := (Below.refl _ _).alloc (Nat.le_refl _) _
  have b0 := bx_new (w := w) (celL W b m d) 25 rfl
  have hAll := specAll W b m d f (w.alloc (celO W b m d 25)) (by omega) (hf.below hb0)
  have hLl : (apl W m f).length ≤ 256 := apl_len W m f
  generalize apl W m f = P at hAll hLl
  have hC := h.lt
  go_enter Tryd.func10, Tryd.ntmps10
  go_wp2_with fail
  refine hAll.mono ?_
  rintro e w2 ⟨⟨a2, c2, rfl, hA2⟩, hb2⟩
  have hB2 := stepA hb0 hb2
  have b2 := b0.on hb2
  have hc2 := h.below hB2 h.lt
  have hs2 : w.heap.size + 1 ≤ w2.heap.size := by have := hb2.size; simpa using this
  clear hAll hb0 hb2 b0 h hf
  rw [size_al] at hA2
  go_wp2
  go_loopw [5, 11] (fun o i wr => ∃ (k : Nat) (l : List Int) (n' : Nat), k ≤ P.length ∧ i = .int .i64 k ∧ Grw wr w2 o C a len cap n k l n') (fun _ i _ => P.length - (intOf i).toNat)
  case atStart => exact ⟨0, [], n, Nat.zero_le _, rfl, World.ownsRow_nil _ _ _ _, Nat.le_refl _, by omega, hc2, turns_of (Below.refl _ _)⟩
  case round =>
    obtain ⟨k, l, n1, hk, rfl, hG⟩ := hrel
    have hle := hG.le
    have hsm := hG.small
    have hsz := hG.turns.size
    by_cases hlt : k < P.length
    · obtain ⟨q, rfl, hq0, hq1, hPq⟩ := (hA2.turns hG.turns (.inr (by omega))) (by omega)
      have y0 := hPq.c k hlt
      have hql := hPq.lt
      have j1 : (k : Int) < (P.length : Int) := by omega
      have hown := hG.own
      have hcur := hG.cur
      have htr := hG.turns
      clear hPq hG b2 hc2
      obtain ⟨sa, sc, rfl⟩ := hown.shape
      generalize gl P k = y at y0
      go_wp2_with fail
      refine (one_any C a len cap n1 _ _ hcur (by omega)).mono ?_
      rintro e w4 ⟨u, n4, rfl, hn4, hc4, hO4⟩
      have htr4 := htr.trans (on_turns hO4)
      have hown4 := own_turns hown (on_turns hO4) (by omega)
      have hsz4 := htr4.size
      clear hown hcur htr hO4 y0
      cases u with
      | true =>
        go_wp2_with (at_builtin; refine wpList_append_own _ rfl _ _ 23 rfl (w2.heap.size) 3 i0 (.int .i64 0) 1 8 Tryd.underlying23 hi hz0 hz1 hz2 rfl (by decide) _ _ _ rfl (World.ownsRow.alloc hown4 _) ⟨w4.heap.size, 0, none⟩ 1 1 [.int .i64 y] rfl rfl (cell_one_new _ _ _) (fun x hx => by simp at hx; subst hx; rfl) (by unfold maxLen; omega) (by omega) (by simp; omega) ?_; intro v' w6 hown' hgrow3 _)
        have hB6 : Below w2.heap.size w4 w6 := ((Below.refl w2.heap.size w4).alloc hsz4 (.cells #[.int .i64 y] 3)).grown hgrow3 (by simp; omega) (fun q hq => (World.ownsRow.lt hown4 q hq).1)
        exact ⟨⟨k + 1, l ++ [y], n4, by omega, by go_num, own_snoc hown', by simp; omega, by omega, hc4.below hB6 (by omega), turns_below htr4 hB6 (Nat.le_refl _)⟩, by simp [intOf]; omega⟩
      | false =>
        go_wp2
        exact ⟨⟨k + 1, l, n4, by omega, by go_num, hown4, by omega, by omega, hc4, htr4⟩, by simp [intOf]; omega⟩
    · have hown := hG.own
      have hcur := hG.cur
      have htr := hG.turns
      have hkk : k ≤ 256 := by omega
      have b5 := b2.turns htr (.inr (by omega))
      clear hG hc2 hA2 b2
      obtain ⟨sa, sc, rfl⟩ := hown.shape
      go_wp2_with fail
      refine (one_any C a len cap n1 _ _ hcur (by omega)).mono ?_
      rintro e w4 ⟨u, n4, rfl, hn4, hc4, hO4⟩
      have htr4 := htr.trans (on_turns hO4)
      have hown4 := own_turns hown (on_turns hO4) (by omega)
      have b4 := b5.turns (on_turns hO4) (.inr (by omega))
      have hsz4 := htr4.size
      clear hown hcur htr hO4 b5
      have hT0 : Turns C (C + 1) w w4 := (turns_of hB2).trans htr4
      cases u with
      | true =>
        have x0 := b4.c0
        have x1 := b4.c1
        go_wp2_with fail
        refine (pick_any C a len cap n4 _ _ hc4 (by omega)).mono ?_
        rintro e w5 ⟨y, n5, rfl, hy0, -, hy2, hn5, hc5, hO5⟩
        have htr5 := htr4.trans (on_turns hO5)
        have hown5 := own_turns hown4 (on_turns hO5) (by omega)
        have hT5 := hT0.trans (on_turns hO5)
        have hsz5 := htr5.size
        clear x0 x1 b4 hown4 hc4 hO5 htr4 hT0
        go_wp2_with (at_builtin; refine wpList_append_own _ rfl _ _ 23 rfl (w2.heap.size) 3 i0 (.int .i64 0) 1 8 Tryd.underlying23 hi hz0 hz1 hz2 rfl (by decide) _ _ _ rfl (World.ownsRow.alloc hown5 _) ⟨w5.heap.size, 0, none⟩ 1 1 [.int .i64 y] rfl rfl (cell_one_new _ _ _) (fun x hx => by simp at hx; subst hx; rfl) (by unfold maxLen; omega) (by omega) (by simp; omega) ?_; intro v' w6 hown' hgrow3 _)
        have hB6 : Below w2.heap.size w5 w6 := ((Below.refl w2.heap.size w5).alloc hsz5 (.cells #[.int .i64 y] 3)).grown hgrow3 (by simp; omega) (fun q hq => (World.ownsRow.lt hown5 q hq).1)
        have hown6 := own_snoc hown'
        obtain ⟨ta, tc, rfl⟩ := hown6.shape
        go_ret
        exact ⟨ta, tc, l ++ [y], n5, rfl, by simp; omega, hown6.lq.wide (by omega) (Nat.le_refl _), by omega, hc5.below hB6 (by omega), turns_below hT5 hB6 (by omega)⟩
      | false =>
        go_wp2
        go_ret
        exact ⟨sa, sc, l, n4, rfl, by omega, hown4.lq.wide (by omega) (Nat.le_refl _), by omega, hc4, hT0⟩
end Go.Proofs.YtipopglbpfdcmaaDoor
