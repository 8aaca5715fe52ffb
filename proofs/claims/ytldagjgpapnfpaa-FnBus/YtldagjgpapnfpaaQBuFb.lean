/- Bytes that are drawn (tools/gen_bufb.py). -/
import Derived.Test.YtldagjgpapnfpaaQByCp
import Derived.Test.YtldagjgpapnfpaaQBuD
namespace Go.Proofs.Ytldagjgpapnfpaa
open Go.RowKit
/-- a row of bytes of a call's own -/
def OwY (w : World) (base : Nat) (v : Value) (l : List Int) : Prop := w.ownsRow base 5 1 v l.length (l.map (Value.int .u8))
theorem OwY.shape {w : World} {base : Nat} {v : Value} {l : List Int} (h : OwY w base v l) : ∃ a cap, v = .slice a l.length cap := by
  obtain ⟨_, ⟨rfl, hl⟩ | ⟨g, cap, cur, rfl, _⟩⟩ := h
  · exact ⟨_, _, by rw [hl]⟩
  · exact ⟨_, _, rfl⟩
theorem OwY.app {w w3 : World} {base : Nat} {v v' : Value} {l : List Int} {x : Int} (_h : OwY w base v l) (ho : w3.ownsRow base 5 1 v' (l.length + 1) (l.map (Value.int .u8) ++ [.int .u8 x])) : OwY w3 base v' (l ++ [x]) := by
  unfold OwY
  rw [List.length_append, List.map_append]
  exact ho
theorem OwY.below {w w' : World} {base : Nat} {v : Value} {l : List Int} (h : OwY w base v l) (b : Below w.heap.size w w') : OwY w' base v l := by
  obtain ⟨hl, h⟩ := h
  refine ⟨hl, ?_⟩
  rcases h with h | ⟨g, cap, cur, h1, h2, h3, h4⟩
  · exact .inl h
  · have hg : g < w.heap.size := (Array.getElem?_eq_some_iff.1 h3).1
    exact .inr ⟨g, cap, cur, h1, h2, (b.block g hg).trans h3, h4⟩
theorem OwY.only {w w' : World} {base b : Nat} {v : Value} {l : List Int} (h : OwY w base v l) (o : Only b w w') (hb : ∀ q, v.ownBlock = some q → q ≠ b) : OwY w' base v l := by
  obtain ⟨hl, h⟩ := h
  refine ⟨hl, ?_⟩
  rcases h with h | ⟨g, cap, cur, h1, h2, h3, h4⟩
  · exact .inl h
  · exact .inr ⟨g, cap, cur, h1, h2, (o.block g (hb g (by rw [h1]; rfl))).trans h3, h4⟩
def gL (l : List Int) : Nat → Int := fun i => l.getD i 0
theorem gL_app_lt (l m : List Int) (i : Nat) (h : i < l.length) : gL (l ++ m) i = gL l i := by
  unfold gL; simp [List.getD, List.getElem?_append_left h]
theorem gL_app_at (l : List Int) (x : Int) (m : List Int) : gL (l ++ x :: m) l.length = x := by
  unfold gL; simp [List.getD]
theorem OwY.vq {w : World} {base : Nat} {a : Option Addr} {c : Nat} {l : List Int} (h : OwY w base (.slice a l.length c) l) : VQ w base w.heap.size a l.length (fun i => .int .u8 (gL l i)) := fun h0 => by
  have h' := h
  obtain ⟨hl, ⟨e, hn⟩ | ⟨g, cap, cur, e, hb, hheap, hcap, _, hsz, htk⟩⟩ := h
  · omega
  · simp only [Value.slice.injEq] at e
    obtain ⟨rfl, _, rfl⟩ := e
    have hlt : g < w.heap.size := (Array.getElem?_eq_some_iff.1 hheap).1
    refine ⟨g, rfl, hb, hlt, hlt, fun i hi => ?_, fun j => World.ownsRow.frozenAt h' j⟩
    rw [World.ownsRow.cellAt h' i (by omega)]
    simp [gL, List.getD, hi]
/-- what stands while bytes are drawn -/
structure Yd (w wx : World) (C : Nat) (a : Option Addr) (len cap n' : Nat) (v : Value) (o : List Int) : Prop where
  cur : Cur wx C a len cap n'
  own : OwY wx w.heap.size v o
  t : Turns C (C + 1) w wx
section
variable {w wx wy : World} {C : Nat} {a : Option Addr} {len cap n' n2 : Nat} {v v' : Value} {o : List Int}
theorem Yd.step (h : Yd w wx C a len cap n' v o) (hc : Cur wy C a len cap n2) (q : Only C wx wy) (hC : C < w.heap.size) : Yd w wy C a len cap n2 v o :=
  ⟨hc, h.own.only q (fun x hx e => by have := (World.ownsRow.lt h.own x hx).1; omega), h.t.trans (tn_only q)⟩
theorem Yd.app {x : Int} (h : Yd w wx C a len cap n' v o) (ho : wy.ownsRow w.heap.size 5 1 v' (o.length + 1) (o.map (Value.int .u8) ++ [.int .u8 x])) (hg : (wx.alloc (.cells #[.int .u8 x] 5)).grownBy wy v.ownBlock) (hC : C < w.heap.size) : Yd w wy C a len cap n' v' (o ++ [x]) := by
  have hb : Below w.heap.size wx wy := ((Below.refl _ _).alloc h.t.size (.cells #[.int .u8 x] 5)).grown hg (by simp; have := h.t.size; omega) (fun q hq => (World.ownsRow.lt h.own q hq).1)
  exact ⟨h.cur.below hb hC, h.own.app ho, tn_below h.t hb (Nat.le_refl _)⟩
end
theorem yd_nil {w : World} {C : Nat} {a : Option Addr} {len cap n : Nat} (h : Cur w C a len cap n) : Yd w w C a len cap n (.slice none 0 0) [] :=
  ⟨h, World.ownsRow_nil _ _ _ _, (OnlyIn.refl _ _ _).turns⟩
set_option maxRecDepth 20000 in
set_option maxHeartbeats 2000000 in
theorem bytesD (C : Nat) (a : Option Addr) (len cap n most : Nat) (w : World) (h : Cur w C a len cap n) (hn : n ≤ 100000) (hm : most ≤ 9) :
    Calls Try.prog 22 #[.pointer (some ⟨C, 0, none⟩), .int .i64 (most : Int)] w fun e w' => ∃ x c o n', e = .returned (.slice x o.length c) ∧ o.length ≤ most ∧ (∀ i, i < o.length → 0 ≤ gL o i ∧ gL o i ≤ 255) ∧ n' ≤ n + 20 ∧ Yd w w' C a len cap n' (.slice x o.length c) o := by
  obtain ⟨i0, hi, hzz⟩ := Option.map_eq_some_iff.1 infoU8
  simp only [Prod.mk.injEq] at hzz
  obtain ⟨hz0, hz1, hz2⟩ := hzz
  have hC := h.lt
  have hY := yd_nil h
  have kP := pick_any C a len cap n ((most : Int) + 1) w h (by omega)
  go_enter Try.func22, Try.ntmps22
  go_wp2_with fail
  refine kP.mono ?_
  rintro e w1 ⟨p, n1, rfl, hp0, hp1, -, hn1, hc1, hO1⟩
  have hp2 := hp1 (by omega)
  have hY1 := hY.step hc1 hO1 hC
  obtain ⟨P, rfl⟩ := Int.eq_ofNat_of_zero_le hp0
  have hP : P ≤ most := by omega
  clear kP hY hc1 hO1 hp1 hp2 hp0 h
  go_wp2_with fail
  go_loopw [5, 6] (fun v i wr => ∃ (k : Nat) (o : List Int) (m : Nat), i = .int .i64 (k : Int) ∧ v = v ∧ o.length + k ≤ most ∧ m + k ≤ n + 12 ∧ Hid (∀ i, i < o.length → 0 ≤ gL o i ∧ gL o i ≤ 255) ∧ Yd w wr C a len cap m v o) (fun _ i _ => (intOf i).toNat)
  case atStart => exact ⟨P, [], n1, rfl, rfl, by simpa using hP, by omega, (fun i hi => by simp at hi), hY1⟩
  case round =>
    obtain ⟨k, o, m, rfl, -, hok, hmk, HG, hY⟩ := hrel
    clear hY1
    obtain ⟨sa, sc, rfl⟩ := hY.own.shape
    by_cases hk : 0 < k
    · have jk : (0 : Int) < (k : Int) := by omega
      have kN := next_any C a len cap m wr hY.cur (by omega)
      go_wp2_with fail
      refine kN.mono ?_
      rintro e w2 ⟨x, rfl, ⟨hx0, hx1⟩, hc2, hO2⟩
      have hY2 := hY.step hc2 hO2 hC
      have hOw := hY2.own
      have hts := hY2.t.size
      have hwv : IntKind.u8.wrap x = x := by rw [IntKind.wrap_u8]; omega
      clear kN hY hc2 hO2
      go_wp2_with (first | (at_builtin; refine wpList_append_own _ rfl _ _ 22 rfl w.heap.size 5 i0 (.int .u8 0) 1 1 Try.underlying22 hi hz0 hz1 hz2 rfl (by decide) _ _ _ rfl (hOw.below ((Below.refl _ _).alloc (Nat.le_refl _) _)) ⟨w2.heap.size, 0, none⟩ 1 1 [.int .u8 x] rfl rfl (cell_one_new _ _ _) (fun y hy => by simp at hy; subst hy; rfl) (by unfold maxLen; omega) (by omega) (by rw [size_al]; omega) ?_; intro v2 w3 hown2 hgrow2 _) | fail)
      have hY3 := hY2.app hown2 hgrow2 hC
      refine ⟨⟨k - 1, o ++ [x], m + 1, by congr 1; omega, trivial, by rw [List.length_append]; simp; omega, by omega, fun i hi => ?_, hY3⟩, by simp [intOf]; omega⟩
      rw [List.length_append] at hi
      by_cases e : i < o.length
      · rw [gL_app_lt o [x] i e]; exact HG.out i e
      · have : i = o.length := by simp at hi; omega
        rw [this, gL_app_at]; exact ⟨hx0, hx1⟩
    · have jk : ¬ (0 : Int) < (k : Int) := by omega
      go_wp2
      go_ret
      exact ⟨sa, sc, o, rfl, by omega, HG.out, m, by omega, hY⟩
/-- what such a row's slice looks like -/
theorem OwY.shp {w : World} {base : Nat} {a : Option Addr} {c : Nat} {l : List Int} (h : OwY w base (.slice a l.length c) l) : Shp a l.length c := by
  obtain ⟨hl, ⟨e, hn⟩ | ⟨g, cap, cur, e, hb, hheap, hcap, _⟩⟩ := h
  · simp only [Value.slice.injEq] at e
    obtain ⟨rfl, -, rfl⟩ := e
    rw [hn]
    exact shp_none
  · simp only [Value.slice.injEq] at e
    obtain ⟨rfl, -, rfl⟩ := e
    exact shp_at _ _ hcap
end Go.Proofs.Ytldagjgpapnfpaa
