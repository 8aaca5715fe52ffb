/- Events and needed parts that are drawn (tools/gen_modr.py). -/
import Derived.Test.YtoleblhidieheaaMoFn
import Derived.Test.YtoleblhidieheaaCurOf
import Derived.Test.YtoleblhidieheaaCurNew
import Derived.Test.YtoleblhidieheaaByOpen
import Derived.Deep.CutRange
namespace Go.Proofs.Ytoleblhidieheaa
open Go.RowKit
/-- what stands while events are drawn -/
structure Me (w wx : World) (C : Nat) (a : Option Addr) (len cap n' : Nat) (v : Value) (k : Nat) (l : List ByteArray) : Prop where
  cur : Cur wx C a len cap n'
  own : OwE wx w.heap.size v k l
  t : Turns C (C + 1) w wx
  sm : ∀ s ∈ l, s.size ≤ 1000
/-- .. while needed parts are -/
structure Mn (w wx : World) (C : Nat) (a : Option Addr) (len cap n' : Nat) (v : Value) (l : List ByteArray) : Prop where
  cur : Cur wx C a len cap n'
  own : OwS wx w.heap.size v l
  t : Turns C (C + 1) w wx
section
variable {w wx wy : World} {C : Nat} {a : Option Addr} {len cap n' n2 : Nat} {v v' : Value} {k : Nat} {l : List ByteArray}
theorem Me.step (h : Me w wx C a len cap n' v k l) (hc : Cur wy C a len cap n2) (q : Turns C (C + 1) wx wy) (hC : C < w.heap.size) : Me w wy C a len cap n2 v k l :=
  ⟨hc, h.own.turns q (by omega), h.t.trans q, h.sm⟩
theorem Me.app {m : List ByteArray} {j : Nat} {o : Obj} (h : Me w wx C a len cap n' v k l) (ho : OwE wy w.heap.size v' (k + j) (l ++ m)) (hg : (wx.alloc o).grownBy wy v.ownBlock) (hm : ∀ s ∈ m, s.size ≤ 1000) (hC : C < w.heap.size) : Me w wy C a len cap n' v' (k + j) (l ++ m) := by
  have hb : Below w.heap.size wx wy := ((Below.refl _ _).alloc h.t.size o).grown hg (by simp; have := h.t.size; omega) (fun q hq => (World.ownsRow.lt h.own q hq).1)
  exact ⟨h.cur.below hb hC, ho, tn_below h.t hb (Nat.le_refl _), fun s hs => (List.mem_append.1 hs).elim (h.sm s) (hm s)⟩
theorem OwS.turns {lo hi base : Nat} (h : OwS wx base v l) (k : Turns lo hi wx wy) (hd : hi ≤ base) : OwS wy base v l := by
  obtain ⟨hl, h | ⟨g, cap, cur, h1, h2, h3, h4⟩⟩ := h
  · exact ⟨hl, .inl h⟩
  · have hg : g < wx.heap.size := (Array.getElem?_eq_some_iff.1 h3).1
    exact ⟨hl, .inr ⟨g, cap, cur, h1, h2, (k.block g hg (by omega)).trans h3, h4⟩⟩
theorem Mn.step (h : Mn w wx C a len cap n' v l) (hc : Cur wy C a len cap n2) (q : Turns C (C + 1) wx wy) (hC : C < w.heap.size) : Mn w wy C a len cap n2 v l :=
  ⟨hc, h.own.turns q (by omega), h.t.trans q⟩
theorem Mn.app {s : ByteArray} {o : Obj} (h : Mn w wx C a len cap n' v l) (ho : OwS wy w.heap.size v' (l ++ [s])) (hg : (wx.alloc o).grownBy wy v.ownBlock) (hC : C < w.heap.size) : Mn w wy C a len cap n' v' (l ++ [s]) := by
  have hb : Below w.heap.size wx wy := ((Below.refl _ _).alloc h.t.size o).grown hg (by simp; have := h.t.size; omega) (fun q hq => (World.ownsRow.lt h.own q hq).1)
  exact ⟨h.cur.below hb hC, ho, tn_below h.t hb (Nat.le_refl _)⟩
end
theorem cell_ev2_new (w : World) (x y p q : ByteArray) (t : TypeId) : ∀ j u, [Value.string x, .string y, .string p, .string q][j]? = some u → (w.alloc (.cells #[.string x, .string y, .string p, .string q] t)).cell? ((⟨w.heap.size, 0, none⟩ : Addr).add j) = some u := by
  intro j u hj
  have b := bx_new (w := w) (b := w.heap.size) [.string x, .string y, .string p, .string q] t rfl
  match j with
  | 0 => simp at hj; subst hj; rw [Addr.add_lit]; exact b.c0
  | 1 => simp at hj; subst hj; rw [Addr.add_lit]; exact b.c1
  | 2 => simp at hj; subst hj; rw [Addr.add_lit]; exact b.c2
  | 3 => simp at hj; subst hj; rw [Addr.add_lit]; exact b.c 3 (show 3 < 4 by omega)
  | k + 4 => simp at hj
set_option maxHeartbeats 1000000 in
theorem kind_any (C : Nat) (a : Option Addr) (len cap n : Nat) (w : World) (h : Cur w C a len cap n) (hn : n ≤ 900000) :
    Calls Try.prog 22 #[.pointer (some ⟨C, 0, none⟩)] w fun e w' => AnsN w w' e C a len cap n := by
  have k1 := lit_of C a len cap n w h (by omega) [⟨#[111, 110]⟩, ⟨#[103, 111]⟩, ⟨#[104, 117, 114, 116]⟩, ⟨#[104, 101, 97, 108]⟩, ⟨#[115, 116, 111, 112]⟩, ⟨#[114, 101, 115, 101, 116]⟩, ⟨#[111, 102, 102]⟩, ⟨#[111, 110]⟩, ⟨#[103, 111]⟩, ⟨#[102, 97, 105, 108]⟩, ⟨#[109, 101, 110, 100]⟩, ⟨#[102, 97, 105, 108]⟩, ⟨#[109, 101, 110, 100]⟩, ⟨#[]⟩, ⟨#[104, 97, 108, 116]⟩] (by decide) (by decide) (by decide +kernel)
  simp only [List.map_cons, List.map_nil, List.length_cons, List.length_nil, Nat.zero_add, Nat.reduceAdd] at k1
  clear h
  go_enter Try.func22, Try.ntmps22
  go_wp2_with fail
  refine k1.mono ?_
  rintro e w2 ⟨s, n', rfl, hs, hn', hc, hT⟩
  go_wp2
  go_ret
  exact ⟨s, n', rfl, hs, hn', hc, hT⟩
set_option maxRecDepth 20000 in
set_option maxHeartbeats 8000000 in
theorem drawModes (A : Option Addr) (len cap : Nat) (w : World) (hl : len ≤ 1048576) (hb : BL w A len) :
    Calls Try.prog 5 #[.slice A len cap] w fun e w' => AnsDm w w' e := by
  obtain ⟨i0, hi, hzz⟩ := Option.map_eq_some_iff.1 infoE
  simp only [Prod.mk.injEq] at hzz
  obtain ⟨hz0, hz1, hz2⟩ := hzz
  obtain ⟨j0, hj, hyy⟩ := Option.map_eq_some_iff.1 infoS
  simp only [Prod.mk.injEq] at hyy
  obtain ⟨hy0, hy1, hy2⟩ := hyy
  have hc0 := cur_new w A len cap hl hb
  have hB0 : Below w.heap.size w (w.alloc (.cells #[.slice A len cap, .int .i64 0, .int .u64 0] 46)) := (Below.refl _ _).alloc (Nat.le_refl _) _
  have hC : w.heap.size < (w.alloc (.cells #[.slice A len cap, .int .i64 0, .int .u64 0] 46)).heap.size := hc0.lt
  go_enter Try.func5, Try.ntmps5
  go_upto_region 3 with fail
  generalize w.alloc (.cells #[.slice A len cap, .int .i64 0, .int .u64 0] 46) = W0 at *
  generalize hCC : w.heap.size = C at *
  go_wp2_with fail
  refine (pick_any C A len cap 0 14 W0 hc0 (by omega)).mono ?_
  rintro e w1 ⟨p1, n1, rfl, p10, p11, -, hn1, hc1, hO1⟩
  have p12 := p11 (by omega)
  have E1 : Me W0 w1 C A len cap n1 (.slice none 0 0) 0 [] := ⟨hc1, owe_nil _ _, tn_only hO1, fun s hs => by cases hs⟩
  clear hc0 hO1 p11 hc1
  go_wp2_with fail
  refine (one_any C A len cap n1 16 w1 E1.cur (by omega)).mono ?_
  rintro e w2 ⟨b2, n2, rfl, hn2, hc2, hO2⟩
  have E2 := E1.step hc2 (tn_only hO2) hC
  clear E1 hc2 hO2
  go_upto_if 15 with fail
  go_cut [6] from 15 to 18 (fun s6 wx => ∃ (R n5 : Nat), s6 = .int .i64 (R : Int) ∧ R ≤ 61 ∧ n5 ≤ 10 ∧ Me W0 wx C A len cap n5 (.slice none 0 0) 0 [])
  case first =>
    cases b2 with
    | false =>
      go_wp2_with fail
      go_meet
      case rel => exact ⟨p1.toNat, n2, by congr 1; omega, by omega, by omega, E2⟩
    | true =>
      go_wp2_with fail
      refine (pick_any C A len cap n2 3 w2 E2.cur (by omega)).mono ?_
      rintro e w3 ⟨p3, n3, rfl, p30, p31, -, hn3, hc3, hO3⟩
      have p32 := p31 (by omega)
      have E3 := E2.step hc3 (tn_only hO3) hC
      clear E2 hc3 hO3 p31
      go_wp2_with fail
      go_meet
      case rel => exact ⟨(59 + p3).toNat, n3, by congr 1; omega, by omega, by omega, E3⟩
  case rest =>
    obtain ⟨R0, n5, rfl, hR0, hn5, E5⟩ := hcut
    clear E2
    obtain ⟨w5, hw5⟩ : ∃ x, x = wc := ⟨_, rfl⟩
    subst hw5
    go_wp2_with fail
    refine (one_any C A len cap n5 2 w5 E5.cur (by omega)).mono ?_
    rintro e w6 ⟨b6, n6, rfl, hn6, hc6, hO6⟩
    have E6 := E5.step hc6 (tn_only hO6) hC
    clear E5 hc6 hO6
    go_upto_if 20 with fail
    go_cut [5] from 20 to 25 (fun s5 wx => ∃ (x : Option Addr) (c k n7 : Nat) (l : List ByteArray), s5 = .slice x k c ∧ k ≤ 2 ∧ n7 ≤ 20 ∧ Me W0 wx C A len cap n7 (.slice x k c) k l)
    case first =>
      cases b6 with
      | false =>
        go_wp2_with fail
        go_meet
        case rel => exact ⟨none, 0, 0, n6, [], rfl, by omega, by omega, E6⟩
      | true =>
        go_wp2_with (first | (at_builtin; refine wpList_append_own _ rfl _ _ 23 rfl W0.heap.size 32 i0 (.agg #[.string ⟨#[]⟩, .string ⟨#[]⟩]) 2 32 Try.underlying23 hi hz0 hz1 hz2 rfl (by decide) _ _ _ rfl (World.ownsRow.alloc E6.own _) ⟨w6.heap.size, 0, none⟩ 2 2 [.string (⟨#[111, 110]⟩), .string (⟨#[]⟩), .string (⟨#[103, 111]⟩), .string (⟨#[]⟩)] rfl rfl (cell_ev2_new _ _ _ _ _ _) (fun y hy => by simp at hy; rcases hy with rfl | rfl | rfl | rfl <;> rfl) (by unfold maxLen; omega) (by omega) (by have := E6.t.size; rw [size_al]; omega) ?_; intro v7 w7 hown7 hgrow7 _) | fail)
        have E7 : Me W0 w7 C A len cap n6 v7 (0 + 2) ([] ++ [(⟨#[111, 110]⟩), (⟨#[]⟩), (⟨#[103, 111]⟩), (⟨#[]⟩)]) := E6.app (o := .cells #[.string (⟨#[111, 110]⟩), .string (⟨#[]⟩), .string (⟨#[103, 111]⟩), .string (⟨#[]⟩)] 32) (owe_app (m := 2) (xs := [(⟨#[111, 110]⟩), (⟨#[]⟩), (⟨#[103, 111]⟩), (⟨#[]⟩)]) hown7) hgrow7 (fun s hs => by simp at hs; rcases hs with rfl | rfl | rfl | rfl <;> decide) hC
        obtain ⟨x7, c7, ev⟩ := E7.own.shape
        subst ev
        go_meet
        case rel => exact ⟨x7, c7, 2, n6, _, rfl, by omega, by omega, E7⟩
    case rest =>
      obtain ⟨x8, c8, k8, n8, l8, rfl, hk8, hn8, E8⟩ := hcut
      clear E6
      obtain ⟨w8, hw8⟩ : ∃ x, x = wc := ⟨_, rfl⟩
      subst hw8
      go_wp2_with fail
      go_loopw [5, 6] (fun v i wr => ∃ (x : Option Addr) (c k R n' : Nat) (l : List ByteArray), v = .slice x k c ∧ i = .int .i64 (R : Int) ∧ R ≤ R0 ∧ k + R ≤ 2 + R0 ∧ n' + 4 * R ≤ 20 + 4 * R0 ∧ Hid (Me W0 wr C A len cap n' (.slice x k c) k l)) (fun _ i _ => (intOf i).toNat)
      case atStart => exact ⟨x8, c8, k8, R0, n8, l8, rfl, rfl, Nat.le_refl _, by omega, by omega, E8⟩
      case round =>
        clear E8
        obtain ⟨x, c, k, R, n9, l, rfl, rfl, hR, hkR, hn9, HE⟩ := hrel
        by_cases hR1 : 0 < R
        · obtain ⟨R, rfl⟩ : ∃ R', R = R' + 1 := ⟨R - 1, by omega⟩
          have jR : (0 : Int) < ((R + 1 : Nat) : Int) := by omega
          go_wp2_with fail
          refine (kind_any C A len cap n9 _ HE.out.cur (by omega)).mono ?_
          rintro e w10 ⟨s10, n10, rfl, hs10, hn10, hc10, hT10⟩
          have HE10 : Hid (Me W0 w10 C A len cap n10 (.slice x k c) k l) := HE.out.step hc10 hT10 hC
          clear HE hT10
          have k1 := lit_of C A len cap n10 w10 hc10 (by omega) [⟨#[97, 114, 109]⟩, ⟨#[101, 121, 101]⟩, ⟨#[108, 101, 103]⟩, ⟨#[]⟩] (by decide) (by decide) (by decide +kernel)
          simp only [List.map_cons, List.map_nil, List.length_cons, List.length_nil, Nat.zero_add, Nat.reduceAdd] at k1
          clear hc10
          go_wp2_with fail
          refine k1.mono ?_
          rintro e w11 ⟨s11, n11, rfl, hs11, hn11, hc11, hT11⟩
          have HE11 : Hid (Me W0 w11 C A len cap n11 (.slice x k c) k l) := HE10.out.step hc11 hT11 hC
          clear HE10 hT11 k1 hc11
          go_wp2_with (first | (at_builtin; refine wpList_append_own _ rfl _ _ 23 rfl W0.heap.size 32 i0 (.agg #[.string ⟨#[]⟩, .string ⟨#[]⟩]) 2 32 Try.underlying23 hi hz0 hz1 hz2 rfl (by decide) _ _ _ rfl (World.ownsRow.alloc HE11.out.own _) ⟨w11.heap.size, 0, none⟩ 1 1 [.string s10, .string s11] rfl rfl (cell_ev_new _ _ _ _) (fun y hy => by simp at hy; rcases hy with rfl | rfl <;> rfl) (by unfold maxLen; omega) (by omega) (by have := HE11.out.t.size; rw [size_al]; omega) ?_; intro v12 w12 hown12 hgrow12 _) | fail)
          have HE12 : Hid (Me W0 w12 C A len cap n11 v12 (k + 1) (l ++ [s10, s11])) := HE11.out.app (o := .cells #[.string s10, .string s11] 32) (owe_app (m := 1) (xs := [s10, s11]) hown12) hgrow12 (fun s hs => by simp at hs; rcases hs with rfl | rfl <;> assumption) hC
          obtain ⟨x12, c12, ev⟩ := HE12.out.own.shape
          subst ev
          exact ⟨⟨x12, c12, k + 1, R, n11, _, rfl, by go_num, by omega, by omega, by omega, HE12⟩, by simp [intOf]⟩
        · have hR2 : R = 0 := by omega
          subst hR2
          have E13 := HE.out
          clear HE
          go_upto_region 12 with fail
          obtain ⟨W1, hW1⟩ : ∃ x, x = wr := ⟨_, rfl⟩
          subst hW1
          have hSz := E13.t.size
          have hCx : C < W1.heap.size := by omega
          have hEL := E13.own.sl
          have hElen := E13.own.len
          have hEb : ∀ b0 off, x = some ⟨b0, off, none⟩ → 0 < k * 2 → C + 1 ≤ b0 := fun b0 off e0 q0 => by
            obtain ⟨_, ⟨e1, e2⟩ | ⟨g, cp, cu, e1, e2, _⟩⟩ := E13.own
            · omega
            · rw [e0] at e1; cases e1; omega
          have hEs : ∀ i, i < k * 2 → (lg l i).size ≤ 1000 := fun i hi => E13.sm _ (by simp [lg, show i < l.length by omega])
          have hBW : Below C w W1 := by
            have q1 : Below C W0 W1 := ⟨E13.t.os, E13.t.tape, E13.t.output, E13.t.size, fun q hq => E13.t.block q (by omega) (.inl (by omega))⟩
            exact hB0.trans q1
          have hc13 := E13.cur
          have hHE : Hid (∀ w2, Turns C (C + 1) W1 w2 → SL w2 x (k * 2) (lg l)) := fun w2 hT h0 => by
            obtain ⟨b0, off, e0, hlt0, hcel⟩ := hEL h0
            have hge := hEb b0 off e0 h0
            exact ⟨b0, off, e0, Nat.lt_of_lt_of_le hlt0 hT.size, fun i hi => (World.cell?_of_block (hT.block b0 hlt0 (.inr (by omega)))).trans (hcel i hi)⟩
          clear E13 hEL hEb hElen
          go_wp2_with fail
          refine (pick_any C A len cap n9 3 W1 hc13 (by omega)).mono ?_
          rintro e w14 ⟨p14, n14, rfl, p140, p141, -, hn14, hc14, hO14⟩
          have p142 := p141 (by omega)
          have M14 : Mn W1 w14 C A len cap n14 (.slice none 0 0) [] := ⟨hc14, ows_nil _ _, tn_only hO14⟩
          clear hc13 hc14 hO14 p141
          go_wp2_with fail
          go_loopw [7, 8] (fun v i wr => ∃ (x : Option Addr) (c R n' : Nat) (l : List ByteArray), v = .slice x l.length c ∧ i = .int .i64 (R : Int) ∧ R ≤ 2 ∧ l.length + R ≤ 2 ∧ n' + 2 * R ≤ n9 + 10 ∧ Hid (Mn W1 wr C A len cap n' (.slice x l.length c) l)) (fun _ i _ => (intOf i).toNat)
          case atStart => exact ⟨none, 0, p14.toNat, n14, [], rfl, by congr 1; omega, by omega, by simp; omega, by omega, M14⟩
          case round =>
            clear M14
            obtain ⟨y, d, R2, n15, m, rfl, rfl, hR2, hmR, hn15, HM⟩ := hrel
            by_cases hR3 : 0 < R2
            · obtain ⟨R2, rfl⟩ : ∃ R', R2 = R' + 1 := ⟨R2 - 1, by omega⟩
              have jR : (0 : Int) < ((R2 + 1 : Nat) : Int) := by omega
              have k1 := lit_of C A len cap n15 wr HM.out.cur (by omega) [⟨#[97, 114, 109]⟩, ⟨#[101, 121, 101]⟩, ⟨#[108, 101, 103]⟩] (by decide) (by decide) (by decide +kernel)
              simp only [List.map_cons, List.map_nil, List.length_cons, List.length_nil, Nat.zero_add, Nat.reduceAdd] at k1
              go_wp2_with fail
              refine k1.mono ?_
              rintro e w16 ⟨s16, n16, rfl, hs16, hn16, hc16, hT16⟩
              have HM16 : Hid (Mn W1 w16 C A len cap n16 (.slice y m.length d) m) := HM.out.step hc16 hT16 hCx
              clear HM hT16 k1 hc16
              go_wp2_with (first | (at_builtin; refine wpList_append_own _ rfl _ _ 24 rfl W1.heap.size 9 j0 (.string ⟨#[]⟩) 1 16 Try.underlying24 hj hy0 hy1 hy2 rfl (by decide) _ _ _ rfl (World.ownsRow.alloc HM16.out.own _) ⟨w16.heap.size, 0, none⟩ 1 1 [.string s16] rfl rfl (cell_one_new _ _ _) (fun y hy => by simp at hy; subst hy; rfl) (by unfold maxLen; omega) (by omega) (by have := HM16.out.t.size; rw [size_al]; omega) ?_; intro v17 w17 hown17 hgrow17 _) | fail)
              have HM17 : Hid (Mn W1 w17 C A len cap n16 v17 (m ++ [s16])) := HM16.out.app (o := .cells #[.string s16] 9) (ows_snoc hown17) hgrow17 hCx
              obtain ⟨y17, d17, ev⟩ := HM17.out.own.shape
              subst ev
              exact ⟨⟨y17, d17, R2, n16, _, rfl, by go_num, by omega, by simp; omega, by omega, HM17⟩, by simp [intOf]⟩
            · have hR4 : R2 = 0 := by omega
              subst hR4
              go_wp2_with fail
              refine (one_any C A len cap n15 30 wr HM.out.cur (by omega)).mono ?_
              rintro e w18 ⟨b18, n18, rfl, hn18, hc18, hO18⟩
              have M18 := HM.out.step hc18 (tn_only hO18) hCx
              clear HM hc18 hO18
              cases b18 with
              | false =>
                have hA : AnsDm w w18 (.returned (.tuple #[.slice x k c, .slice y m.length d])) := ⟨x, y, k, c, m.length, d, lg l, lg m, rfl, by omega, by omega, hEs, hHE.out _ M18.t, ows_sl M18.own, by rw [hCC]; exact hBW.trans ⟨M18.t.os, M18.t.tape, M18.t.output, M18.t.size, fun q hq => M18.t.block q (by omega) (.inl (by omega))⟩⟩
                clear M18
                go_wp2
                go_ret2
                exact hA
              | true =>
                go_wp2_with fail
                go_loopw [7] (fun v wr => ∃ (x : Option Addr) (c n' : Nat) (l : List ByteArray), v = .slice x l.length c ∧ l.length ≤ 12 ∧ n' ≤ n9 + 20 + 2 * l.length ∧ Hid (Mn W1 wr C A len cap n' (.slice x l.length c) l)) (fun v _ => 13 - lenV v)
                case atStart => exact ⟨y, d, n18, m, rfl, by omega, by omega, M18⟩
                case round =>
                  clear M18
                  obtain ⟨y2, d2, n19, m2, rfl, hm2, hn19, HM2⟩ := hrel
                  go_wp2_with fail
                  refine (pick_any C A len cap n19 2 wr HM2.out.cur (by omega)).mono ?_
                  rintro e w20 ⟨p20, n20, rfl, p200, p201, -, hn20, hc20, hO20⟩
                  have p202 := p201 (by omega)
                  have M20 := HM2.out.step hc20 (tn_only hO20) hCx
                  clear HM2 hc20 hO20 p201
                  by_cases hq : (m2.length : Int) < 10 + p20
                  · go_wp2_with (first | (at_builtin; refine wpList_append_own _ rfl _ _ 24 rfl W1.heap.size 9 j0 (.string ⟨#[]⟩) 1 16 Try.underlying24 hj hy0 hy1 hy2 rfl (by decide) _ _ _ rfl (World.ownsRow.alloc M20.own _) ⟨w20.heap.size, 0, none⟩ 1 1 [.string ⟨#[120]⟩] rfl rfl (cell_one_new _ _ _) (fun y hy => by simp at hy; subst hy; rfl) (by unfold maxLen; omega) (by omega) (by have := M20.t.size; rw [size_al]; omega) ?_; intro v21 w21 hown21 hgrow21 _) | fail)
                    have HM21 : Hid (Mn W1 w21 C A len cap n20 v21 (m2 ++ [(⟨#[120]⟩)])) := M20.app (o := .cells #[.string (⟨#[120]⟩)] 9) (ows_snoc hown21) hgrow21 hCx
                    obtain ⟨y21, d21, ev⟩ := HM21.out.own.shape
                    subst ev
                    exact ⟨⟨y21, d21, n20, _, rfl, by simp; omega, by simp; omega, HM21⟩, by simp [lenV]; omega⟩
                  · have hA : AnsDm w w20 (.returned (.tuple #[.slice x k c, .slice y2 m2.length d2])) := ⟨x, y2, k, c, m2.length, d2, lg l, lg m2, rfl, by omega, by omega, hEs, hHE.out _ M20.t, ows_sl M20.own, by rw [hCC]; exact hBW.trans ⟨M20.t.os, M20.t.tape, M20.t.output, M20.t.size, fun q hq => M20.t.block q (by omega) (.inl (by omega))⟩⟩
                    clear M20
                    go_wp2
                    go_ret2
                    exact hA
theorem modesFnAll (A : Option Addr) (len cap : Nat) (w : World) (hb : BL w A len) :
    Calls Try.prog 3 #[.slice A len cap] w fun e w' => e = .returned (.bool true) ∧ Below w.heap.size w w' := by
  by_cases h : len ≤ 1048576
  · exact modesFn A len cap w h (drawModes A len cap w h hb)
  · have j : (1048576 : Int) < (len : Int) := by omega
    go_enter Try.func3, Try.ntmps3
    go_wp2
    go_ret
    exact ⟨rfl, Below.refl _ _⟩
end Go.Proofs.Ytoleblhidieheaa
