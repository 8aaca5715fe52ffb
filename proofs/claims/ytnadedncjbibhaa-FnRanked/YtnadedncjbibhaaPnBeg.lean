/- A play begins, as the program begins it (tools/gen_pn7.py). -/
import Derived.Test.YtnadedncjbibhaaPnGive
import Derived.Test.YtnadedncjbibhaaPnApp
namespace Go.Proofs.Ytnadedncjbibhaa
open Go.RowKit
theorem infoJob : (Try.prog.info? 59).map (fun i => (i.zero, i.size, i.bytes)) = some (some (jbv 0 0), 2, 16) := by kernel_rfl
theorem run_make_jb (n : Nat) (hn : n ≤ 1048576) (w : World) :
    (Instr.makeSlice 78 (.int .i64 0) (.int .i64 (n : Int))).run Try.prog w = .ok (.slice (some ⟨w.heap.size, 0, none⟩) 0 n) (w.alloc (.cells (madeCells #[.int .i64 0, .int .i64 0] (n * 2)) 59)) := by
  obtain ⟨i, hi, hzz⟩ := Option.map_eq_some_iff.1 infoJob
  simp only [Prod.mk.injEq] at hzz
  obtain ⟨hz, hs, hb⟩ := hzz
  have hr := run_make (P := Try.prog) w 78 59 i _ Try.underlying78 hi hz .i64 .i64 0 (n : Int) (by omega) (by omega) (by rw [hb]; omega) (by omega)
  simp only [Int.toNat_natCast, hs] at hr
  exact hr
/-- a row of jobs of a call's own -/
def OwnJ (w : World) (base : Nat) (v : Value) (k : Nat) (F : Nat → Int) : Prop := w.ownsRow base 59 2 v k (vL F (k * 2))
theorem OwnJ.below {w w' : World} {base : Nat} {v : Value} {k : Nat} {F : Nat → Int} (h : OwnJ w base v k F) (b : Below w.heap.size w w') : OwnJ w' base v k F := by
  obtain ⟨hl, h⟩ := h
  refine ⟨hl, ?_⟩
  rcases h with h | ⟨g, cap, cur, h1, h2, h3, h4⟩
  · exact .inl h
  · have hg : g < w.heap.size := (Array.getElem?_eq_some_iff.1 h3).1
    exact .inr ⟨g, cap, cur, h1, h2, (b.block g hg).trans h3, h4⟩
theorem OwnJ.same {w w' : World} {base g k c : Nat} {F : Nat → Int} (h : OwnJ w base (.slice (some ⟨g, 0, none⟩) k c) k F) (e : w'.heap[g]? = w.heap[g]?) : OwnJ w' base (.slice (some ⟨g, 0, none⟩) k c) k F := by
  obtain ⟨hl, h⟩ := h
  refine ⟨hl, ?_⟩
  rcases h with h | ⟨g', cap, cur, h1, h2, h3, h4⟩
  · exact .inl h
  · cases h1; exact .inr ⟨g, c, cur, rfl, h2, e.trans h3, h4⟩
theorem ownJ_ip {w : World} {base g k c : Nat} {F : Nat → Int} (h : OwnJ w base (.slice (some ⟨g, 0, none⟩) k c) k F) : IP w g (k * 2) F := by
  have h' := h
  obtain ⟨_, ⟨h1, _⟩ | ⟨g', cap, cur, hv, hb, hg, h3, _⟩⟩ := h
  · cases h1
  · cases hv
    refine ⟨(Array.getElem?_eq_some_iff.1 hg).1, fun i hi => ?_, fun j => World.ownsRow.frozenAt h' j⟩
    rw [World.ownsRow.cellAt h' i hi]
    exact vL_get hi
theorem new2 (w : World) (p q : Value) (t : TypeId) : ∀ j u, [p, q][j]? = some u → (w.alloc (.cells #[p, q] t)).cell? ((⟨w.heap.size, 0, none⟩ : Addr).add j) = some u := by
  intro j u hj
  match j, hj with
  | 0, hj => simp at hj; subst hj; simp [Addr.add]
  | 1, hj => simp at hj; subst hj; simp [Addr.add]
theorem ret_play {fn : Func} {t : Tmp} {R : Ending → World → Prop} {a : Act} {w : World} {b : Nat} {u v x y : Value} (h : fn.results = #[.cell t 80]) (hp : a.tmps.getD t undef = .pointer (some ⟨b, 0, none⟩)) (c0 : w.cell? ⟨b, 0, none⟩ = some u) (c1 : w.cell? ⟨b, 1, none⟩ = some v) (c2 : w.cell? ⟨b, 2, none⟩ = some x) (c3 : w.cell? ⟨b, 3, none⟩ = some y) (hd : a.defers = [])
    (hR : R (.returned (.agg #[u, v, x, y])) w) : bodyPost Try.prog fn R .ret a w := by
  refine bodyPost_ret ?_ hd hR
  have hp' : a.tmps[t]?.getD undef = .pointer (some ⟨b, 0, none⟩) := by simpa using hp
  simp [results, h, hp', asAddr, loadVar, go_sem, c0, c1, c2, c3]
/-- a box by its block -/
theorem bx_of {w : World} {b : Nat} {vs : List Value} {t : TypeId} (h : w.heap[b]? = some (.cells vs.toArray t)) : Bx w b vs :=
  ⟨(Array.getElem?_eq_some_iff.1 h).1, fun i hi => by simp [World.cell?, h], fun j => by simp [World.frozen?, h]⟩
/-- what lies there when the lists have been made -/
structure Bg (w wx : World) (R0 B J L n : Nat) (a : Option Addr) (c : Nat) : Prop where
  box : Bx wx B [.slice a n c, .slice (some ⟨J, 0, none⟩) 0 n, .slice none 0 0, .slice (some ⟨L, 0, none⟩) n n]
  ret : Bx wx R0 [.slice none 0 0, .slice none 0 0, .slice none 0 0, .slice none 0 0]
  jb : OwnJ wx w.heap.size (.slice (some ⟨J, 0, none⟩) 0 n) 0 (fun _ => 0)
  lo : IP wx L n (fun _ => 0)
  bel : Below w.heap.size w wx
  ne : J ≠ L ∧ J ≠ B ∧ L ≠ B ∧ R0 ≠ B ∧ R0 ≠ J ∧ R0 ≠ L
  le : w.heap.size ≤ J ∧ w.heap.size ≤ L ∧ w.heap.size ≤ B ∧ w.heap.size ≤ R0
theorem bg_of {w wx : World} {R0 B J L n : Nat} {a : Option Addr} {c : Nat} (hn : n ≤ 1048576) (b1 : wx.heap[B]? = some (.cells #[.slice a n c, .slice (some ⟨J, 0, none⟩) 0 n, .slice none 0 0, .slice (some ⟨L, 0, none⟩) n n] 80)) (b0 : wx.heap[R0]? = some (.cells #[.slice none 0 0, .slice none 0 0, .slice none 0 0, .slice none 0 0] 80))
    (b2 : wx.heap[J]? = some (.cells (madeCells #[.int .i64 0, .int .i64 0] (n * 2)) 59)) (b3 : wx.heap[L]? = some (.cells (madeCells #[.int .i64 0] n) 3)) (bel : Below w.heap.size w wx) (ne : J ≠ L ∧ J ≠ B ∧ L ≠ B ∧ R0 ≠ B ∧ R0 ≠ J ∧ R0 ≠ L) (le : w.heap.size ≤ J ∧ w.heap.size ≤ L ∧ w.heap.size ≤ B ∧ w.heap.size ≤ R0) : Bg w wx R0 B J L n a c := by
  refine ⟨?_, ?_, ?_, ?_, bel, ne, le⟩
  · exact bx_of (vs := [.slice a n c, .slice (some ⟨J, 0, none⟩) 0 n, .slice none 0 0, .slice (some ⟨L, 0, none⟩) n n]) b1
  · exact bx_of (vs := [.slice none 0 0, .slice none 0 0, .slice none 0 0, .slice none 0 0]) b0
  · refine ⟨by simp [vL], .inr ⟨J, n, _, rfl, le.1, b2, by omega, by unfold maxLen; omega, by simp [madeCells], by simp [vL]⟩⟩
  · refine row_zero ⟨_, b3, by simp [madeCells], fun i hi => by simp [madeCells, hi, Nat.mod_one]⟩
section
variable (w : World) (o0 o1 o2 o3 : Obj)
theorem al4_3 : ((((w.alloc o0).alloc o1).alloc o2).alloc o3).drew.heap[w.heap.size + 1 + 1 + 1]? = some o3 := by
  have h := heap_alloc_new (((w.alloc o0).alloc o1).alloc o2) o3
  rw [size_al, size_al, size_al] at h
  exact h
theorem al4_2 : ((((w.alloc o0).alloc o1).alloc o2).alloc o3).drew.heap[w.heap.size + 1 + 1]? = some o2 := by
  have h := heap_alloc_new ((w.alloc o0).alloc o1) o2
  rw [size_al, size_al] at h
  exact (((Below.refl (((w.alloc o0).alloc o1).alloc o2).heap.size _).alloc (Nat.le_refl _) o3).block _ (by simp only [size_al]; omega)).trans h
theorem al4_1 : ((((w.alloc o0).alloc o1).alloc o2).alloc o3).drew.heap[w.heap.size + 1]? = some o1 := by
  have h := heap_alloc_new (w.alloc o0) o1
  rw [size_al] at h
  exact ((((Below.refl ((w.alloc o0).alloc o1).heap.size _).alloc (Nat.le_refl _) o2).alloc (by simp only [size_al]; omega) o3).block _ (by simp only [size_al]; omega)).trans h
theorem al4_0 : ((((w.alloc o0).alloc o1).alloc o2).alloc o3).drew.heap[w.heap.size]? = some o0 := by
  have h := heap_alloc_new w o0
  exact (((((Below.refl (w.alloc o0).heap.size _).alloc (Nat.le_refl _) o1).alloc (by simp only [size_al]; omega) o2).alloc (by simp only [size_al]; omega) o3).block _ (by simp only [size_al]; omega)).trans h
theorem al4_b : Below w.heap.size w ((((w.alloc o0).alloc o1).alloc o2).alloc o3).drew :=
  (((((Below.refl w.heap.size w).alloc (Nat.le_refl _) o0).alloc (by simp only [size_al]; omega) o1).alloc (by simp only [size_al]; omega) o2).alloc (by simp only [size_al]; omega) o3).drew
end
theorem bx_same {w w' : World} {b : Nat} {vs : List Value} (h : Bx w b vs) (e : w'.heap[b]? = w.heap[b]?) (hs : w.heap.size ≤ w'.heap.size) : Bx w' b vs :=
  ⟨Nat.lt_of_lt_of_le h.lt hs, fun i hi => (cell_same e i).trans (h.c i hi), fun j => (frozen_same e j).trans (h.fz j)⟩
theorem ip_same {w w' : World} {b n : Nat} {F : Nat → Int} (h : IP w b n F) (e : w'.heap[b]? = w.heap[b]?) (hs : w.heap.size ≤ w'.heap.size) : IP w' b n F :=
  ⟨Nat.lt_of_lt_of_le h.lt hs, fun i hi => (cell_same e i).trans (h.c i hi), fun j => (frozen_same e j).trans (h.fz j)⟩
abbrev nil4 : List Value := [.slice none 0 0, .slice none 0 0, .slice none 0 0, .slice none 0 0]
/-- what beginPlay tells -/
def AnsBg (n : Nat) (a : Option Addr) (c : Nat) (G : Nat → Int) (w w' : World) (e : Ending) : Prop :=
  ∃ J L, e = .returned (.agg #[.slice a n c, .slice (some ⟨J, 0, none⟩) n n, .slice none 0 0, .slice (some ⟨L, 0, none⟩) n n]) ∧ IP w' J (n * 2) G ∧ IP w' L n (fun _ => 0) ∧ J ≠ L ∧ w.heap.size ≤ J ∧ w.heap.size ≤ L ∧ Below w.heap.size w w'
set_option maxRecDepth 20000 in
set_option maxHeartbeats 8000000 in
theorem iBegin (a b : Option Addr) (n c d : Nat) (F f : Nat → Int) (s0 : Pl) (w : World) (g : Gc n F) (hs0 : s0 = ruP false n F f 0) (h : IL w a (n * 3) F) (h2 : IL w b n f) :
    Calls Try.prog 50 #[.slice a n c, .slice b n d] w fun e w' => AnsBg n a c (jF F f s0) w w' e := by
  have hn6 := g.six
  have hn1 := g.one
  have hmk := run_make_row' (P := Try.prog) 24 3 (.int .i64 0) 8 Try.underlying24 infoI rfl .i64 .i64 n (by omega) (by omega)
  have hmj := run_make_jb n (by omega)
  obtain ⟨ij, hij, hzz⟩ := Option.map_eq_some_iff.1 infoJob
  simp only [Prod.mk.injEq] at hzz
  obtain ⟨-, hs2, -⟩ := hzz
  have HF0 : Hid (∀ k, jF F f s0 (k * 2) = f k ∧ jF F f s0 (k * 2 + 1) = F (k * 3 + 1)) := fun k => by
    rw [jF_0, jF_1, hs0]
    constructor
    · show f k + 0 * F (k * 3) = f k; omega
    · show F (k * 3 + 1) - 0 = _; omega
  have hbr : Below w.heap.size w (w.alloc (.cells #[.slice none 0 0, .slice none 0 0, .slice none 0 0, .slice none 0 0] 80)) := (Below.refl _ _).alloc (Nat.le_refl _) _
  clear hs0 g
  go_enter Try.func50, Try.ntmps50
  go_upto_region 1 with fail
  go_cut [5] from 8 to 15 (fun s5 wx => ∃ B J L, s5 = .pointer (some ⟨B, 0, none⟩) ∧ Bg w wx w.heap.size B J L n a c)
  case first =>
    go_region
    all_goals
      go_wp2_with fail
      go_meet
      case rel =>
        first
        | exact ⟨w.heap.size + 1, w.heap.size + 1 + 1, w.heap.size + 1 + 1 + 1, rfl, bg_of (by omega) (al4_1 _ _ _ _ _) (al4_0 _ _ _ _ _) (al4_2 _ _ _ _ _) (al4_3 _ _ _ _ _) (al4_b _ _ _ _ _) (by omega) (by omega)⟩
        | exact ⟨w.heap.size + 1, w.heap.size + 1 + 1 + 1, w.heap.size + 1 + 1, rfl, bg_of (by omega) (al4_1 _ _ _ _ _) (al4_0 _ _ _ _ _) (al4_3 _ _ _ _ _) (al4_2 _ _ _ _ _) (al4_b _ _ _ _ _) (by omega) (by omega)⟩
        | exact ⟨w.heap.size + 1 + 1, w.heap.size + 1, w.heap.size + 1 + 1 + 1, rfl, bg_of (by omega) (al4_2 _ _ _ _ _) (al4_0 _ _ _ _ _) (al4_1 _ _ _ _ _) (al4_3 _ _ _ _ _) (al4_b _ _ _ _ _) (by omega) (by omega)⟩
        | exact ⟨w.heap.size + 1 + 1, w.heap.size + 1 + 1 + 1, w.heap.size + 1, rfl, bg_of (by omega) (al4_2 _ _ _ _ _) (al4_0 _ _ _ _ _) (al4_3 _ _ _ _ _) (al4_1 _ _ _ _ _) (al4_b _ _ _ _ _) (by omega) (by omega)⟩
        | exact ⟨w.heap.size + 1 + 1 + 1, w.heap.size + 1, w.heap.size + 1 + 1, rfl, bg_of (by omega) (al4_3 _ _ _ _ _) (al4_0 _ _ _ _ _) (al4_1 _ _ _ _ _) (al4_2 _ _ _ _ _) (al4_b _ _ _ _ _) (by omega) (by omega)⟩
        | exact ⟨w.heap.size + 1 + 1 + 1, w.heap.size + 1 + 1, w.heap.size + 1, rfl, bg_of (by omega) (al4_3 _ _ _ _ _) (al4_0 _ _ _ _ _) (al4_2 _ _ _ _ _) (al4_1 _ _ _ _ _) (al4_b _ _ _ _ _) (by omega) (by omega)⟩
  case rest =>
    clear hmk hmj
    obtain ⟨B, J, L, rfl, hbx0, hR0, hO0, hL0, hB0, hne, hle⟩ := hcut
    have HO0 : Hid (OwnJ wc w.heap.size (.slice (some ⟨J, 0, none⟩) 0 n) 0 (jF F f s0)) := by
      have e : vL (fun _ => 0) (0 * 2) = vL (jF F f s0) (0 * 2) := by simp [vL]
      show OwnJ _ _ _ _ _
      unfold OwnJ at hO0 ⊢
      rw [← e]
      exact hO0
    clear hO0 hbr
    go_wp2
    generalize hR00 : w.heap.size = R0 at hR0 hne ⊢
    go_loopw [18] (fun i wr => ∃ k : Nat, k ≤ n ∧ i = .int .i64 (k : Int) ∧ Bx wr B [.slice a n c, .slice (some ⟨J, 0, none⟩) k n, .slice none 0 0, .slice (some ⟨L, 0, none⟩) n n] ∧ Hid (Bx wr R0 nil4) ∧ Hid (OwnJ wr w.heap.size (.slice (some ⟨J, 0, none⟩) k n) k (jF F f s0)) ∧ Hid (IP wr L n (fun _ => 0)) ∧ Below w.heap.size w wr) (fun i _ => n - (intOf i).toNat)
    case atStart => exact ⟨0, Nat.zero_le _, rfl, hbx0, hR0, HO0, hL0, hB0⟩
    case round =>
      obtain ⟨k, hk, rfl, hbx, HR, HO, HL, hB⟩ := hrel
      clear hbx0 hR0 HO0 hL0 hB0
      by_cases hlt : k < n
      · obtain ⟨gb, go_, rfl, gl_, x0, x1, x2⟩ := il_three (h.below hB) hlt
        obtain ⟨fb, fo_, rfl, fl_, hcw⟩ := h2 (by omega)
        have y0 := (hB.cell (p := ⟨fb, _, none⟩) fl_).trans (hcw k hlt)
        have i0 : (0 : Int) ≤ (k : Int) := by omega
        have i1 : (k : Int) < (n : Int) := by omega
        have HJ : Hid (vL (jF F f s0) ((k + 1) * 2) = vL (jF F f s0) (k * 2) ++ [.int .i64 (f k), .int .i64 (F (k * 3 + 1))]) := by
          show _ = _
          rw [show (k + 1) * 2 = k * 2 + 1 + 1 by omega, vL_succ, vL_succ, (HF0.out k).1, (HF0.out k).2]
          simp
        have hcl := hB.size
        have hJl : J < wr.heap.size := (ownJ_ip HO.out).lt
        have hBl := hbx.lt
        clear hcw HF0
        generalize F (k * 3) = P at *
        generalize F (k * 3 + 1) = N at *
        generalize F (k * 3 + 2) = D at *
        generalize f k = FK at *
        have hbt : Below wr.heap.size wr (wr.alloc (.cells #[.int .i64 P, .int .i64 N, .int .i64 D] 69)) := (Below.refl _ _).alloc (Nat.le_refl _) _
        have dr : ∀ (w : World), Below w.heap.size w w.drew := fun w => (Below.refl _ _).drew
        have b3 := bx_new (w := wr) [.int .i64 P, .int .i64 N, .int .i64 D] 69 rfl
        have b6 := b3.on (dr _)
        have hB6 := (stepA hB hbt).drew
        have bx6 := (hbx.on hbt).on (dr _)
        have hO6 := (HO.out.below hbt).below (dr _)
        have hL6 := (HL.out.below hbt HL.out.lt)
        have hL6 := hL6.below (dr _) hL6.lt
        have hR6 := (HR.out.on hbt).on (dr _)
        have y5 := (hbt.cell (p := ⟨fb, _, none⟩) (show fb < wr.heap.size by omega)).trans y0
        have fl5 : fb < (wr.alloc (.cells #[.int .i64 P, .int .i64 N, .int .i64 D] 69)).heap.size := by rw [size_al]; omega
        have y6 := ((dr _).cell (p := ⟨fb, _, none⟩) fl5).trans y5
        have fl6 : fb < (wr.alloc (.cells #[.int .i64 P, .int .i64 N, .int .i64 D] 69)).drew.heap.size := fl5
        have hfJ : fb ≠ J := by omega
        have hfB : fb ≠ B := by omega
        have hcJ : wr.heap.size ≠ J := by omega
        have hcB : wr.heap.size ≠ B := by omega
        have q1 := bx6.c1
        clear hbt b3 hbx HO HL HR y5 fl5
        go_upto_region 5 with fail
        clear x0 x1 x2 y0
        generalize hCB : wr.heap.size = CB at *
        clear hCB
        generalize wr.alloc (.cells #[.int .i64 P, .int .i64 N, .int .i64 D] 69) = w5 at *
        refine wp_region_held (S := (fun w' => w'.cell? ⟨fb, fo_ + k, none⟩ = some (.int .i64 FK) ∧ w'.cell? ⟨CB, 1, none⟩ = some (.int .i64 N))) (by kernel_rfl) ?_
        change wpAnyH _ _ _ _ _ _ _ _ (World.drew _)
        have hSw := (⟨y6, b6.c1⟩ : _ ∧ _)
        generalize hw6 : w5.drew = w6 at *
        clear hw6
        refine wpAnyH_take (i := 0) (v := .pointer (some ⟨B, 1, none⟩)) rfl (by kernel_rfl) (by kernel_rfl) (by kernel_rfl) (fun _ _ _ h => h) (Or.inl ⟨by rfl, ?_⟩) hSw ?_
        · intro wz hsz
          obtain ⟨e1, e2⟩ := hsz
          go_simp
        try simp [Act.put]
        refine wpAnyH_take (i := 2) (v := .slice (some ⟨fb, fo_, none⟩) n d) rfl (by kernel_rfl) (by kernel_rfl) (by kernel_rfl) (fun _ _ _ h => h) (Or.inl ⟨by rfl, ?_⟩) hSw ?_
        · intro wz hsz
          obtain ⟨e1, e2⟩ := hsz
          go_simp
        try simp [Act.put]
        refine wpAnyH_take (i := 3) (v := .int .i64 (k : Int)) rfl (by kernel_rfl) (by kernel_rfl) (by kernel_rfl) (fun _ _ _ h => h) (Or.inl ⟨by rfl, ?_⟩) hSw ?_
        · intro wz hsz
          obtain ⟨e1, e2⟩ := hsz
          go_simp
        try simp [Act.put]
        refine wpAnyH_take (i := 4) (v := .pointer (some ⟨fb, fo_ + k, none⟩)) rfl (by kernel_rfl) (by kernel_rfl) (by kernel_rfl) (fun _ _ _ h => h) (Or.inl ⟨by rfl, ?_⟩) hSw ?_
        · intro wz hsz
          obtain ⟨e1, e2⟩ := hsz
          go_simp
          try (intro h9; omega)
        try simp [Act.put]
        refine wpAnyH_take (i := 5) (v := .int .i64 FK) rfl (by kernel_rfl) (by kernel_rfl) (by kernel_rfl) (fun _ _ _ h => h) (Or.inl ⟨by rfl, ?_⟩) hSw ?_
        · intro wz hsz
          obtain ⟨e1, e2⟩ := hsz
          go_simp
        try simp [Act.put]
        refine wpAnyH_take (i := 6) (v := .pointer (some ⟨CB, 1, none⟩)) rfl (by kernel_rfl) (by kernel_rfl) (by kernel_rfl) (fun _ _ _ h => h) (Or.inl ⟨by rfl, ?_⟩) hSw ?_
        · intro wz hsz
          obtain ⟨e1, e2⟩ := hsz
          go_simp
        try simp [Act.put]
        refine wpAnyH_take (i := 7) (v := .int .i64 N) rfl (by kernel_rfl) (by kernel_rfl) (by kernel_rfl) (fun _ _ _ h => h) (Or.inl ⟨by rfl, ?_⟩) hSw ?_
        · intro wz hsz
          obtain ⟨e1, e2⟩ := hsz
          go_simp
        try simp [Act.put]
        refine wpAnyH_take (i := 8) (v := jbv FK N) rfl (by kernel_rfl) (by kernel_rfl) (by kernel_rfl) (fun _ _ _ h => h) (Or.inl ⟨by rfl, ?_⟩) hSw ?_
        · intro wz hsz
          obtain ⟨e1, e2⟩ := hsz
          go_simp
        try simp [Act.put]
        refine wpAnyH_ready (rs := [1, 9]) (by kernel_rfl) (by simp) ?_
        refine AllReadyH.cons rfl (fun K9 hK => ?_) (AllReadyH.cons rfl (fun K9 hK => ?_) AllReadyH.nil)
        · go_simp
          refine hK.out _ _ (hSw) (fun hSn => ?_)
          clear hK K9 hSw
          have hSw := hSn
          clear hSn
          try simp [Act.put]
          refine wpAnyH_ready (rs := [9]) (by kernel_rfl) (by simp) ?_
          refine AllReadyH.cons rfl (fun K9 hK => ?_) AllReadyH.nil
          go_simp
          have hbc : Below w6.heap.size w6 (w6.alloc (.cells #[.int .i64 FK, .int .i64 N] 59)) := (Below.refl _ _).alloc (Nat.le_refl _) _
          refine hK.out _ _ (⟨(hbc.cell (p := ⟨fb, _, none⟩) fl6).trans y6, (b6.on hbc).c1⟩) (fun hSn => ?_)
          clear hK K9 hSw
          have hSw := hSn
          clear hSn
          try simp [Act.put]
          obtain ⟨w7, hrun7, hown7, hgr7⟩ := run_append_fits (P := Try.prog) (w6.alloc (.cells #[.int .i64 FK, .int .i64 N] 59)) w.heap.size 78 78 59 ij 2 Try.underlying78 hij hs2 J k n (vL (jF F f s0) (k * 2)) (hO6.below hbc) ⟨w6.heap.size, 0, none⟩ 1 1 [.int .i64 FK, .int .i64 N] rfl (new2 w6 _ _ _) (fun u hu => by simp at hu; rcases hu with rfl | rfl <;> rfl) (by omega)
          have hk7 : ∀ q, q < w6.heap.size → q ≠ J → w7.heap[q]? = w6.heap[q]? := fun q h1 h2 => (hgr7.block q (by have := hbc.size; omega) (fun e9 => h2 (Option.some.inj e9))).trans (hbc.block q h1)
          have hsz7 : w6.heap.size ≤ w7.heap.size := Nat.le_trans hbc.size hgr7.size
          have hb7 : Below w.heap.size w w7 := (stepA hB6 hbc).grown hgr7 (Nat.le_trans hB6.size hbc.size) (fun q hq => by cases hq; exact hle.1)
          have bx7 : Bx w7 B _ := bx_same bx6 (hk7 B bx6.lt (fun e9 => hne.2.1 e9.symm)) hsz7
          refine wpAnyH_ready (rs := [10]) (by kernel_rfl) (by simp) ?_
          refine AllReadyH.cons rfl (fun K9 hK => ?_) AllReadyH.nil
          refine held_append (by kernel_rfl) (.tmp 24) (.tmp 32) 78 rfl rfl rfl hrun7 ?_
          have hy7 := (cell_same (hk7 fb fl6 hfJ) (fo_ + k)).trans y6
          have hc7 := (cell_same (hk7 CB b6.lt hcJ) 1).trans b6.c1
          refine hK.out _ _ (⟨hy7, hc7⟩) (fun hSn => ?_)
          clear hK K9 hSw
          have hSw := hSn
          clear hSn
          try simp [Act.put]
          refine wpAnyH_take (i := 11) (v := .pointer (some ⟨B, 1, none⟩)) rfl (by kernel_rfl) (by kernel_rfl) (by kernel_rfl) (fun _ _ _ h => h) (Or.inl ⟨by rfl, ?_⟩) hSw ?_
          · intro wz hsz
            obtain ⟨e1, e2⟩ := hsz
            go_simp
          try simp [Act.put]
          have q1 := bx7.c1
          have qf := bx7.fz 1
          have bx8 := bx7.set 1 (by simp) (.slice (some ⟨J, 0, none⟩) (k + 1) n)
          have HO8 : Hid (OwnJ (w7.setCell ⟨B, 1, none⟩ (.slice (some ⟨J, 0, none⟩) (k + 1) n)) w.heap.size (.slice (some ⟨J, 0, none⟩) (k + 1) n) (k + 1) (jF F f s0)) := by
            refine OwnJ.same (w := w7) ?_ (((Only.refl B w7).set 1 _).block J hne.2.1)
            unfold OwnJ
            rw [HJ.out]
            exact hown7
          have HL8 : Hid (IP (w7.setCell ⟨B, 1, none⟩ (.slice (some ⟨J, 0, none⟩) (k + 1) n)) L n (fun _ => 0)) := (ip_same hL6 (hk7 L hL6.lt (fun e9 => hne.1 e9.symm)) hsz7).only ((Only.refl B w7).set 1 _) hne.2.2.1
          have HR8 : Hid (Bx (w7.setCell ⟨B, 1, none⟩ (.slice (some ⟨J, 0, none⟩) (k + 1) n)) R0 nil4) := (bx_same hR6 (hk7 R0 hR6.lt hne.2.2.2.2.1) hsz7).far _ hne.2.2.2.1
          have hb8 := hb7.setCell (p := ⟨B, 1, none⟩) hle.2.2.1 (.slice (some ⟨J, 0, none⟩) (k + 1) n)
          have hy8 := (cell_same (((Only.refl B w7).set 1 (.slice (some ⟨J, 0, none⟩) (k + 1) n)).block fb hfB) (fo_ + k)).trans hy7
          have hc8 := (cell_same (((Only.refl B w7).set 1 (.slice (some ⟨J, 0, none⟩) (k + 1) n)).block CB hcB) 1).trans hc7
          clear hown7 hgr7 hrun7 hk7 hb7 hbc hsz7
          refine wpAnyH_ready (rs := [12]) (by kernel_rfl) (by simp) ?_
          refine AllReadyH.cons rfl (fun K9 hK => ?_) AllReadyH.nil
          go_simp
          refine hK.out _ _ (⟨hy8, hc8⟩) (fun hSn => ?_)
          clear hK K9 hSw
          have hSw := hSn
          clear hSn
          try simp [Act.put]
          refine wpAnyH_done (by kernel_rfl) ?_ _
          go_wp2
          go_roundw
          case rel => exact ⟨k + 1, by omega, by go_num, bx8, HR8, HO8, HL8, hb8⟩
          case measure => simp [intOf]; omega
        · go_simp
          have hbc : Below w6.heap.size w6 (w6.alloc (.cells #[.int .i64 FK, .int .i64 N] 59)) := (Below.refl _ _).alloc (Nat.le_refl _) _
          refine hK.out _ _ (⟨(hbc.cell (p := ⟨fb, _, none⟩) fl6).trans y6, (b6.on hbc).c1⟩) (fun hSn => ?_)
          clear hK K9 hSw
          have hSw := hSn
          clear hSn
          try simp [Act.put]
          have q5 := (bx6.on hbc).c1
          refine wpAnyH_ready (rs := [1]) (by kernel_rfl) (by simp) ?_
          refine AllReadyH.cons rfl (fun K9 hK => ?_) AllReadyH.nil
          go_simp
          refine hK.out _ _ (hSw) (fun hSn => ?_)
          clear hK K9 hSw
          have hSw := hSn
          clear hSn
          try simp [Act.put]
          obtain ⟨w7, hrun7, hown7, hgr7⟩ := run_append_fits (P := Try.prog) (w6.alloc (.cells #[.int .i64 FK, .int .i64 N] 59)) w.heap.size 78 78 59 ij 2 Try.underlying78 hij hs2 J k n (vL (jF F f s0) (k * 2)) (hO6.below hbc) ⟨w6.heap.size, 0, none⟩ 1 1 [.int .i64 FK, .int .i64 N] rfl (new2 w6 _ _ _) (fun u hu => by simp at hu; rcases hu with rfl | rfl <;> rfl) (by omega)
          have hk7 : ∀ q, q < w6.heap.size → q ≠ J → w7.heap[q]? = w6.heap[q]? := fun q h1 h2 => (hgr7.block q (by have := hbc.size; omega) (fun e9 => h2 (Option.some.inj e9))).trans (hbc.block q h1)
          have hsz7 : w6.heap.size ≤ w7.heap.size := Nat.le_trans hbc.size hgr7.size
          have hb7 : Below w.heap.size w w7 := (stepA hB6 hbc).grown hgr7 (Nat.le_trans hB6.size hbc.size) (fun q hq => by cases hq; exact hle.1)
          have bx7 : Bx w7 B _ := bx_same bx6 (hk7 B bx6.lt (fun e9 => hne.2.1 e9.symm)) hsz7
          refine wpAnyH_ready (rs := [10]) (by kernel_rfl) (by simp) ?_
          refine AllReadyH.cons rfl (fun K9 hK => ?_) AllReadyH.nil
          refine held_append (by kernel_rfl) (.tmp 24) (.tmp 32) 78 rfl rfl rfl hrun7 ?_
          have hy7 := (cell_same (hk7 fb fl6 hfJ) (fo_ + k)).trans y6
          have hc7 := (cell_same (hk7 CB b6.lt hcJ) 1).trans b6.c1
          refine hK.out _ _ (⟨hy7, hc7⟩) (fun hSn => ?_)
          clear hK K9 hSw
          have hSw := hSn
          clear hSn
          try simp [Act.put]
          refine wpAnyH_take (i := 11) (v := .pointer (some ⟨B, 1, none⟩)) rfl (by kernel_rfl) (by kernel_rfl) (by kernel_rfl) (fun _ _ _ h => h) (Or.inl ⟨by rfl, ?_⟩) hSw ?_
          · intro wz hsz
            obtain ⟨e1, e2⟩ := hsz
            go_simp
          try simp [Act.put]
          have q1 := bx7.c1
          have qf := bx7.fz 1
          have bx8 := bx7.set 1 (by simp) (.slice (some ⟨J, 0, none⟩) (k + 1) n)
          have HO8 : Hid (OwnJ (w7.setCell ⟨B, 1, none⟩ (.slice (some ⟨J, 0, none⟩) (k + 1) n)) w.heap.size (.slice (some ⟨J, 0, none⟩) (k + 1) n) (k + 1) (jF F f s0)) := by
            refine OwnJ.same (w := w7) ?_ (((Only.refl B w7).set 1 _).block J hne.2.1)
            unfold OwnJ
            rw [HJ.out]
            exact hown7
          have HL8 : Hid (IP (w7.setCell ⟨B, 1, none⟩ (.slice (some ⟨J, 0, none⟩) (k + 1) n)) L n (fun _ => 0)) := (ip_same hL6 (hk7 L hL6.lt (fun e9 => hne.1 e9.symm)) hsz7).only ((Only.refl B w7).set 1 _) hne.2.2.1
          have HR8 : Hid (Bx (w7.setCell ⟨B, 1, none⟩ (.slice (some ⟨J, 0, none⟩) (k + 1) n)) R0 nil4) := (bx_same hR6 (hk7 R0 hR6.lt hne.2.2.2.2.1) hsz7).far _ hne.2.2.2.1
          have hb8 := hb7.setCell (p := ⟨B, 1, none⟩) hle.2.2.1 (.slice (some ⟨J, 0, none⟩) (k + 1) n)
          have hy8 := (cell_same (((Only.refl B w7).set 1 (.slice (some ⟨J, 0, none⟩) (k + 1) n)).block fb hfB) (fo_ + k)).trans hy7
          have hc8 := (cell_same (((Only.refl B w7).set 1 (.slice (some ⟨J, 0, none⟩) (k + 1) n)).block CB hcB) 1).trans hc7
          clear hown7 hgr7 hrun7 hk7 hb7 hbc hsz7
          refine wpAnyH_ready (rs := [12]) (by kernel_rfl) (by simp) ?_
          refine AllReadyH.cons rfl (fun K9 hK => ?_) AllReadyH.nil
          go_simp
          refine hK.out _ _ (⟨hy8, hc8⟩) (fun hSn => ?_)
          clear hK K9 hSw
          have hSw := hSn
          clear hSn
          try simp [Act.put]
          refine wpAnyH_done (by kernel_rfl) ?_ _
          go_wp2
          go_roundw
          case rel => exact ⟨k + 1, by omega, by go_num, bx8, HR8, HO8, HL8, hb8⟩
          case measure => simp [intOf]; omega
      · have e : k = n := by omega
        subst e
        have i1 : ¬ (k : Int) < (k : Int) := by omega
        have c0 := hbx.c0
        have c1 := hbx.c1
        have c2 := hbx.c2
        have c3 := hbx.c3
        have HRR := HR.out
        have r0 := HRR.c0
        have r1 := HRR.c1
        have r2 := HRR.c2
        have r3 := HRR.c3
        have f0 := HRR.fz 0
        have f1 := HRR.fz 1
        have f2 := HRR.fz 2
        have f3 := HRR.fz 3
        have hbl := hbx.lt
        have hrl := HRR.lt
        have HJ := ownJ_ip HO.out
        have bz := (((HRR.set 0 (by simp) (.slice a k c)).set 1 (by simp) (.slice (some ⟨J, 0, none⟩) k k)).set 2 (by simp) (.slice none 0 0)).set 3 (by simp) (.slice (some ⟨L, 0, none⟩) k k)
        have on := ((((Only.refl R0 wr).set 0 (.slice a k c)).set 1 (.slice (some ⟨J, 0, none⟩) k k)).set 2 (.slice none 0 0)).set 3 (.slice (some ⟨L, 0, none⟩) k k)
        have hJ9 := HJ.only on (fun e9 => hne.2.2.2.2.1 e9.symm)
        have hL9 := HL.out.only on (fun e9 => hne.2.2.2.2.2 e9.symm)
        have hB9 := (((hB.setCell (p := ⟨R0, 0, none⟩) (show w.heap.size ≤ R0 by omega) (.slice a k c)).setCell (p := ⟨R0, 1, none⟩) (show w.heap.size ≤ R0 by omega) (.slice (some ⟨J, 0, none⟩) k k)).setCell (p := ⟨R0, 2, none⟩) (show w.heap.size ≤ R0 by omega) (.slice none 0 0)).setCell (p := ⟨R0, 3, none⟩) (show w.heap.size ≤ R0 by omega) (.slice (some ⟨L, 0, none⟩) k k)
        clear HO HL HR HRR HJ hB on
        go_wp2
        exact ret_play rfl rfl bz.c0 bz.c1 bz.c2 bz.c3 rfl ⟨J, L, rfl, hJ9, hL9, hne.1, hle.1, hle.2.1, hB9⟩
end Go.Proofs.Ytnadedncjbibhaa
