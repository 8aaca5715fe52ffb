/- Senders: the law's own copies of them, compared, marked, held; their sizes (tools/gen_tasn.py). -/
import Derived.Test.YtbhfkhlhfpmkmaaLqCopy
import Derived.Test.YtbhfkhlhfpmkmaaLqSz
import Derived.Test.YtbhfkhlhfpmkmaaLqMark
namespace Go.Proofs.Ytbhfkhlhfpmkmaa
open Go.RowKit
/-- a sender as a value -/
abbrev snv (a : Option Addr) (n c : Nat) (k t : Int) : Value := .agg #[.slice a n c, .int .i64 k, .int .i64 t]
abbrev snL (a : Option Addr) (n c : Nat) (k t : Int) : List Value := [.slice a n c, .int .i64 k, .int .i64 t]
abbrev snO (a : Option Addr) (n c : Nat) (k t : Int) (ty : TypeId) : Obj := .cells #[.slice a n c, .int .i64 k, .int .i64 t] ty
theorem ret_sn {fn : Func} {t : Tmp} {R : Ending → World → Prop} {a : Act} {w : World} {b : Nat} {u v x : Value} (h : fn.results = #[.cell t 44]) (hp : a.tmps.getD t undef = .pointer (some ⟨b, 0, none⟩)) (c : Bx w b [u, v, x]) (hd : a.defers = [])
    (hR : R (.returned (.agg #[u, v, x])) w) : bodyPost Try.prog fn R .ret a w := by
  refine bodyPost_ret ?_ hd hR
  have hp' : a.tmps[t]?.getD undef = .pointer (some ⟨b, 0, none⟩) := by simpa using hp
  simp [results, h, hp', asAddr, loadVar, go_sem, c.c0, c.c1, c.c2]
set_option maxHeartbeats 1000000 in
theorem toSender_any (a : Option Addr) (n c : Nat) (k t : Int) (f : Nat → Int) (w : World) (hn : n ≤ 1048576) (hf : IL w a n f) :
    Calls Try.prog 20 #[snv a n c k t] w fun e w' => ∃ b, e = .returned (snv (some ⟨b, 0, none⟩) n n k t) ∧ LQ w' w.heap.size w'.heap.size (some ⟨b, 0, none⟩) n f ∧ Below w.heap.size w w' := by
  go_enter Try.func20, Try.ntmps20
  go_wp2_with fail
  refine (copyQ a n c f _ hn (((hf.alloc _).alloc _).alloc _)).mono ?_
  rintro e w1 ⟨rfl, hL1, hs1, hb1⟩
  have bO := (((bx_new (w := w.alloc (snO a n c k t 40)) (b := w.heap.size + 1) (snL none 0 0 0 0) 44 (by simp)).alloc _).on hb1)
  have bT := ((bx_new (w := (w.alloc (snO a n c k t 40)).alloc (snO none 0 0 0 0 44)) (b := w.heap.size + 1 + 1) (snL none 0 0 0 0) 44 (by simp)).on hb1)
  have bA := ((((bx_new (w := w) (b := w.heap.size) (snL a n c k t) 40 rfl).alloc _).alloc _).on hb1)
  have hB1 := below_al (below_al (below_al hb1))
  simp only [size_al] at hL1 hs1
  clear hb1
  have q0 := bA.c0
  have q1 := bA.c1
  have q2 := bA.c2
  have y0 := bT.c0
  have y1 := bT.c1
  have y2 := bT.c2
  have yf := bT.fz 0
  have yf1 := bT.fz 1
  have yf2 := bT.fz 2
  have z0 := bO.c0
  have z1 := bO.c1
  have z2 := bO.c2
  have zf0 := bO.fz 0
  have zf1 := bO.fz 1
  have zf2 := bO.fz 2
  have bR := ((((((bO.far (b' := w.heap.size + 1 + 1) (k := 0) (.slice (some ⟨w.heap.size + 1 + 1 + 1, 0, none⟩) n n) (by omega)).far (b' := w.heap.size + 1 + 1) (k := 1) (.int .i64 k) (by omega)).far (b' := w.heap.size + 1 + 1) (k := 2) (.int .i64 t) (by omega)).set 0 (by simp) (.slice (some ⟨w.heap.size + 1 + 1 + 1, 0, none⟩) n n)).set 1 (by simp) (.int .i64 k)).set 2 (by simp) (.int .i64 t))
  have hL4 := (lq_set (lq_set (lq_set (lq_set (lq_set (lq_set hL1 (b := w.heap.size + 1 + 1) (k := 0) (.slice (some ⟨w.heap.size + 1 + 1 + 1, 0, none⟩) n n) (by omega)) (b := w.heap.size + 1 + 1) (k := 1) (.int .i64 k) (by omega)) (b := w.heap.size + 1 + 1) (k := 2) (.int .i64 t) (by omega)) (b := w.heap.size + 1) (k := 0) (.slice (some ⟨w.heap.size + 1 + 1 + 1, 0, none⟩) n n) (by omega)) (b := w.heap.size + 1) (k := 1) (.int .i64 k) (by omega)) (b := w.heap.size + 1) (k := 2) (.int .i64 t) (by omega))
  have hB4 := ((((((hB1.setCell (p := ⟨w.heap.size + 1 + 1, 0, none⟩) (by simp <;> omega) (.slice (some ⟨w.heap.size + 1 + 1 + 1, 0, none⟩) n n)).setCell (p := ⟨w.heap.size + 1 + 1, 1, none⟩) (by simp <;> omega) (.int .i64 k)).setCell (p := ⟨w.heap.size + 1 + 1, 2, none⟩) (by simp <;> omega) (.int .i64 t)).setCell (p := ⟨w.heap.size + 1, 0, none⟩) (by simp <;> omega) (.slice (some ⟨w.heap.size + 1 + 1 + 1, 0, none⟩) n n)).setCell (p := ⟨w.heap.size + 1, 1, none⟩) (by simp <;> omega) (.int .i64 k)).setCell (p := ⟨w.heap.size + 1, 2, none⟩) (by simp <;> omega) (.int .i64 t))
  go_wp2_with fail
  refine ret_sn Try.results20 rfl bR rfl ?_
  exact ⟨_, rfl, hL4.wide (by omega) (by simp only [size_set]; omega), hB4⟩
set_option maxHeartbeats 1000000 in
theorem eqSender_any (a a2 : Option Addr) (n c c2 : Nat) (k t : Int) (f : Nat → Int) (w : World) (hn : n ≤ 1048576) (hf : IL w a n f) (hf2 : IL w a2 n f) :
    Calls Try.prog 23 #[snv a n c k t, snv a2 n c2 k t] w fun e w' => e = .returned (.bool true) ∧ Below w.heap.size w w' := by
  go_enter Try.func23, Try.ntmps23
  have b0 := (bx_new (w := w) (b := w.heap.size) (snL a n c k t) 44 rfl).alloc (snO a2 n c2 k t 44)
  have b1 := bx_new (w := w.alloc (snO a n c k t 44)) (b := w.heap.size + 1) (snL a2 n c2 k t) 44 (by simp)
  have x0 := b0.c0
  have x3 := b1.c0
  go_wp2_with fail
  refine (eqI_any a a2 n c c2 f _ hn ((hf.alloc _).alloc _) ((hf2.alloc _).alloc _)).mono ?_
  rintro e w1 ⟨rfl, hb1⟩
  have d0 := b0.on hb1
  have d1 := b1.on hb1
  have hB1 := below_al (below_al hb1)
  clear hb1 b0 b1 x0 x3
  have x1 := d0.c1
  have x2 := d0.c2
  have x4 := d1.c1
  have x5 := d1.c2
  go_wp2
  go_ret
  exact ⟨rfl, hB1⟩
set_option maxHeartbeats 1000000 in
theorem szSender_in (a : Option Addr) (n c : Nat) (k t : Int) (w : World) (h : n ≤ 1048576) :
    Calls Try.prog 18 #[snv a n c k t, .int .i64 1048576] w fun e w' => e = .returned (.int .i64 (1048576 - (n : Int))) ∧ Below w.heap.size w w' := by
  have j1 : ¬ (1048576 : Int) - (n : Int) < 0 := by omega
  have hb0 : Below w.heap.size w (w.alloc (snO a n c k t 40)) := (Below.refl _ _).alloc (Nat.le_refl _) _
  go_enter Try.func18, Try.ntmps18
  go_wp2_with fail
  refine (szI_in a n c 1048576 _ (by omega) (by omega)).mono ?_
  rintro e w1 ⟨rfl, hw1⟩
  have hs1 := hw1.symm
  clear hw1
  subst hs1
  go_wp2
  go_ret
  exact ⟨rfl, hb0⟩
set_option maxHeartbeats 1000000 in
theorem szSender_out (a : Option Addr) (n c : Nat) (k t : Int) (w : World) (h : 1048576 < n) (hn : n ≤ 9223372036854775807) :
    Calls Try.prog 18 #[snv a n c k t, .int .i64 1048576] w fun e w' => e = .returned (.int .i64 (-1)) ∧ Below w.heap.size w w' := by
  have hb0 : Below w.heap.size w (w.alloc (snO a n c k t 40)) := (Below.refl _ _).alloc (Nat.le_refl _) _
  go_enter Try.func18, Try.ntmps18
  go_wp2_with fail
  refine (szI_out a n c 1048576 _ (by omega) (by omega) hn).mono ?_
  rintro e w1 ⟨rfl, hw1⟩
  have hs1 := hw1.symm
  clear hw1
  subst hs1
  go_wp2
  go_ret
  exact ⟨rfl, hb0⟩
set_option maxHeartbeats 1000000 in
theorem markSender_any (a : Option Addr) (n c k0 lo hi : Nat) (k t : Int) (f : Nat → Int) (w : World) (hn : n ≤ 1048576) (hk : k0 ≤ 1048576) (h : LQ w lo hi a n f) :
    Calls Try.prog 24 #[snv a n c k t, .int .i64 (k0 : Int)] w fun e w' => e = .returned (.int .i64 ((k0 : Int) + (n : Int))) ∧ LQ w' lo hi a n (fun i => (k0 : Int) + (i : Int)) ∧ Turns lo hi w w' := by
  go_enter Try.func24, Try.ntmps24
  have hb0 : Below w.heap.size w (w.alloc (snO a n c k t 44)) := (Below.refl _ _).alloc (Nat.le_refl _) _
  have hT0 : Turns lo hi w (w.alloc (snO a n c k t 44)) := turns_of hb0
  go_wp2_with fail
  refine (markQ a n c k0 lo hi f _ hn (by omega) (h.on hb0)).mono ?_
  rintro e w1 ⟨rfl, hf1, hO1⟩
  have hT1 := hT0.trans hO1.turns
  clear hb0 hT0 h hO1
  go_wp2
  go_ret
  exact ⟨rfl, hf1, hT1⟩
set_option maxHeartbeats 1000000 in
theorem heldSender_any (a : Option Addr) (n c k0 lo hi : Nat) (k t : Int) (w : World) (hn : n ≤ 1048576) (hk : k0 ≤ 1048576) (h : LQ w lo hi a n (fun i => (k0 : Int) + (i : Int))) :
    Calls Try.prog 25 #[snv a n c k t, .int .i64 (k0 : Int)] w fun e w' => e = .returned (.int .i64 ((k0 : Int) + (n : Int))) ∧ Below w.heap.size w w' := by
  have j1 : ¬ (k0 : Int) + (n : Int) < 0 := by omega
  go_enter Try.func25, Try.ntmps25
  have hb0 : Below w.heap.size w (w.alloc (snO a n c k t 44)) := (Below.refl _ _).alloc (Nat.le_refl _) _
  go_wp2_with fail
  refine (heldQ a n c k0 lo hi _ hn (by omega) (h.on hb0)).mono ?_
  rintro e w1 ⟨rfl, hw1⟩
  have hs1 := hw1.symm
  clear hw1
  subst hs1
  go_wp2
  go_ret
  exact ⟨rfl, hb0⟩
end Go.Proofs.Ytbhfkhlhfpmkmaa
