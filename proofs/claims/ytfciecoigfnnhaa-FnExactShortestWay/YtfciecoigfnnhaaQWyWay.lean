/- The law's own functions on such lists: copies, marks, sizes. -/
import Derived.Test.YtfciecoigfnnhaaQClVal
import Derived.Test.YtfciecoigfnnhaaQInList
import Derived.Test.YtfciecoigfnnhaaQWyCh
namespace Go.Proofs.Ytfciecoigfnnhaa
open Go.RowKit

theorem copyQ (a : Option Addr) (len cap : Nat) (f : Nat → Int) (w : World) (hl : len ≤ 1048576) (hc : IL w a len f) :
    Calls Try.prog 31 #[.slice a len cap] w fun e w' => e = .returned (.slice (some ⟨w.heap.size, 0, none⟩) len len) ∧ LQ w' w.heap.size (w.heap.size + 1) (some ⟨w.heap.size, 0, none⟩) len f ∧ w.heap.size < w'.heap.size ∧ Below w.heap.size w w' :=
  (copyI_any a len cap f w hl hc).mono fun e w' ⟨v, h1, h2, h3, h4⟩ => ⟨by rw [h1, h2], lq_of (row_ip h3) (Nat.le_refl _) (Nat.lt_succ_self _), h3.lt, h4⟩
theorem markQ (a : Option Addr) (n cap m lo hi : Nat) (F : Nat → Int) (w : World) (hn : n ≤ 1048576) (hm : m ≤ 1048576 * 4) (h : LQ w lo hi a n F) :
    Calls Try.prog 71 #[.slice a n cap, .int .i64 (m : Int)] w fun e w' => e = .returned (.int .i64 ((m : Int) + (n : Int))) ∧ LQ w' lo hi a n (fun i => (m : Int) + (i : Int)) ∧ OnlyIn lo hi w w' := by
  by_cases h0 : 0 < n
  · obtain ⟨b, rfl, h1, h2, hP⟩ := h h0
    exact (markP_any b n cap m F w hn hm hP).mono fun e w' ⟨h3, h4, h5⟩ => ⟨h3, lq_of h4 h1 h2, OnlyIn.of h5 h1 h2⟩
  · have : n = 0 := by omega
    subst this
    refine (markI_zero a cap m w).mono fun e w' ⟨h3, h4⟩ => ?_
    subst h4
    exact ⟨by rw [h3]; simp, lq_none _ _ _ _ _, OnlyIn.refl _ _ _⟩
theorem heldQ (a : Option Addr) (n cap m lo hi : Nat) (w : World) (hn : n ≤ 1048576) (hm : m ≤ 1048576 * 4) (h : LQ w lo hi a n (fun i => (m : Int) + (i : Int))) :
    Calls Try.prog 72 #[.slice a n cap, .int .i64 (m : Int)] w fun e w' => e = .returned (.int .i64 ((m : Int) + (n : Int))) ∧ w' = w := by
  by_cases h0 : 0 < n
  · obtain ⟨b, rfl, h1, h2, hP⟩ := h h0
    exact heldP_any b n cap m w hn hm hP
  · have : n = 0 := by omega
    subst this
    exact (heldI_zero a cap m w).mono fun e w' ⟨h3, h4⟩ => ⟨by rw [h3]; simp, h4⟩

theorem markT (a : Option Addr) (n cap m lo hi : Nat) (F : Nat → Int) (w : World) (hn : n ≤ 1048576) (hm : m ≤ 1048576 * 4) (h : LQ w lo hi a n F) :
    Calls Try.prog 71 #[.slice a n cap, .int .i64 (m : Int)] w fun e w' => e = .returned (.int .i64 ((m : Int) + (n : Int))) ∧ LQ w' lo hi a n (fun i => (m : Int) + (i : Int)) ∧ Turns lo hi w w' :=
  (markQ a n cap m lo hi F w hn hm h).mono fun _ _ ⟨h1, h2, h3⟩ => ⟨h1, h2, h3.turns⟩
set_option maxHeartbeats 400000 in
theorem szI_in (a : Option Addr) (n c : Nat) (l : Int) (w : World) (h0 : (n : Int) ≤ l) (h1 : l ≤ 1048576) :
    Calls Try.prog 70 #[.slice a n c, .int .i64 l] w fun e w' => e = .returned (.int .i64 (l - (n : Int))) ∧ w' = w := by
  have j : ¬ l - (n : Int) < 0 := by omega
  go_enter Try.func70, Try.ntmps70
  go_wp2
  go_ret
  exact ⟨rfl, rfl⟩
set_option maxHeartbeats 400000 in
theorem szI_out (a : Option Addr) (n c : Nat) (l : Int) (w : World) (h0 : l < (n : Int)) (h1 : 0 ≤ l) (hm : n ≤ 9223372036854775807) :
    Calls Try.prog 70 #[.slice a n c, .int .i64 l] w fun e w' => e = .returned (.int .i64 (-1)) ∧ w' = w := by
  have j : l - (n : Int) < 0 := by omega
  go_enter Try.func70, Try.ntmps70
  go_wp2
  go_ret
  exact ⟨rfl, rfl⟩
end Go.Proofs.Ytfciecoigfnnhaa

/- Cells: the law's own copies of them, compared, marked, and held. -/
namespace Go.Proofs.Ytfciecoigfnnhaa
open Go.RowKit

set_option maxHeartbeats 1000000 in
theorem toCells_any (W : Int) (a : Option Addr) (n c : Nat) (f : Nat → Int) (w : World) (hn : n ≤ 1048576) (hf : IL w a n f) :
    Calls Try.prog 30 #[cel W a n c] w fun e w' => ∃ a', e = .returned (cel W a' n n) ∧ LQ w' w.heap.size w'.heap.size a' n f ∧ Below w.heap.size w w' := by
  go_enter Try.func30, Try.ntmps30
  go_wp2_with fail
  refine (copyQ a n c f _ hn (((hf.alloc _).alloc _).alloc _)).mono ?_
  rintro e w1 ⟨rfl, hL1, hs1, hb1⟩
  have bO := (((bx_new (w := w.alloc (celO W a n c 53)) (b := w.heap.size + 1) (celL 0 none 0 0) 25 (by simp)).alloc _).on hb1)
  have bT := ((bx_new (w := (w.alloc (celO W a n c 53)).alloc (celO 0 none 0 0 25)) (b := w.heap.size + 1 + 1) (celL W none 0 0) 25 (by simp)).on hb1)
  have hB1 := below_al (below_al (below_al hb1))
  simp only [size_al] at hL1 hs1
  clear hb1
  have y0 := bT.c0
  have y1 := bT.c1
  have yf := bT.fz 1
  have z0 := bO.c0
  have z1 := bO.c1
  have zf0 := bO.fz 0
  have zf1 := bO.fz 1
  have bR := ((bO.far (b' := w.heap.size + 1 + 1) (k := 1) (.slice (some ⟨w.heap.size + 1 + 1 + 1, 0, none⟩) n n) (by omega)).set 0 (by simp) (.int .i64 W)).set 1 (by simp) (.slice (some ⟨w.heap.size + 1 + 1 + 1, 0, none⟩) n n)
  have hL4 := lq_set (lq_set (lq_set hL1 (b := w.heap.size + 1 + 1) (k := 1) (.slice (some ⟨w.heap.size + 1 + 1 + 1, 0, none⟩) n n) (by omega)) (b := w.heap.size + 1) (k := 0) (.int .i64 W) (by omega)) (b := w.heap.size + 1) (k := 1) (.slice (some ⟨w.heap.size + 1 + 1 + 1, 0, none⟩) n n) (by omega)
  have hB4 := ((hB1.setCell (p := ⟨w.heap.size + 1 + 1, 1, none⟩) (by simp <;> omega) (.slice (some ⟨w.heap.size + 1 + 1 + 1, 0, none⟩) n n)).setCell (p := ⟨w.heap.size + 1, 0, none⟩) (by simp <;> omega) (.int .i64 W)).setCell (p := ⟨w.heap.size + 1, 1, none⟩) (by simp <;> omega) (.slice (some ⟨w.heap.size + 1 + 1 + 1, 0, none⟩) n n)
  go_wp2_with fail
  refine ret_cel Try.results30 rfl bR.c0 bR.c1 rfl ?_
  exact ⟨_, rfl, hL4.wide (by omega) (by simp only [size_set]; omega), hB4⟩

set_option maxHeartbeats 1000000 in
theorem eqCells_any (W : Int) (a a2 : Option Addr) (n c c2 : Nat) (f : Nat → Int) (w : World) (hn : n ≤ 1048576) (hf : IL w a n f) (hf2 : IL w a2 n f) :
    Calls Try.prog 32 #[cel W a n c, cel W a2 n c2] w fun e w' => e = .returned (.bool true) ∧ Below w.heap.size w w' := by
  go_enter Try.func32, Try.ntmps32
  go_wp2_with fail
  refine (eqI_any a a2 n c c2 f _ hn ((hf.alloc _).alloc _) ((hf2.alloc _).alloc _)).mono ?_
  rintro e w1 ⟨rfl, hb1⟩
  have hB1 := below_al (below_al hb1)
  clear hb1
  go_wp2
  go_ret
  exact ⟨rfl, hB1⟩

set_option maxHeartbeats 1000000 in
theorem markCells_any (W : Int) (a : Option Addr) (n c k lo hi : Nat) (f : Nat → Int) (w : World) (hn : n ≤ 1048576) (hk : k ≤ 1048576) (h : LQ w lo hi a n f) :
    Calls Try.prog 35 #[cel W a n c, .int .i64 (k : Int)] w fun e w' => e = .returned (.int .i64 ((k : Int) + (n : Int))) ∧ LQ w' lo hi a n (fun i => (k : Int) + (i : Int)) ∧ Turns lo hi w w' := by
  go_enter Try.func35, Try.ntmps35
  have hb0 : Below w.heap.size w (w.alloc (celO W a n c 25)) := (Below.refl _ _).alloc (Nat.le_refl _) _
  have hT0 : Turns lo hi w (w.alloc (celO W a n c 25)) := turns_of hb0
  go_wp2_with fail
  refine (markQ a n c k lo hi f _ hn (by omega) (h.on hb0)).mono ?_
  rintro e w1 ⟨rfl, hf1, hO1⟩
  have hT1 := hT0.trans hO1.turns
  clear hb0 hT0 h hO1
  go_wp2
  go_ret
  exact ⟨rfl, hf1, hT1⟩
set_option maxHeartbeats 1000000 in
theorem szCells_in (W : Int) (a : Option Addr) (n c : Nat) (w : World) (h : n ≤ 1048576) :
    Calls Try.prog 28 #[cel W a n c, .int .i64 1048576] w fun e w' => e = .returned (.int .i64 (1048576 - (n : Int))) ∧ Below w.heap.size w w' := by
  have j1 : ¬ (1048576 : Int) - (n : Int) < 0 := by omega
  have hb0 : Below w.heap.size w (w.alloc (celO W a n c 53)) := (Below.refl _ _).alloc (Nat.le_refl _) _
  go_enter Try.func28, Try.ntmps28
  go_wp2_with fail
  refine (szI_in a n c 1048576 _ (by omega) (by omega)).mono ?_
  rintro e w1 ⟨rfl, hw1⟩
  have hs1 := hw1.symm
  clear hw1
  subst hs1
  go_wp2
  go_ret
  exact ⟨rfl, hb0⟩
set_option maxHeartbeats 1000000 in
theorem szCells_out (W : Int) (a : Option Addr) (n c : Nat) (w : World) (h : 1048576 < n) (hn : n ≤ 9223372036854775807) :
    Calls Try.prog 28 #[cel W a n c, .int .i64 1048576] w fun e w' => e = .returned (.int .i64 (-1)) ∧ Below w.heap.size w w' := by
  have hb0 : Below w.heap.size w (w.alloc (celO W a n c 53)) := (Below.refl _ _).alloc (Nat.le_refl _) _
  go_enter Try.func28, Try.ntmps28
  go_wp2_with fail
  refine (szI_out a n c 1048576 _ (by omega) (by omega) hn).mono ?_
  rintro e w1 ⟨rfl, hw1⟩
  have hs1 := hw1.symm
  clear hw1
  subst hs1
  go_wp2
  go_ret
  exact ⟨rfl, hb0⟩
end Go.Proofs.Ytfciecoigfnnhaa

/- Ways: the law's own functions on them. -/
namespace Go.Proofs.Ytfciecoigfnnhaa
open Go.RowKit

/-- a way as a value -/
abbrev wyv (a : Option Addr) (n c : Nat) (s d : Int) : Value := .agg #[.slice a n c, .int .i64 s, .int .i64 d]
abbrev wyO (a : Option Addr) (n c : Nat) (s d : Int) (t : TypeId) : Obj := .cells #[.slice a n c, .int .i64 s, .int .i64 d] t
theorem Shrt.len {W : Int} {n : Nat} {f : Nat → Int} {p v : Int} {l : List Int} {s d : Int} {q : Bool} (h : Shrt W n f p v l s d q) : l.length ≤ 257 := by
  rcases h with ⟨_, _, x, y, A, B, hx, _, hp, _, hD, h0, _, _, hC⟩ | ⟨_, e, _⟩
  · have hxn : x < n := by have := frB_t hp; omega
    have h1 := ch_len hD (stN_in W n f) hC hxn h0
    have h2 := hD.bnd x hxn h0
    omega
  · subst e; simp

set_option maxHeartbeats 1000000 in
theorem eqWay_any (a a2 : Option Addr) (n c c2 : Nat) (s d : Int) (f : Nat → Int) (w : World) (hn : n ≤ 1048576) (hf : IL w a n f) (hf2 : IL w a2 n f) :
    Calls Try.prog 34 #[wyv a n c s d, wyv a2 n c2 s d] w fun e w' => e = .returned (.bool true) ∧ Below w.heap.size w w' := by
  have bA := (bx_new (w := w) [.slice a n c, .int .i64 s, .int .i64 d] 30 rfl).alloc (wyO a2 n c2 s d 30)
  have bB := bx_new (w := w.alloc (wyO a n c s d 30)) (b := w.heap.size + 1) [.slice a2 n c2, .int .i64 s, .int .i64 d] 30 (by simp)
  have x0 := bA.c0
  have y0 := bB.c0
  go_enter Try.func34, Try.ntmps34
  go_wp2_with fail
  refine (eqI_any a a2 n c c2 f _ hn ((hf.alloc _).alloc _) ((hf2.alloc _).alloc _)).mono ?_
  rintro e w1 ⟨rfl, hb1⟩
  have bA1 := bA.on hb1
  have bB1 := bB.on hb1
  have z1 := bA1.c1
  have z2 := bA1.c2
  have v1 := bB1.c1
  have v2 := bB1.c2
  have hB1 := below_al (below_al hb1)
  clear hb1 x0 y0 bA bB
  go_wp2
  go_ret
  exact ⟨rfl, hB1⟩
set_option maxHeartbeats 1000000 in
theorem markWay_any (a : Option Addr) (n c k lo hi : Nat) (s d : Int) (f : Nat → Int) (w : World) (hn : n ≤ 1048576) (hk : k ≤ 1048576) (h : LQ w lo hi a n f) :
    Calls Try.prog 36 #[wyv a n c s d, .int .i64 (k : Int)] w fun e w' => e = .returned (.int .i64 ((k : Int) + (n : Int))) ∧ LQ w' lo hi a n (fun i => (k : Int) + (i : Int)) ∧ Turns lo hi w w' := by
  go_enter Try.func36, Try.ntmps36
  have hb0 : Below w.heap.size w (w.alloc (wyO a n c s d 30)) := (Below.refl _ _).alloc (Nat.le_refl _) _
  have hT0 : Turns lo hi w (w.alloc (wyO a n c s d 30)) := turns_of hb0
  go_wp2_with fail
  refine (markQ a n c k lo hi f _ hn (by omega) (h.on hb0)).mono ?_
  rintro e w1 ⟨rfl, hf1, hO1⟩
  have hT1 := hT0.trans hO1.turns
  clear hb0 hT0 h hO1
  go_wp2
  go_ret
  exact ⟨rfl, hf1, hT1⟩
set_option maxHeartbeats 1000000 in
theorem heldWay_any (a : Option Addr) (n c k lo hi : Nat) (s d : Int) (w : World) (hn : n ≤ 1048576) (hk : k ≤ 1048576) (h : LQ w lo hi a n (fun i => (k : Int) + (i : Int))) :
    Calls Try.prog 37 #[wyv a n c s d, .int .i64 (k : Int)] w fun e w' => e = .returned (.int .i64 ((k : Int) + (n : Int))) ∧ Below w.heap.size w w' := by
  have j : ¬ (k : Int) + (n : Int) < 0 := by omega
  go_enter Try.func37, Try.ntmps37
  have hb0 : Below w.heap.size w (w.alloc (wyO a n c s d 30)) := (Below.refl _ _).alloc (Nat.le_refl _) _
  go_wp2_with fail
  refine (heldQ a n c k lo hi _ hn (by omega) (h.on hb0)).mono ?_
  rintro e w1 ⟨rfl, hw1⟩
  have hs1 := hw1.symm
  clear hw1
  subst hs1
  go_wp2
  go_ret
  exact ⟨rfl, hb0⟩
end Go.Proofs.Ytfciecoigfnnhaa
