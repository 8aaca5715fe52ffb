/- The cursor that draws: each step answers within its bounds and changes the cursor's own block alone. -/
import Derived.Test.YtbndhhjgjalecaaDoorQClVal
import Derived.Laws.BitsLemmas
import Derived.Test.YtbndhhjgjalecaaDoorQClNxB
namespace Go.Proofs.YtbndhhjgjalecaaDoor
open Go.RowKit

/-- block C holds a cursor over len bytes; it has taken n of them -/
structure Cur (w : World) (C : Nat) (a : Option Addr) (len cap : Nat) (n : Nat) : Prop where
  lt : C < w.heap.size
  code : w.cell? ⟨C, 0, none⟩ = some (.slice a len cap)
  at_ : w.cell? ⟨C, 1, none⟩ = some (.int .i64 (n : Int))
  seed : ∃ s : Int, w.cell? ⟨C, 2, none⟩ = some (.int .u64 s) ∧ 0 ≤ s ∧ s < 18446744073709551616
  f1 : w.frozen? ⟨C, 1, none⟩ = false
  f2 : w.frozen? ⟨C, 2, none⟩ = false
  bytes : 0 < len → ∃ b off, a = some ⟨b, off, none⟩ ∧ b < C ∧ ∀ i, i < len → ∃ v : Int, w.cell? ⟨b, off + i, none⟩ = some (.int .u8 v) ∧ 0 ≤ v ∧ v ≤ 255
  small : len ≤ 1048576

theorem Cur.below {w w' : World} {B C : Nat} {a : Option Addr} {len cap n : Nat} (h : Cur w C a len cap n) (k : Below B w w') (hB : C < B) : Cur w' C a len cap n := by
  obtain ⟨s, hs, hs1, hs2⟩ := h.seed
  refine ⟨Nat.lt_of_lt_of_le h.lt k.size, (k.cell (p := ⟨C, _, none⟩) hB).trans h.code, (k.cell (p := ⟨C, _, none⟩) hB).trans h.at_, ⟨s, (k.cell (p := ⟨C, _, none⟩) hB).trans hs, hs1, hs2⟩, (k.frozen (p := ⟨C, _, none⟩) hB).trans h.f1, (k.frozen (p := ⟨C, _, none⟩) hB).trans h.f2, fun h0 => ?_, h.small⟩
  obtain ⟨b, off, ha, hb, hc⟩ := h.bytes h0
  refine ⟨b, off, ha, hb, fun i hi => ?_⟩
  obtain ⟨v, hv, hv1⟩ := hc i hi
  exact ⟨v, (k.cell (p := ⟨b, _, none⟩) (Nat.lt_trans hb hB)).trans hv, hv1⟩

/-- the cursor behind a step -/
theorem Cur.step {w w' : World} {C : Nat} {a : Option Addr} {len cap n m : Nat} {s : Int} (h : Cur w C a len cap n) (k : Only C w w') (h0 : w'.cell? ⟨C, 0, none⟩ = some (.slice a len cap)) (h1 : w'.cell? ⟨C, 1, none⟩ = some (.int .i64 (m : Int))) (h2 : w'.cell? ⟨C, 2, none⟩ = some (.int .u64 s)) (hs : 0 ≤ s ∧ s < 18446744073709551616) (f1 : w'.frozen? ⟨C, 1, none⟩ = false) (f2 : w'.frozen? ⟨C, 2, none⟩ = false) : Cur w' C a len cap m := by
  refine ⟨by rw [k.size]; exact h.lt, h0, h1, ⟨s, h2, hs⟩, f1, f2, fun hl => ?_, h.small⟩
  obtain ⟨b, off, ha, hb, hc⟩ := h.bytes hl
  refine ⟨b, off, ha, hb, fun i hi => ?_⟩
  obtain ⟨v, hv, hv1⟩ := hc i hi
  exact ⟨v, (World.cell?_of_block (w := w) (k.block b (Nat.ne_of_lt hb))).trans hv, hv1⟩

theorem Cur.drew {w : World} {C : Nat} {a : Option Addr} {len cap n : Nat} (h : Cur w C a len cap n) : Cur w.drew C a len cap n := ⟨h.lt, h.code, h.at_, h.seed, h.f1, h.f2, h.bytes, h.small⟩
theorem Cur.two {w : World} {C : Nat} {a : Option Addr} {len cap n : Nat} (h : Cur w C a len cap n) (y : Int) (hy : 0 ≤ y ∧ y < 18446744073709551616) :
    Cur ((w.setCell ⟨C, 1, none⟩ (.int .i64 ((n : Int) + 1))).setCell ⟨C, 2, none⟩ (.int .u64 y)) C a len cap (n + 1) ∧ Only C w ((w.setCell ⟨C, 1, none⟩ (.int .i64 ((n : Int) + 1))).setCell ⟨C, 2, none⟩ (.int .u64 y)) := by
  have hO : Only C w ((w.setCell ⟨C, 1, none⟩ (.int .i64 ((n : Int) + 1))).setCell ⟨C, 2, none⟩ (.int .u64 y)) := ((Only.refl C w).set 1 _).set 2 _
  obtain ⟨s, hs, _⟩ := h.seed
  refine ⟨h.step hO ?_ ?_ ?_ hy (by simpa using h.f1) (by simpa using h.f2), hO⟩
  · exact (World.cell?_setCell_other _ _ _ _ (by simp)).trans ((World.cell?_setCell_other _ _ _ _ (by simp)).trans h.code)
  · exact (World.cell?_setCell_other _ _ _ _ (by simp)).trans (World.cell?_setCell_same _ _ _ h.at_)
  · exact World.cell?_setCell_same _ _ _ ((World.cell?_setCell_other _ _ _ _ (by simp)).trans hs)
theorem u64_bd (x : Int) : 0 ≤ IntKind.u64.wrap x ∧ IntKind.u64.wrap x < 18446744073709551616 := by
  have e : IntKind.u64.wrap x = x % 18446744073709551616 := by simp [IntKind.wrap, IntKind.signed, IntKind.bits]
  rw [e]
  omega
theorem byte_bd (x : Int) : 0 ≤ wrap64 (bits .and .u64 (IntKind.u64.wrap x / 1099511627776) 255) ∧ wrap64 (bits .and .u64 (IntKind.u64.wrap x / 1099511627776) 255) ≤ 255 := by
  have hb := u64_bd x
  generalize IntKind.u64.wrap x = y at hb
  have h := bits_mask .u64 63 (by decide) (fun n h0 h1 => by rw [IntKind.wrap_u64]; omega) 8 (by decide) (y / 1099511627776) (by omega) (by omega)
  have e : ((2 : Int) ^ 8 - 1) = 255 := by decide
  have e2 : ((2 : Int) ^ 8) = 256 := by decide
  rw [e, e2] at h
  rw [h]
  unfold wrap64
  omega

set_option maxHeartbeats 2000000 in
theorem next_any (C : Nat) (a : Option Addr) (len cap n : Nat) (w : World) (h : Cur w C a len cap n) (hn : n ≤ 1048576) :
    Calls Tryd.prog 57 #[.pointer (some ⟨C, 0, none⟩)] w fun e w' => ∃ v : Int, e = .returned (.int .i64 v) ∧ (0 ≤ v ∧ v ≤ 255) ∧ Cur w' C a len cap (n + 1) ∧ Only C w w' := by
  have hsm := h.small
  obtain ⟨s, hs, hs1, hs2⟩ := h.seed
  have c0 := h.code
  have c1 := h.at_
  have g1 := h.f1
  have g2 := h.f2
  by_cases hlt : n < len
  · obtain ⟨b, off, rfl, hb, hc⟩ := h.bytes (by omega)
    obtain ⟨v, hv, hv1⟩ := hc n hlt
    have i0 : (0 : Int) ≤ (n : Int) := by omega
    have i1 : (n : Int) < (len : Int) := by omega
    have i2 : (n : Int) + 1 ≤ (len : Int) := by omega
    clear hc
    go_enter Tryd.func57, Tryd.ntmps57
    go_wp2
    go_region
    go_wp2
    go_region
    go_wp2
    go_region
    go_wp2
    go_ret
    exact ⟨v, rfl, hv1, (h.two _ (u64_bd _)).1.drew.drew.drew, (h.two _ (u64_bd _)).2.drew.drew.drew⟩
  · have i1 : ¬ (n : Int) < (len : Int) := by omega
    have i2 : ¬ (n : Int) + 1 ≤ (len : Int) := by omega
    go_enter Tryd.func57, Tryd.ntmps57
    go_wp2
    go_region
    go_wp2
    go_region
    go_wp2
    go_ret
    exact ⟨_, rfl, byte_bd _, (h.two _ (u64_bd _)).1.drew.drew, (h.two _ (u64_bd _)).2.drew.drew⟩
end Go.Proofs.YtbndhhjgjalecaaDoor

/- What the cursor draws: a number below another one, yes or no, one of some numbers. -/
namespace Go.Proofs.YtbndhhjgjalecaaDoor
open Go.RowKit

theorem emod_le {x m : Int} (hx : 0 ≤ x) (hm : 0 < m) : x % m ≤ x := by
  have h := Int.emod_add_mul_ediv x m
  have h1 := Int.mul_nonneg (Int.le_of_lt hm) (Int.ediv_nonneg hx (Int.le_of_lt hm))
  omega
set_option maxHeartbeats 1000000 in
theorem pick_any (C : Nat) (a : Option Addr) (len cap n : Nat) (m : Int) (w : World) (h : Cur w C a len cap n) (hn : n ≤ 1000000) :
    Calls Tryd.prog 31 #[.pointer (some ⟨C, 0, none⟩), .int .i64 m] w fun e w' => ∃ (v : Int) (n' : Nat), e = .returned (.int .i64 v) ∧ 0 ≤ v ∧ (1 ≤ m → v < m) ∧ v ≤ 65535 ∧ n' ≤ n + 2 ∧ Cur w' C a len cap n' ∧ Only C w w' := by
  by_cases h1 : m ≤ 1
  · go_enter Tryd.func31, Tryd.ntmps31
    go_wp2
    go_ret
    exact ⟨0, n, rfl, by omega, by omega, by omega, by omega, h, Only.refl _ _⟩
  have hm0 : m ≠ 0 := by omega
  by_cases h2 : 200 < m
  · go_enter Tryd.func31, Tryd.ntmps31
    go_wp2_with fail
    refine (next_any C a len cap n w h (by omega)).mono ?_
    rintro e w1 ⟨x, rfl, hx, h1', hO1⟩
    clear h
    go_wp2_with fail
    refine (next_any C a len cap (n + 1) _ h1' (by omega)).mono ?_
    rintro e w2 ⟨y, rfl, hy, h2', hO2⟩
    clear h1'
    have hb : 0 ≤ (x * 256 + y) % m ∧ (x * 256 + y) % m < m ∧ (x * 256 + y) % m ≤ 65535 := by
      have := Int.emod_nonneg (x * 256 + y) hm0
      have := Int.emod_lt_of_pos (x * 256 + y) (show 0 < m by omega)
      have := emod_le (x := x * 256 + y) (m := m) (by omega) (by omega)
      omega
    go_wp2
    go_ret
    exact ⟨_, n + 1 + 1, rfl, hb.1, fun _ => hb.2.1, hb.2.2, by omega, h2', hO1.trans hO2⟩
  · go_enter Tryd.func31, Tryd.ntmps31
    go_wp2_with fail
    refine (next_any C a len cap n w h (by omega)).mono ?_
    rintro e w1 ⟨x, rfl, hx, h1', hO1⟩
    clear h
    have hb : 0 ≤ x % m ∧ x % m < m ∧ x % m ≤ 65535 := by
      have := Int.emod_nonneg x hm0
      have := Int.emod_lt_of_pos x (show 0 < m by omega)
      omega
    go_wp2
    go_ret
    exact ⟨_, n + 1, rfl, hb.1, fun _ => hb.2.1, hb.2.2, by omega, h1', hO1⟩

set_option maxHeartbeats 1000000 in
theorem one_any (C : Nat) (a : Option Addr) (len cap n : Nat) (m : Int) (w : World) (h : Cur w C a len cap n) (hn : n ≤ 1000000) :
    Calls Tryd.prog 32 #[.pointer (some ⟨C, 0, none⟩), .int .i64 m] w fun e w' => ∃ (q : Bool) (n' : Nat), e = .returned (.bool q) ∧ n' ≤ n + 2 ∧ Cur w' C a len cap n' ∧ Only C w w' := by
  go_enter Tryd.func32, Tryd.ntmps32
  go_wp2_with fail
  refine (pick_any C a len cap n m w h hn).mono ?_
  rintro e w1 ⟨x, n', rfl, -, -, -, hn', h', hO⟩
  clear h
  go_wp2
  go_ret
  exact ⟨_, n', rfl, hn', h', hO⟩

set_option maxHeartbeats 1000000 in
theorem among_any (C : Nat) (a : Option Addr) (len cap n : Nat) (L k c : Nat) (F : Nat → Int) (w : World) (h : Cur w C a len cap n) (hn : n ≤ 1000000) (hL : IP w L k F) (hne : L ≠ C) (hk : 1 ≤ k) (hk2 : k ≤ 1000) :
    Calls Tryd.prog 33 #[.pointer (some ⟨C, 0, none⟩), .slice (some ⟨L, 0, none⟩) k c] w fun e w' => ∃ (i n' : Nat), i < k ∧ e = .returned (.int .i64 (F i)) ∧ n' ≤ n + 2 ∧ Cur w' C a len cap n' ∧ Only C w w' := by
  go_enter Tryd.func33, Tryd.ntmps33
  go_wp2_with fail
  refine (pick_any C a len cap n (k : Int) w h hn).mono ?_
  rintro e w1 ⟨x, n', rfl, hx0, hx1, -, hn', h', hO⟩
  have hx2 := hx1 (by omega)
  obtain ⟨i, rfl⟩ := Int.eq_ofNat_of_zero_le hx0
  have hi : i < k := by omega
  have hc := (hL.only hO hne).c i hi
  clear h hx1 hL
  go_wp2
  go_ret
  exact ⟨i, n', hi, rfl, hn', h', hO⟩
end Go.Proofs.YtbndhhjgjalecaaDoor

/- What FnPlaces draws: a width and a height. -/
namespace Go.Proofs.YtbndhhjgjalecaaDoor
open Go.RowKit

theorem on_turns {C : Nat} {w w' : World} (h : Only C w w') : Turns C (C + 1) w w' := (OnlyIn.of h (Nat.le_refl _) (Nat.lt_succ_self _)).turns
theorem al_turns {C : Nat} (w : World) (o : Obj) : Turns C (C + 1) w (w.alloc o) := turns_of ((Below.refl _ _).alloc (Nat.le_refl _) o)
theorem own_turns {w w' : World} {base lo hi : Nat} {v : Value} {k : Nat} {F : Nat → Int} (h : Own w base v k F) (o : Turns lo hi w w') (hb : hi ≤ base) : Own w' base v k F := by
  obtain ⟨hl, h⟩ := h
  refine ⟨hl, ?_⟩
  rcases h with h | ⟨g, cap, cur, h1, h2, h3, h4⟩
  · exact .inl h
  · have hg : g < w.heap.size := (Array.getElem?_eq_some_iff.1 h3).1
    exact .inr ⟨g, cap, cur, h1, h2, (o.block g hg (by omega)).trans h3, h4⟩
/-- the answer: two numbers of 0 to 17 -/
def AnsE (w w' : World) (e : Ending) (C : Nat) (a : Option Addr) (len cap n : Nat) : Prop := ∃ (p q : Int) (n' : Nat), e = .returned (.tuple #[.int .i64 p, .int .i64 q]) ∧ 0 ≤ p ∧ p ≤ 17 ∧ 0 ≤ q ∧ q ≤ 17 ∧ n' ≤ n + 6 ∧ Cur w' C a len cap n' ∧ Turns C (C + 1) w w'
theorem lit4 (x y z u : Int) (i : Nat) (hx : 0 ≤ x ∧ x ≤ 17) (hy : 0 ≤ y ∧ y ≤ 17) (hz : 0 ≤ z ∧ z ≤ 17) (hu : 0 ≤ u ∧ u ≤ 17) : 0 ≤ [x, y, z, u].getD i 0 ∧ [x, y, z, u].getD i 0 ≤ 17 := by
  match i with
  | 0 => exact hx
  | 1 => exact hy
  | 2 => exact hz
  | 3 => exact hu
  | i + 4 => exact ⟨by simp, by simp⟩
set_option maxHeartbeats 4000000 in
theorem extent_any (C : Nat) (a : Option Addr) (len cap n : Nat) (w : World) (h : Cur w C a len cap n) (hn : n ≤ 900000) :
    Calls Tryd.prog 80 #[.pointer (some ⟨C, 0, none⟩)] w fun e w' => AnsE w w' e C a len cap n := by
  go_enter Tryd.func80, Tryd.ntmps80
  go_wp2_with fail
  refine (one_any C a len cap n _ _ h (by omega)).mono ?_
  rintro e w1 ⟨q, n1, rfl, hn1, hc1, hO1⟩
  have hB1 := on_turns hO1
  clear h hO1
  cases q with
  | true =>
    have hL := lit_ip w1 [16, 1, 17, 0] 3
    have hA := (Below.refl w1.heap.size w1).alloc (Nat.le_refl _) (.cells #[.int .i64 16, .int .i64 1, .int .i64 17, .int .i64 0] 3)
    have hcx := hc1.below hA hc1.lt
    have hBx := hB1.trans (turns_of hA)
    have hne : w1.heap.size ≠ C := Nat.ne_of_gt hc1.lt
    clear hA hc1 hB1
    go_wp2_with fail
    refine (among_any C a len cap _ _ 4 _ _ _ hcx (by omega) hL hne (by omega) (by omega)).mono ?_
    rintro e w2 ⟨y2, n2, -, rfl, hn2, hc2, hO2⟩
    have hB2 := hBx.trans (on_turns hO2)
    clear hcx hBx hO2 hL hne
    have hx2 := lit4 16 1 17 0 y2 (by omega) (by omega) (by omega) (by omega)
    generalize List.getD [16, 1, 17, 0] y2 (0 : Int) = p1 at hx2 ⊢
    have hL := lit_ip w2 [16, 1, 0, 17] 3
    have hA := (Below.refl w2.heap.size w2).alloc (Nat.le_refl _) (.cells #[.int .i64 16, .int .i64 1, .int .i64 0, .int .i64 17] 3)
    have hcx := hc2.below hA hc2.lt
    have hBx := hB2.trans (turns_of hA)
    have hne : w2.heap.size ≠ C := Nat.ne_of_gt hc2.lt
    clear hA hc2 hB2
    go_wp2_with fail
    refine (among_any C a len cap _ _ 4 _ _ _ hcx (by omega) hL hne (by omega) (by omega)).mono ?_
    rintro e w3 ⟨y3, n3, -, rfl, hn3, hc3, hO3⟩
    have hB3 := hBx.trans (on_turns hO3)
    clear hcx hBx hO3 hL hne
    have hx3 := lit4 16 1 0 17 y3 (by omega) (by omega) (by omega) (by omega)
    generalize List.getD [16, 1, 0, 17] y3 (0 : Int) = p2 at hx3 ⊢
    go_wp2
    go_ret2
    exact ⟨_, _, _, rfl, hx2.1, hx2.2, hx3.1, hx3.2, by omega, hc3, hB3⟩
  | false =>
    go_wp2_with fail
    refine (pick_any C a len cap _ 6 _ hc1 (by omega)).mono ?_
    rintro e w2 ⟨p2, n2, rfl, h20, h21, -, hn2, hc2, hO2⟩
    have h22 := h21 (by omega)
    have hB2 := hB1.trans (on_turns hO2)
    clear hc1 hB1 hO2 h21
    go_wp2_with fail
    refine (pick_any C a len cap _ 6 _ hc2 (by omega)).mono ?_
    rintro e w3 ⟨p3, n3, rfl, h30, h31, -, hn3, hc3, hO3⟩
    have h32 := h31 (by omega)
    have hB3 := hB2.trans (on_turns hO3)
    clear hc2 hB2 hO3 h31
    go_wp2
    go_ret2
    exact ⟨_, _, _, rfl, by omega, by omega, by omega, by omega, by omega, hc3, hB3⟩
end Go.Proofs.YtbndhhjgjalecaaDoor

/- All free places, as both tell them. -/
namespace Go.Proofs.YtbndhhjgjalecaaDoor
open Go.RowKit

set_option maxRecDepth 20000 in
set_option maxHeartbeats 2000000 in
theorem specAll (W : Int) (a : Option Addr) (n c : Nat) (f : Nat → Int) (w : World) (hn : n ≤ 1048576) (hf : IL w a n f) :
    Calls Tryd.prog 58 #[cel W a n c] w fun e w' => AnsL w w' e (apl W n f) ∧ Below w.heap.size w w' := by
  obtain ⟨i0, hi, hzz⟩ := Option.map_eq_some_iff.1 infoI
  simp only [Prod.mk.injEq] at hzz
  obtain ⟨hz0, hz1, hz2⟩ := hzz
  have hb0 : Below w.heap.size w (w.alloc (celO W a n c 25)) := (Below.refl _ _).alloc (Nat.le_refl _) _
  have hg := specGoodL W a n c f (w.alloc (celO W a n c 25)) hn (hf.alloc _)
  have b0 := bx_new (w := w) (celL W a n c) 25 rfl
  unfold apl
  cases hs : celB W n f with
  | false =>
    rw [hs] at hg
    go_enter Tryd.func58, Tryd.ntmps58
    go_wp2_with fail
    refine hg.mono ?_
    rintro e w1 ⟨rfl, hb1⟩
    have hB1 := stepA hb0 hb1
    clear hg
    go_wp2
    go_ret
    exact ⟨ansL_nil _ _, hB1⟩
  | true =>
    rw [hs] at hg
    have hN := sized_le (celB_parts hs).1
    simp only [if_true]
    go_enter Tryd.func58, Tryd.ntmps58
    go_wp2_with fail
    refine hg.mono ?_
    rintro e w1 ⟨rfl, hb1⟩
    have hB1 := stepA hb0 hb1
    have hf1 := hf.below hB1
    have b1 := b0.on hb1
    clear hg hb0 hb1 b0 hf
    have x1 := b1.c1
    go_wp2
    go_loopw [3, 11] (fun v i wr => ∃ k : Nat, k ≤ n ∧ i = .int .i64 k ∧ Own wr w1.heap.size v (pl f k).length (gl (pl f k)) ∧ Below w1.heap.size w1 wr) (fun _ i _ => n - (intOf i).toNat)
    case atStart => exact ⟨0, Nat.zero_le _, rfl, World.ownsRow_nil _ _ _ _, Below.refl _ _⟩
    case round =>
      obtain ⟨k, hk, rfl, hown, hB⟩ := hrel
      have hlen := pl_len f k
      have hBw := hB1.trans (hB.mono hB1.size)
      have hbase : w1.heap.size ≤ wr.heap.size := hB.size
      by_cases hlt : k < n
      · obtain ⟨p, off, rfl, hb, hc⟩ := (hf1.below hB) (by omega)
        have x0 := hc k hlt
        have y1 := (b1.on hB).c1
        have j1 : (k : Int) < (n : Int) := by omega
        by_cases hz : f k = 0
        · have hp : pl f (k + 1) = pl f k ++ [(k : Int)] := by simp [pl, hz]
          rw [hz] at x0
          clear hf1 hc x1 b1 hz
          generalize hl : pl f k = l at hown hp hlen
          obtain ⟨sa, sc, rfl⟩ := hown.shape
          go_wp2_with (at_builtin; refine wpList_append_own _ rfl _ _ 23 rfl w1.heap.size 3 i0 (.int .i64 0) 1 8 Tryd.underlying23 hi hz0 hz1 hz2 rfl (by decide) _ _ _ rfl (World.ownsRow.alloc hown _) ⟨wr.heap.size, 0, none⟩ 1 1 [.int .i64 (k : Int)] rfl rfl (cell_one_new _ _ _) (fun x hx => by simp at hx; subst hx; rfl) (by unfold maxLen; omega) (by omega) (by simp; omega) ?_; intro v' w3 hown' hgrow3 _)
          have hB3 := (hB.alloc hB.size (.cells #[.int .i64 (k : Int)] 3)).grown hgrow3 (by simp; omega) (fun q hq => (World.ownsRow.lt hown q hq).1)
          exact ⟨⟨k + 1, by omega, by go_num, by rw [hp]; exact own_snoc hown', hB3⟩, by simp [intOf]; omega⟩
        · have hp : pl f (k + 1) = pl f k := by simp [pl, hz]
          generalize f k = x at x0 hz
          have k2 : (x == 0) = false := by simpa using hz
          clear hf1 hc x1 b1 hz
          go_wp2
          exact ⟨⟨k + 1, by omega, by go_num, by rw [hp]; exact hown, hB⟩, by simp [intOf]; omega⟩
      · have hke : k = n := by omega
        subst hke
        obtain ⟨sa, sc, rfl⟩ := hown.shape
        clear hf1 b1 x1
        go_wp2
        go_ret
        exact ⟨ansL_own hown hB1.size, hBw⟩
end Go.Proofs.YtbndhhjgjalecaaDoor

/- What FnPlaces draws: a list of places. -/
namespace Go.Proofs.YtbndhhjgjalecaaDoor
open Go.RowKit

theorem turns_below {lo hi B : Nat} {w w' w'' : World} (h : Turns lo hi w w') (k : Below B w' w'') (hB : w.heap.size ≤ B) : Turns lo hi w w'' :=
  ⟨k.os.trans h.os, k.tape.trans h.tape, k.output.trans h.output, Nat.le_trans h.size k.size, fun j hj hd => (k.block j (by omega)).trans (h.block j hj hd)⟩
/-- the answer: a list of the call's own -/
def AnsPl (w w' : World) (e : Ending) (C : Nat) (a : Option Addr) (len cap n k : Nat) : Prop := ∃ (a' : Option Addr) (c' : Nat) (l : List Int) (n' : Nat), e = .returned (.slice a' l.length c') ∧ l.length ≤ k ∧ LQ w' w.heap.size w'.heap.size a' l.length (gl l) ∧ n' ≤ n + 2 * k + 4 ∧ Cur w' C a len cap n' ∧ Turns C (C + 1) w w'
/-- a list that grows behind the cursor's steps -/
structure Grw (wr w2 : World) (o : Value) (C : Nat) (a : Option Addr) (len cap n k : Nat) (l : List Int) (n' : Nat) : Prop where
  own : Own wr w2.heap.size o l.length (gl l)
  le : l.length ≤ k
  small : n' ≤ n + 2 * k
  cur : Cur wr C a len cap n'
  turns : Turns C (C + 1) w2 wr
end Go.Proofs.YtbndhhjgjalecaaDoor
