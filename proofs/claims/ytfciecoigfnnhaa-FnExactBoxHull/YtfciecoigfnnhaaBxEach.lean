/- The greater ones and the lesser ones of two lists of floats, as the program tells them. -/
import Derived.Test.YtfciecoigfnnhaaBxMath
import Derived.Test.YtfciecoigfnnhaaFqCore
import Derived.Test.YtfciecoigfnnhaaFlCopy
import Derived.Deep.RegionHeld
import Derived.Deep.RegionHeld3
import Derived.Deep.Cut
import Derived.Deep.CutRange
namespace Go.Proofs.Ytfciecoigfnnhaa
open Go.RowKit

theorem good_rung {x : Nat} (h : goodB x = true) : rung x ≤ INF := by
  simp only [goodB, nanB, Bool.and_eq_true, Bool.not_eq_true', decide_eq_false_iff_not] at h
  omega
theorem good_key {x y : Nat} (hx : goodB x = true) (hy : goodB y = true) (lx : x < 18446744073709551616) (ly : y < 18446744073709551616) (e : key x = key y) : x = y := by
  have e2 : (2 : Nat) ^ 63 = 9223372036854775808 := rfl
  have nx : neg x = true ↔ 9223372036854775808 ≤ x := by unfold neg; rw [e2]; simp; omega
  have ny : neg y = true ↔ 9223372036854775808 ≤ y := by unfold neg; rw [e2]; simp; omega
  have rx : rung x = if 9223372036854775808 ≤ x then x - 9223372036854775808 else x := by unfold rung; rw [e2]; split <;> omega
  have ry : rung y = if 9223372036854775808 ≤ y then y - 9223372036854775808 else y := by unfold rung; rw [e2]; split <;> omega
  simp only [goodB, Bool.and_eq_true, Bool.not_eq_true', zeroB, sgnB, Bool.and_eq_false_iff, decide_eq_false_iff_not] at hx hy
  have zx := hx.2
  have zy := hy.2
  unfold key at e
  by_cases hx1 : 9223372036854775808 ≤ x
  · rw [if_pos (nx.2 hx1)] at e
    rw [if_pos hx1] at rx
    by_cases hy1 : 9223372036854775808 ≤ y
    · rw [if_pos (ny.2 hy1)] at e
      rw [if_pos hy1] at ry
      omega
    · rw [if_neg (fun h => hy1 (ny.1 h))] at e
      rw [if_neg hy1] at ry
      omega
  · rw [if_neg (fun h => hx1 (nx.1 h))] at e
    rw [if_neg hx1] at rx
    by_cases hy1 : 9223372036854775808 ≤ y
    · rw [if_pos (ny.2 hy1)] at e
      rw [if_pos hy1] at ry
      omega
    · rw [if_neg (fun h => hy1 (ny.1 h))] at e
      rw [if_neg hy1] at ry
      omega
theorem cmp_three {x y : Nat} (hx : goodB x = true) (hy : goodB y = true) :
    (FloatKind.f64.format.order x y = some .lt ∧ key x < key y) ∨ (FloatKind.f64.format.order x y = some .eq ∧ key x = key y) ∨ (FloatKind.f64.format.order x y = some .gt ∧ key y < key x) := by
  have h := ord_some (good_rung hx) (good_rung hy)
  rcases Int.lt_trichotomy (key x) (key y) with k | k | k
  · exact .inl ⟨by rw [h, Int.compare_eq_lt.2 k], k⟩
  · exact .inr (.inl ⟨by rw [h, Int.compare_eq_eq.2 k], k⟩)
  · exact .inr (.inr ⟨by rw [h, Int.compare_eq_gt.2 k], k⟩)
theorem run_maxF {x y : Nat} (hx : goodB x = true) (hy : goodB y = true) (lx : x < 18446744073709551616) (ly : y < 18446744073709551616) (ts : Array TypeId) (t : TypeId) (w : World) :
    (Builtin.max_ ts t #[.float .f64 x, .float .f64 y]).run Try.prog w = .ok (.float .f64 (hiF x y)) w := by
  have eg : gtF y x = decide (key x < key y) := by unfold gtF; rw [ord_gt_iff]; simp [good_rung hx, good_rung hy]
  unfold hiF
  rw [eg]
  rcases cmp_three hx hy with ⟨e, k⟩ | ⟨e, k⟩ | ⟨e, k⟩
  · simp [Builtin.max_, Builtin.max2, e, k]
  · have := good_key hx hy lx ly k
    subst this
    simp [Builtin.max_, Builtin.max2, e]
  · simp [Builtin.max_, Builtin.max2, e]
    intro h; omega
theorem run_minF {x y : Nat} (hx : goodB x = true) (hy : goodB y = true) (lx : x < 18446744073709551616) (ly : y < 18446744073709551616) (ts : Array TypeId) (t : TypeId) (w : World) :
    (Builtin.min_ ts t #[.float .f64 x, .float .f64 y]).run Try.prog w = .ok (.float .f64 (loF x y)) w := by
  have eg : ltF y x = decide (key y < key x) := by unfold ltF; rw [ord_lt_iff]; simp [good_rung hx, good_rung hy]
  unfold loF
  rw [eg]
  rcases cmp_three hx hy with ⟨e, k⟩ | ⟨e, k⟩ | ⟨e, k⟩
  · simp [Builtin.min_, Builtin.min2, e]
    intro h; omega
  · have := good_key hx hy lx ly k
    subst this
    simp [Builtin.min_, Builtin.min2, e]
  · simp [Builtin.min_, Builtin.min2, e, k]
set_option maxHeartbeats 400000 in
theorem greaterReal_any (x y : Nat) (w : World) (hx : goodB x = true) (hy : goodB y = true) (lx : x < 18446744073709551616) (ly : y < 18446744073709551616) :
    Calls Try.prog 63 #[.float .f64 x, .float .f64 y] w fun e w' => e = .returned (.float .f64 (hiF x y)) ∧ w' = w := by
  have h := run_maxF hx hy lx ly
  generalize hiF x y = v at h ⊢
  go_enter Try.func63, Try.ntmps63
  go_wp2
  go_ret
  exact ⟨rfl, rfl⟩

set_option maxHeartbeats 2000000 in
theorem each_hi (a b : Option Addr) (n c d : Nat) (f g : Nat → Nat) (w : World) (hf : FS w a n f) (hg : FS w b n g) (gf : ∀ i, i < n → goodB (f i) = true) (gg : ∀ i, i < n → goodB (g i) = true) :
    Calls Try.prog 62 #[.func (.func 63) #[] #[], .slice a n c, .slice b n d] w fun e w' => e = .returned (.slice (some ⟨w.heap.size, 0, none⟩) n n) ∧ FP w' w.heap.size n (fun i => hiF (f i) (g i)) ∧ Below w.heap.size w w' := by
  obtain ⟨hl, hf1, hc1⟩ := hf
  obtain ⟨_, hg1, hc2⟩ := hg
  have hmk := run_make_row' (P := Try.prog) 41 106 (.float .f64 0) 8 Try.underlying41 infoF rfl .i64 .i64 n (by omega) (by omega)
  have hr0 : (w.alloc (.cells (madeCells #[.float .f64 0] n) 106)).rowIs w.heap.size 106 n (rowK (fun i => hiF (f i) (g i)) 0) := (World.rowIs_made w (.float .f64 0) n 106).congr fun i _ => by simp [rowK]
  have hb0 : Below w.heap.size w (w.alloc (.cells (madeCells #[.float .f64 0] n) 106)) := (Below.refl _ _).alloc (Nat.le_refl _) _
  have HR : Hid ((w.alloc (.cells (madeCells #[.float .f64 0] n) 106)).rowIs w.heap.size 106 n (rowK (fun i => hiF (f i) (g i)) 0)) := hr0
  clear hr0
  go_enter Try.func62, Try.ntmps62
  go_wp2
  go_loopw [14] (fun i wr => ∃ k : Nat, k ≤ n ∧ i = .int .i64 k ∧ wr.rowIs w.heap.size 106 n (rowK (fun i => hiF (f i) (g i)) k) ∧ Below w.heap.size w wr) (fun i _ => n - (intOf i).toNat)
  case atStart => exact ⟨0, Nat.zero_le _, rfl, HR.out, hb0⟩
  case round =>
    obtain ⟨k, hk, rfl, hrow, hbel⟩ := hrel
    by_cases hlt : k < n
    · obtain ⟨b1, o1, rfl, hw1, hcell1⟩ := hc1 (by omega)
      obtain ⟨b2, o2, rfl, hw2, hcell2⟩ := hc2 (by omega)
      have x0 : wr.cell? ⟨b1, o1 + k, none⟩ = some (.float .f64 (f k)) := (hbel.cell (p := ⟨b1, o1 + k, none⟩) hw1).trans (hcell1 k hlt)
      have x1 : wr.cell? ⟨b2, o2 + k, none⟩ = some (.float .f64 (g k)) := (hbel.cell (p := ⟨b2, o2 + k, none⟩) hw2).trans (hcell2 k hlt)
      have ho : wr.cell? ⟨w.heap.size, k, none⟩ = some (.float .f64 0) := by rw [hrow.cell hlt]; simp [rowK]
      have hfz := hrow.frozen k
      have hrow' := rowK_step (fun i => hiF (f i) (g i)) k hrow
      have hbel' := hbel.setCell (p := ⟨w.heap.size, k, none⟩) (Nat.le_refl _) (.float .f64 (hiF (f k) (g k)))
      have kc := fun w => greaterReal_any (f k) (g k) w (gf k hlt) (gg k hlt) (hf1 k hlt) (hg1 k hlt)
      have hsz := hrow.lt
      have i0 : (0 : Int) ≤ (k : Int) := by omega
      have i1 : (k : Int) < (n : Int) := by omega
      have n1 : b1 ≠ w.heap.size := by omega
      have n2 : b2 ≠ w.heap.size := by omega
      clear hcell1 hcell2 hc1 hc2 hmk hb0 HR hrow hf1 hg1 gf gg
      have HR2 : Hid _ := hrow'
      have HB2 : Hid _ := hbel'
      clear hrow' hbel' hbel
      generalize hiF (f k) (g k) = v at *
      generalize f k = x at *
      generalize g k = y at *
      go_upto_region 5 with fail
      refine wp_region_held (S := fun w' => w'.cell? ⟨b1, o1 + k, none⟩ = some (.float .f64 x) ∧ w'.cell? ⟨b2, o2 + k, none⟩ = some (.float .f64 y)) (by kernel_rfl) ?_
      change wpAnyH _ _ _ _ _ _ _ _ (World.drew _)
      have hSw := (⟨x0, x1⟩ : _ ∧ _)
      refine wpAnyH_take (i := 0) (v := .slice (some ⟨w.heap.size, 0, none⟩) n n) rfl (by kernel_rfl) (by kernel_rfl) (by kernel_rfl) (fun _ _ _ h => h) (Or.inl ⟨by rfl, ?_⟩) hSw ?_
      · intro wz hsz
        obtain ⟨z0, z1⟩ := hsz
        go_simp
      try simp [Act.put]
      refine wpAnyH_take (i := 1) (v := .int .i64 (k : Int)) rfl (by kernel_rfl) (by kernel_rfl) (by kernel_rfl) (fun _ _ _ h => h) (Or.inl ⟨by rfl, ?_⟩) hSw ?_
      · intro wz hsz
        obtain ⟨z0, z1⟩ := hsz
        go_simp
      try simp [Act.put]
      refine wpAnyH_take (i := 2) (v := .func (.func 63) #[] #[]) rfl (by kernel_rfl) (by kernel_rfl) (by kernel_rfl) (fun _ _ _ h => h) (Or.inl ⟨by rfl, ?_⟩) hSw ?_
      · intro wz hsz
        obtain ⟨z0, z1⟩ := hsz
        go_simp
      try simp [Act.put]
      refine wpAnyH_take (i := 3) (v := .slice (some ⟨b1, o1, none⟩) n c) rfl (by kernel_rfl) (by kernel_rfl) (by kernel_rfl) (fun _ _ _ h => h) (Or.inl ⟨by rfl, ?_⟩) hSw ?_
      · intro wz hsz
        obtain ⟨z0, z1⟩ := hsz
        go_simp
      try simp [Act.put]
      refine wpAnyH_take (i := 4) (v := .int .i64 (k : Int)) rfl (by kernel_rfl) (by kernel_rfl) (by kernel_rfl) (fun _ _ _ h => h) (Or.inl ⟨by rfl, ?_⟩) hSw ?_
      · intro wz hsz
        obtain ⟨z0, z1⟩ := hsz
        go_simp
      try simp [Act.put]
      refine wpAnyH_take (i := 5) (v := .pointer (some ⟨b1, o1 + k, none⟩)) rfl (by kernel_rfl) (by kernel_rfl) (by kernel_rfl) (fun _ _ _ h => h) (Or.inl ⟨by rfl, ?_⟩) hSw ?_
      · intro wz hsz
        obtain ⟨z0, z1⟩ := hsz
        go_simp
        try (intro h9; omega)
      try simp [Act.put]
      refine wpAnyH_take (i := 6) (v := .float .f64 x) rfl (by kernel_rfl) (by kernel_rfl) (by kernel_rfl) (fun _ _ _ h => h) (Or.inl ⟨by rfl, ?_⟩) hSw ?_
      · intro wz hsz
        obtain ⟨z0, z1⟩ := hsz
        go_simp
      try simp [Act.put]
      refine wpAnyH_take (i := 7) (v := .slice (some ⟨b2, o2, none⟩) n d) rfl (by kernel_rfl) (by kernel_rfl) (by kernel_rfl) (fun _ _ _ h => h) (Or.inl ⟨by rfl, ?_⟩) hSw ?_
      · intro wz hsz
        obtain ⟨z0, z1⟩ := hsz
        go_simp
      try simp [Act.put]
      refine wpAnyH_take (i := 8) (v := .int .i64 (k : Int)) rfl (by kernel_rfl) (by kernel_rfl) (by kernel_rfl) (fun _ _ _ h => h) (Or.inl ⟨by rfl, ?_⟩) hSw ?_
      · intro wz hsz
        obtain ⟨z0, z1⟩ := hsz
        go_simp
      try simp [Act.put]
      refine wpAnyH_take (i := 9) (v := .pointer (some ⟨b2, o2 + k, none⟩)) rfl (by kernel_rfl) (by kernel_rfl) (by kernel_rfl) (fun _ _ _ h => h) (Or.inl ⟨by rfl, ?_⟩) hSw ?_
      · intro wz hsz
        obtain ⟨z0, z1⟩ := hsz
        go_simp
        try (intro h9; omega)
      try simp [Act.put]
      refine wpAnyH_take (i := 10) (v := .float .f64 y) rfl (by kernel_rfl) (by kernel_rfl) (by kernel_rfl) (fun _ _ _ h => h) (Or.inl ⟨by rfl, ?_⟩) hSw ?_
      · intro wz hsz
        obtain ⟨z0, z1⟩ := hsz
        go_simp
      try simp [Act.put]
      refine wpAnyH_ready (rs := [11]) (by kernel_rfl) (by simp) ?_
      refine AllReadyH.cons rfl (fun K hK => ?_) AllReadyH.nil
      go_simp
      go_wp2_with (first | (go_at_call 63; refine (kc _).mono ?_; rintro e9 w6 ⟨rfl, hw6⟩; have hs6 := hw6.symm; clear hw6; subst hs6) | (fail))
      refine hK.out _ _ (⟨x0, x1⟩) (fun hSn => ?_)
      clear hK K hSw
      have hSw := hSn
      clear hSn
      try simp [Act.put]
      refine wpAnyH_take (i := 12) (v := .pointer (some ⟨w.heap.size, k, none⟩)) rfl (by kernel_rfl) (by kernel_rfl) (by kernel_rfl) (fun _ _ _ h => h) (Or.inl ⟨by rfl, ?_⟩) hSw ?_
      · intro wz hsz
        obtain ⟨z0, z1⟩ := hsz
        go_simp
        try (intro h9; omega)
      try simp [Act.put]
      refine wpAnyH_ready (rs := [13]) (by kernel_rfl) (by simp) ?_
      refine AllReadyH.cons rfl (fun K hK => ?_) AllReadyH.nil
      go_simp
      refine hK.out _ _ (⟨(World.cell?_setCell_other _ _ _ _ (by simp <;> omega)).trans x0, (World.cell?_setCell_other _ _ _ _ (by simp <;> omega)).trans x1⟩) (fun hSn => ?_)
      clear hK K hSw
      have hSw := hSn
      clear hSn
      try simp [Act.put]
      refine wpAnyH_done (by kernel_rfl) ?_ _
      go_wp2
      exact ⟨⟨k + 1, by omega, by go_num, HR2.out, HB2.out.drew⟩, by simp [intOf]; omega⟩
    · have : k = n := by omega
      subst this
      clear hmk hb0 HR
      go_wp2
      go_ret
      exact ⟨rfl, (row_fp (F := fun i => hiF (f i) (g i)) (hrow.congr fun i hi => by simp [rowK, fRow, hi])), hbel⟩
set_option maxHeartbeats 400000 in
theorem lesserReal_any (x y : Nat) (w : World) (hx : goodB x = true) (hy : goodB y = true) (lx : x < 18446744073709551616) (ly : y < 18446744073709551616) :
    Calls Try.prog 64 #[.float .f64 x, .float .f64 y] w fun e w' => e = .returned (.float .f64 (loF x y)) ∧ w' = w := by
  have h := run_minF hx hy lx ly
  generalize loF x y = v at h ⊢
  go_enter Try.func64, Try.ntmps64
  go_wp2
  go_ret
  exact ⟨rfl, rfl⟩

set_option maxHeartbeats 2000000 in
theorem each_lo (a b : Option Addr) (n c d : Nat) (f g : Nat → Nat) (w : World) (hf : FS w a n f) (hg : FS w b n g) (gf : ∀ i, i < n → goodB (f i) = true) (gg : ∀ i, i < n → goodB (g i) = true) :
    Calls Try.prog 62 #[.func (.func 64) #[] #[], .slice a n c, .slice b n d] w fun e w' => e = .returned (.slice (some ⟨w.heap.size, 0, none⟩) n n) ∧ FP w' w.heap.size n (fun i => loF (f i) (g i)) ∧ Below w.heap.size w w' := by
  obtain ⟨hl, hf1, hc1⟩ := hf
  obtain ⟨_, hg1, hc2⟩ := hg
  have hmk := run_make_row' (P := Try.prog) 41 106 (.float .f64 0) 8 Try.underlying41 infoF rfl .i64 .i64 n (by omega) (by omega)
  have hr0 : (w.alloc (.cells (madeCells #[.float .f64 0] n) 106)).rowIs w.heap.size 106 n (rowK (fun i => loF (f i) (g i)) 0) := (World.rowIs_made w (.float .f64 0) n 106).congr fun i _ => by simp [rowK]
  have hb0 : Below w.heap.size w (w.alloc (.cells (madeCells #[.float .f64 0] n) 106)) := (Below.refl _ _).alloc (Nat.le_refl _) _
  have HR : Hid ((w.alloc (.cells (madeCells #[.float .f64 0] n) 106)).rowIs w.heap.size 106 n (rowK (fun i => loF (f i) (g i)) 0)) := hr0
  clear hr0
  go_enter Try.func62, Try.ntmps62
  go_wp2
  go_loopw [14] (fun i wr => ∃ k : Nat, k ≤ n ∧ i = .int .i64 k ∧ wr.rowIs w.heap.size 106 n (rowK (fun i => loF (f i) (g i)) k) ∧ Below w.heap.size w wr) (fun i _ => n - (intOf i).toNat)
  case atStart => exact ⟨0, Nat.zero_le _, rfl, HR.out, hb0⟩
  case round =>
    obtain ⟨k, hk, rfl, hrow, hbel⟩ := hrel
    by_cases hlt : k < n
    · obtain ⟨b1, o1, rfl, hw1, hcell1⟩ := hc1 (by omega)
      obtain ⟨b2, o2, rfl, hw2, hcell2⟩ := hc2 (by omega)
      have x0 : wr.cell? ⟨b1, o1 + k, none⟩ = some (.float .f64 (f k)) := (hbel.cell (p := ⟨b1, o1 + k, none⟩) hw1).trans (hcell1 k hlt)
      have x1 : wr.cell? ⟨b2, o2 + k, none⟩ = some (.float .f64 (g k)) := (hbel.cell (p := ⟨b2, o2 + k, none⟩) hw2).trans (hcell2 k hlt)
      have ho : wr.cell? ⟨w.heap.size, k, none⟩ = some (.float .f64 0) := by rw [hrow.cell hlt]; simp [rowK]
      have hfz := hrow.frozen k
      have hrow' := rowK_step (fun i => loF (f i) (g i)) k hrow
      have hbel' := hbel.setCell (p := ⟨w.heap.size, k, none⟩) (Nat.le_refl _) (.float .f64 (loF (f k) (g k)))
      have kc := fun w => lesserReal_any (f k) (g k) w (gf k hlt) (gg k hlt) (hf1 k hlt) (hg1 k hlt)
      have hsz := hrow.lt
      have i0 : (0 : Int) ≤ (k : Int) := by omega
      have i1 : (k : Int) < (n : Int) := by omega
      have n1 : b1 ≠ w.heap.size := by omega
      have n2 : b2 ≠ w.heap.size := by omega
      clear hcell1 hcell2 hc1 hc2 hmk hb0 HR hrow hf1 hg1 gf gg
      have HR2 : Hid _ := hrow'
      have HB2 : Hid _ := hbel'
      clear hrow' hbel' hbel
      generalize loF (f k) (g k) = v at *
      generalize f k = x at *
      generalize g k = y at *
      go_upto_region 5 with fail
      refine wp_region_held (S := fun w' => w'.cell? ⟨b1, o1 + k, none⟩ = some (.float .f64 x) ∧ w'.cell? ⟨b2, o2 + k, none⟩ = some (.float .f64 y)) (by kernel_rfl) ?_
      change wpAnyH _ _ _ _ _ _ _ _ (World.drew _)
      have hSw := (⟨x0, x1⟩ : _ ∧ _)
      refine wpAnyH_take (i := 0) (v := .slice (some ⟨w.heap.size, 0, none⟩) n n) rfl (by kernel_rfl) (by kernel_rfl) (by kernel_rfl) (fun _ _ _ h => h) (Or.inl ⟨by rfl, ?_⟩) hSw ?_
      · intro wz hsz
        obtain ⟨z0, z1⟩ := hsz
        go_simp
      try simp [Act.put]
      refine wpAnyH_take (i := 1) (v := .int .i64 (k : Int)) rfl (by kernel_rfl) (by kernel_rfl) (by kernel_rfl) (fun _ _ _ h => h) (Or.inl ⟨by rfl, ?_⟩) hSw ?_
      · intro wz hsz
        obtain ⟨z0, z1⟩ := hsz
        go_simp
      try simp [Act.put]
      refine wpAnyH_take (i := 2) (v := .func (.func 64) #[] #[]) rfl (by kernel_rfl) (by kernel_rfl) (by kernel_rfl) (fun _ _ _ h => h) (Or.inl ⟨by rfl, ?_⟩) hSw ?_
      · intro wz hsz
        obtain ⟨z0, z1⟩ := hsz
        go_simp
      try simp [Act.put]
      refine wpAnyH_take (i := 3) (v := .slice (some ⟨b1, o1, none⟩) n c) rfl (by kernel_rfl) (by kernel_rfl) (by kernel_rfl) (fun _ _ _ h => h) (Or.inl ⟨by rfl, ?_⟩) hSw ?_
      · intro wz hsz
        obtain ⟨z0, z1⟩ := hsz
        go_simp
      try simp [Act.put]
      refine wpAnyH_take (i := 4) (v := .int .i64 (k : Int)) rfl (by kernel_rfl) (by kernel_rfl) (by kernel_rfl) (fun _ _ _ h => h) (Or.inl ⟨by rfl, ?_⟩) hSw ?_
      · intro wz hsz
        obtain ⟨z0, z1⟩ := hsz
        go_simp
      try simp [Act.put]
      refine wpAnyH_take (i := 5) (v := .pointer (some ⟨b1, o1 + k, none⟩)) rfl (by kernel_rfl) (by kernel_rfl) (by kernel_rfl) (fun _ _ _ h => h) (Or.inl ⟨by rfl, ?_⟩) hSw ?_
      · intro wz hsz
        obtain ⟨z0, z1⟩ := hsz
        go_simp
        try (intro h9; omega)
      try simp [Act.put]
      refine wpAnyH_take (i := 6) (v := .float .f64 x) rfl (by kernel_rfl) (by kernel_rfl) (by kernel_rfl) (fun _ _ _ h => h) (Or.inl ⟨by rfl, ?_⟩) hSw ?_
      · intro wz hsz
        obtain ⟨z0, z1⟩ := hsz
        go_simp
      try simp [Act.put]
      refine wpAnyH_take (i := 7) (v := .slice (some ⟨b2, o2, none⟩) n d) rfl (by kernel_rfl) (by kernel_rfl) (by kernel_rfl) (fun _ _ _ h => h) (Or.inl ⟨by rfl, ?_⟩) hSw ?_
      · intro wz hsz
        obtain ⟨z0, z1⟩ := hsz
        go_simp
      try simp [Act.put]
      refine wpAnyH_take (i := 8) (v := .int .i64 (k : Int)) rfl (by kernel_rfl) (by kernel_rfl) (by kernel_rfl) (fun _ _ _ h => h) (Or.inl ⟨by rfl, ?_⟩) hSw ?_
      · intro wz hsz
        obtain ⟨z0, z1⟩ := hsz
        go_simp
      try simp [Act.put]
      refine wpAnyH_take (i := 9) (v := .pointer (some ⟨b2, o2 + k, none⟩)) rfl (by kernel_rfl) (by kernel_rfl) (by kernel_rfl) (fun _ _ _ h => h) (Or.inl ⟨by rfl, ?_⟩) hSw ?_
      · intro wz hsz
        obtain ⟨z0, z1⟩ := hsz
        go_simp
        try (intro h9; omega)
      try simp [Act.put]
      refine wpAnyH_take (i := 10) (v := .float .f64 y) rfl (by kernel_rfl) (by kernel_rfl) (by kernel_rfl) (fun _ _ _ h => h) (Or.inl ⟨by rfl, ?_⟩) hSw ?_
      · intro wz hsz
        obtain ⟨z0, z1⟩ := hsz
        go_simp
      try simp [Act.put]
      refine wpAnyH_ready (rs := [11]) (by kernel_rfl) (by simp) ?_
      refine AllReadyH.cons rfl (fun K hK => ?_) AllReadyH.nil
      go_simp
      go_wp2_with (first | (go_at_call 64; refine (kc _).mono ?_; rintro e9 w6 ⟨rfl, hw6⟩; have hs6 := hw6.symm; clear hw6; subst hs6) | (fail))
      refine hK.out _ _ (⟨x0, x1⟩) (fun hSn => ?_)
      clear hK K hSw
      have hSw := hSn
      clear hSn
      try simp [Act.put]
      refine wpAnyH_take (i := 12) (v := .pointer (some ⟨w.heap.size, k, none⟩)) rfl (by kernel_rfl) (by kernel_rfl) (by kernel_rfl) (fun _ _ _ h => h) (Or.inl ⟨by rfl, ?_⟩) hSw ?_
      · intro wz hsz
        obtain ⟨z0, z1⟩ := hsz
        go_simp
        try (intro h9; omega)
      try simp [Act.put]
      refine wpAnyH_ready (rs := [13]) (by kernel_rfl) (by simp) ?_
      refine AllReadyH.cons rfl (fun K hK => ?_) AllReadyH.nil
      go_simp
      refine hK.out _ _ (⟨(World.cell?_setCell_other _ _ _ _ (by simp <;> omega)).trans x0, (World.cell?_setCell_other _ _ _ _ (by simp <;> omega)).trans x1⟩) (fun hSn => ?_)
      clear hK K hSw
      have hSw := hSn
      clear hSn
      try simp [Act.put]
      refine wpAnyH_done (by kernel_rfl) ?_ _
      go_wp2
      exact ⟨⟨k + 1, by omega, by go_num, HR2.out, HB2.out.drew⟩, by simp [intOf]; omega⟩
    · have : k = n := by omega
      subst this
      clear hmk hb0 HR
      go_wp2
      go_ret
      exact ⟨rfl, (row_fp (F := fun i => loF (f i) (g i)) (hrow.congr fun i hi => by simp [rowK, fRow, hi])), hbel⟩
end Go.Proofs.Ytfciecoigfnnhaa
