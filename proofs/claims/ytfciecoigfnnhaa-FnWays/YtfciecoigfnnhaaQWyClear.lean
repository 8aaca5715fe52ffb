/- Which cells are clear from one another, as the specification says it. -/
import Derived.Test.YtfciecoigfnnhaaQWyMeet
import Derived.Test.YtfciecoigfnnhaaQSzHv
import Derived.Test.YtfciecoigfnnhaaQClSFree
import Derived.Deep.RegionHeld3
import Derived.BigQuiet
import Derived.Deep.CutRange
namespace Go.Proofs.Ytfciecoigfnnhaa
open Go.RowKit

set_option maxHeartbeats 4000000 in
theorem sClear (W : Int) (p : Option Addr) (n c : Nat) (f : Nat → Int) (a b : Int) (w : World) (hs : sizedB W n = true) (hf : IL w p n f) :
    Calls Try.prog 57 #[cel W p n c, .int .i64 a, .int .i64 b] w fun e w' => e = .returned (.bool (clrB W n f a b)) ∧ Below w.heap.size w w' := by
  have hn : n ≤ 1048576 := by have := sized_le hs; omega
  have hb0 : Below w.heap.size w (w.alloc (celO W p n c 25)) := (Below.refl _ _).alloc (Nat.le_refl _) _
  have bA := bx_new (w := w) (celL W p n c) 25 rfl
  have x0 := bA.c0
  have x1 := bA.c1
  have ka := sfree_any W p n c f a (w.alloc (celO W p n c 25)) (hf.below hb0) hn
  cases ea : frB n f a with
  | false =>
    have e0 : clrB W n f a b = false := by simp [clrB, ea]
    rw [e0]
    rw [ea] at ka
    go_enter Try.func57, Try.ntmps57
    go_wp2_with fail
    refine ka.mono ?_
    rintro e w1 ⟨rfl, hb1⟩
    have hB1 := stepA hb0 hb1
    clear ka
    go_wp2
    go_ret
    exact ⟨rfl, hB1⟩
  | true =>
    rw [ea] at ka
    cases eb : frB n f b with
    | false =>
      have e0 : clrB W n f a b = false := by simp [clrB, eb]
      rw [e0]
      go_enter Try.func57, Try.ntmps57
      go_wp2_with fail
      refine ka.mono ?_
      rintro e w1 ⟨rfl, hb1⟩
      have hB1 := stepA hb0 hb1
      have bA1 := bA.on hb1
      have y0 := bA1.c0
      have y1 := bA1.c1
      have kb := sfree_any W p n c f b w1 (hf.below hB1) hn
      rw [eb] at kb
      clear ka x0 x1
      go_wp2_with fail
      refine kb.mono ?_
      rintro e w2 ⟨rfl, hb2⟩
      have hB2 := stepA hB1 hb2
      clear kb
      go_wp2
      go_ret
      exact ⟨rfl, hB2⟩
    | true =>
      have e0 : clrB W n f a b = clK W f a b n := by simp [clrB, ea, eb]
      rw [e0]
      obtain ⟨a0, a1, _⟩ := frB_t ea
      obtain ⟨b0, b1, _⟩ := frB_t eb
      obtain ⟨ax, ay⟩ := crd hs a0 a1
      obtain ⟨bx, by'⟩ := crd hs b0 b1
      have ta := tm_of (W := W) a0
      have da := td_of (W := W) a0
      have tb := tm_of (W := W) b0
      have db := td_of (W := W) b0
      have hW := (sizedB_t hs).1
      have hW0 : ¬ W = 0 := by omega
      have HK : Hid (∀ k, k < n → ¬ f k = 0 → metB (2 * (a % W)) (2 * (a / W)) (2 * (b % W)) (2 * (b / W)) ((k : Int) % W) ((k : Int) / W) = true → clK W f a b n = false) := fun k h1 h2 h3 => clK_not h1 h2 h3
      have HY : Hid (∀ k, clK W f a b k = true → f k = 0 → clK W f a b (k + 1) = true) := fun k h1 h2 => (by simp [clK, h1, h2] : _ = _)
      have HZ : Hid (∀ k, clK W f a b k = true → metB (2 * (a % W)) (2 * (a / W)) (2 * (b % W)) (2 * (b / W)) ((k : Int) % W) ((k : Int) / W) = false → clK W f a b (k + 1) = true) := fun k h1 h2 => (by simp [clK, h1, h2] : _ = _)
      have HCR : Hid (∀ k : Nat, k < n → (0 ≤ (k : Int) % W ∧ (k : Int) % W ≤ 15) ∧ (0 ≤ (k : Int) / W ∧ (k : Int) / W ≤ 15)) := fun k hk => crd hs (by omega) (by omega)
      generalize a % W = AX at *
      generalize a / W = AY at *
      generalize b % W = BX at *
      generalize b / W = BY at *
      go_enter Try.func57, Try.ntmps57
      go_wp2_with fail
      refine ka.mono ?_
      rintro e w1 ⟨rfl, hb1⟩
      have hB1 := stepA hb0 hb1
      have bA1 := bA.on hb1
      have y0 := bA1.c0
      have y1 := bA1.c1
      have kb := sfree_any W p n c f b w1 (hf.below hB1) hn
      rw [eb] at kb
      clear ka x0 x1
      go_wp2_with fail
      refine kb.mono ?_
      rintro e w2 ⟨rfl, hb2⟩
      have hB2 := stepA hB1 hb2
      have bA2 := bA1.on hb2
      have u0 := bA2.c0
      have u1 := bA2.c1
      have hF2 := hf.below hB2
      clear kb y0 y1 bA1 bA hf hb0 hb1 hb2 hB1
      go_wp2
      have HF : Hid _ := hF2
      clear hF2 u0 u1
      go_loopw [41] (fun i wr => ∃ k : Nat, k ≤ n ∧ i = .int .i64 k ∧ clK W f a b k = true ∧ Below w2.heap.size w2 wr) (fun i _ => n - (intOf i).toNat)
      case atStart => exact ⟨0, Nat.zero_le _, rfl, rfl, Below.refl _ _⟩
      case round =>
        obtain ⟨k, hk, rfl, hall, hbel⟩ := hrel
        have HA : Hid (clK W f a b k = true) := hall
        clear hall
        by_cases hlt : k < n
        · obtain ⟨q, off, rfl, hq, hc⟩ := HF.out (by omega)
          have bA3 := bA2.on hbel
          have z0 := bA3.c0
          have z1 := bA3.c1
          have z2 := (hbel.cell (p := ⟨q, off + k, none⟩) hq).trans (hc k hlt)
          have i0 : (0 : Int) ≤ (k : Int) := by omega
          have i1 : (k : Int) < (n : Int) := by omega
          have tk := tm_of (W := W) i0
          have dk := td_of (W := W) i0
          obtain ⟨kx, ky⟩ := HCR.out k hlt
          have h1 := HK.out k hlt
          have h2 := HY.out k HA.out
          have h3 := HZ.out k HA.out
          have hB3 := stepA hB2 hbel
          clear hc HF HK HY HZ HCR
          generalize f k = x at z2 h1 h2
          cases ex : (x != 0) with
          | false =>
            have h4 := h2 (by simpa using ex)
            clear h1 h2 h3
            go_wp2
            go_quiet (fail)
            go_wp2
            exact ⟨⟨k + 1, by omega, by go_num, h4, below_dr hbel _⟩, by simp [intOf]; omega⟩
          | true =>
            have h4 := h1 (by simpa using ex)
            clear h1 h2
            have km := fun w => sMeets (2 * AX) (2 * AY) (2 * BX) (2 * BY) ((k : Int) % W) ((k : Int) / W) w kx ky (by omega) (by omega) (by omega) (by omega)
            generalize (k : Int) % W = KX at *
            generalize (k : Int) / W = KY at *
            generalize metB (2 * AX) (2 * AY) (2 * BX) (2 * BY) KX KY = m at km h3 h4
            have hw0 := Below.refl wr.heap.size wr
            have hq3 : q < wr.heap.size := Nat.lt_of_lt_of_le hq hbel.size
            cases m with
            | true =>
              have h5 := h4 rfl
              clear h3 h4
              go_upto_region 10 with fail
              refine wp_region_held (S := fun w' => w'.cell? ⟨w.heap.size, 0, none⟩ = some (.int .i64 W) ∧ w'.cell? ⟨w.heap.size, 1, none⟩ = some (.slice (some ⟨q, off, none⟩) n c) ∧ w'.cell? ⟨q, off + k, none⟩ = some (.int .i64 x)) (by kernel_rfl) ?_
              change wpAnyH _ _ _ _ _ _ _ _ (World.drew _)
              have hSw := (⟨(bA3.on hw0.drew).c0, (bA3.on hw0.drew).c1, (hw0.drew.cell (p := ⟨q, off + k, none⟩) hq3).trans z2⟩ : _ ∧ _ ∧ _)
              refine wpAnyH_take (i := 0) (v := .pointer (some ⟨w.heap.size, 1, none⟩)) rfl (by kernel_rfl) (by kernel_rfl) (by kernel_rfl) (fun _ _ _ h => h) (Or.inl ⟨by rfl, ?_⟩) hSw ?_
              · intro wz hsz
                obtain ⟨z0, z1, z2⟩ := hsz
                go_simp
              try simp [Act.put]
              refine wpAnyH_take (i := 1) (v := .slice (some ⟨q, off, none⟩) n c) rfl (by kernel_rfl) (by kernel_rfl) (by kernel_rfl) (fun _ _ _ h => h) (Or.inl ⟨by rfl, ?_⟩) hSw ?_
              · intro wz hsz
                obtain ⟨z0, z1, z2⟩ := hsz
                go_simp
              try simp [Act.put]
              refine wpAnyH_take (i := 2) (v := .int .i64 ((k : Int))) rfl (by kernel_rfl) (by kernel_rfl) (by kernel_rfl) (fun _ _ _ h => h) (Or.inl ⟨by rfl, ?_⟩) hSw ?_
              · intro wz hsz
                obtain ⟨z0, z1, z2⟩ := hsz
                go_simp
              try simp [Act.put]
              refine wpAnyH_take (i := 3) (v := .pointer (some ⟨q, off + k, none⟩)) rfl (by kernel_rfl) (by kernel_rfl) (by kernel_rfl) (fun _ _ _ h => h) (Or.inl ⟨by rfl, ?_⟩) hSw ?_
              · intro wz hsz
                obtain ⟨z0, z1, z2⟩ := hsz
                go_simp
              try simp [Act.put]
              refine wpAnyH_take (i := 4) (v := .int .i64 (x)) rfl (by kernel_rfl) (by kernel_rfl) (by kernel_rfl) (fun _ _ _ h => h) (Or.inl ⟨by rfl, ?_⟩) hSw ?_
              · intro wz hsz
                obtain ⟨z0, z1, z2⟩ := hsz
                go_simp
              try simp [Act.put]
              refine wpAnyH_take (i := 5) (v := .bool true) rfl (by kernel_rfl) (by kernel_rfl) (by kernel_rfl) (fun _ _ _ h => h) (Or.inl ⟨by rfl, ?_⟩) hSw ?_
              · intro wz hsz
                obtain ⟨z0, z1, z2⟩ := hsz
                go_simp
              try simp [Act.put]
              refine wpAnyH_take (i := 6) (v := .bool true) rfl (by kernel_rfl) (by kernel_rfl) (by kernel_rfl) (fun _ _ _ h => h) (Or.inl ⟨by rfl, ?_⟩) hSw ?_
              · intro wz hsz
                obtain ⟨z0, z1, z2⟩ := hsz
                go_simp
              try simp [Act.put]
              refine wpAnyH_take (i := 7) (v := .int .i64 (AX)) rfl (by kernel_rfl) (by kernel_rfl) (by kernel_rfl) (fun _ _ _ h => h) (Or.inl ⟨by rfl, ?_⟩) hSw ?_
              · intro wz hsz
                obtain ⟨z0, z1, z2⟩ := hsz
                go_simp
              try simp [Act.put]
              refine wpAnyH_take (i := 8) (v := .int .i64 (2 * AX)) rfl (by kernel_rfl) (by kernel_rfl) (by kernel_rfl) (fun _ _ _ h => h) (Or.inl ⟨by rfl, ?_⟩) hSw ?_
              · intro wz hsz
                obtain ⟨z0, z1, z2⟩ := hsz
                go_simp
                exact IntWalk.i64_in _ ⟨by omega, by omega⟩
              try simp [Act.put]
              refine wpAnyH_take (i := 9) (v := .int .i64 (AY)) rfl (by kernel_rfl) (by kernel_rfl) (by kernel_rfl) (fun _ _ _ h => h) (Or.inl ⟨by rfl, ?_⟩) hSw ?_
              · intro wz hsz
                obtain ⟨z0, z1, z2⟩ := hsz
                go_simp
              try simp [Act.put]
              refine wpAnyH_take (i := 10) (v := .int .i64 (2 * AY)) rfl (by kernel_rfl) (by kernel_rfl) (by kernel_rfl) (fun _ _ _ h => h) (Or.inl ⟨by rfl, ?_⟩) hSw ?_
              · intro wz hsz
                obtain ⟨z0, z1, z2⟩ := hsz
                go_simp
                exact IntWalk.i64_in _ ⟨by omega, by omega⟩
              try simp [Act.put]
              refine wpAnyH_take (i := 11) (v := .int .i64 (BX)) rfl (by kernel_rfl) (by kernel_rfl) (by kernel_rfl) (fun _ _ _ h => h) (Or.inl ⟨by rfl, ?_⟩) hSw ?_
              · intro wz hsz
                obtain ⟨z0, z1, z2⟩ := hsz
                go_simp
              try simp [Act.put]
              refine wpAnyH_take (i := 12) (v := .int .i64 (2 * BX)) rfl (by kernel_rfl) (by kernel_rfl) (by kernel_rfl) (fun _ _ _ h => h) (Or.inl ⟨by rfl, ?_⟩) hSw ?_
              · intro wz hsz
                obtain ⟨z0, z1, z2⟩ := hsz
                go_simp
                exact IntWalk.i64_in _ ⟨by omega, by omega⟩
              try simp [Act.put]
              refine wpAnyH_take (i := 13) (v := .int .i64 (BY)) rfl (by kernel_rfl) (by kernel_rfl) (by kernel_rfl) (fun _ _ _ h => h) (Or.inl ⟨by rfl, ?_⟩) hSw ?_
              · intro wz hsz
                obtain ⟨z0, z1, z2⟩ := hsz
                go_simp
              try simp [Act.put]
              refine wpAnyH_take (i := 14) (v := .int .i64 (2 * BY)) rfl (by kernel_rfl) (by kernel_rfl) (by kernel_rfl) (fun _ _ _ h => h) (Or.inl ⟨by rfl, ?_⟩) hSw ?_
              · intro wz hsz
                obtain ⟨z0, z1, z2⟩ := hsz
                go_simp
                exact IntWalk.i64_in _ ⟨by omega, by omega⟩
              try simp [Act.put]
              refine wpAnyH_take (i := 15) (v := .int .i64 ((k : Int))) rfl (by kernel_rfl) (by kernel_rfl) (by kernel_rfl) (fun _ _ _ h => h) (Or.inl ⟨by rfl, ?_⟩) hSw ?_
              · intro wz hsz
                obtain ⟨z0, z1, z2⟩ := hsz
                go_simp
              try simp [Act.put]
              refine wpAnyH_take (i := 16) (v := .pointer (some ⟨w.heap.size, 0, none⟩)) rfl (by kernel_rfl) (by kernel_rfl) (by kernel_rfl) (fun _ _ _ h => h) (Or.inl ⟨by rfl, ?_⟩) hSw ?_
              · intro wz hsz
                obtain ⟨z0, z1, z2⟩ := hsz
                go_simp
              try simp [Act.put]
              refine wpAnyH_take (i := 17) (v := .int .i64 (W)) rfl (by kernel_rfl) (by kernel_rfl) (by kernel_rfl) (fun _ _ _ h => h) (Or.inl ⟨by rfl, ?_⟩) hSw ?_
              · intro wz hsz
                obtain ⟨z0, z1, z2⟩ := hsz
                go_simp
              try simp [Act.put]
              refine wpAnyH_take (i := 18) (v := .int .i64 (KX)) rfl (by kernel_rfl) (by kernel_rfl) (by kernel_rfl) (fun _ _ _ h => h) (Or.inl ⟨by rfl, ?_⟩) hSw ?_
              · intro wz hsz
                obtain ⟨z0, z1, z2⟩ := hsz
                go_simp
              try simp [Act.put]
              refine wpAnyH_take (i := 19) (v := .int .i64 ((k : Int))) rfl (by kernel_rfl) (by kernel_rfl) (by kernel_rfl) (fun _ _ _ h => h) (Or.inl ⟨by rfl, ?_⟩) hSw ?_
              · intro wz hsz
                obtain ⟨z0, z1, z2⟩ := hsz
                go_simp
              try simp [Act.put]
              refine wpAnyH_take (i := 20) (v := .pointer (some ⟨w.heap.size, 0, none⟩)) rfl (by kernel_rfl) (by kernel_rfl) (by kernel_rfl) (fun _ _ _ h => h) (Or.inl ⟨by rfl, ?_⟩) hSw ?_
              · intro wz hsz
                obtain ⟨z0, z1, z2⟩ := hsz
                go_simp
              try simp [Act.put]
              refine wpAnyH_take (i := 21) (v := .int .i64 (W)) rfl (by kernel_rfl) (by kernel_rfl) (by kernel_rfl) (fun _ _ _ h => h) (Or.inl ⟨by rfl, ?_⟩) hSw ?_
              · intro wz hsz
                obtain ⟨z0, z1, z2⟩ := hsz
                go_simp
              try simp [Act.put]
              refine wpAnyH_take (i := 22) (v := .int .i64 (KY)) rfl (by kernel_rfl) (by kernel_rfl) (by kernel_rfl) (fun _ _ _ h => h) (Or.inl ⟨by rfl, ?_⟩) hSw ?_
              · intro wz hsz
                obtain ⟨z0, z1, z2⟩ := hsz
                go_simp
                exact IntWalk.i64_in _ ⟨by omega, by omega⟩
              try simp [Act.put]
              refine wpAnyH_ready (rs := [23]) (by kernel_rfl) (by simp) ?_
              refine AllReadyH.cons rfl (fun K hK => ?_) AllReadyH.nil
              go_simp
              go_wp2_with (first | (go_at_call 92; refine (km _).mono ?_; rintro e w5 ⟨rfl, hb5⟩; have hw1 := stepA hw0.drew hb5; clear hb5) | (fail))
              refine hK.out _ _ (⟨(bA3.on hw1).c0, (bA3.on hw1).c1, (hw1.cell (p := ⟨q, off + k, none⟩) hq3).trans z2⟩) (fun hSn => ?_)
              clear hK K hSw
              have hSw := hSn
              clear hSn
              try simp [Act.put]
              refine wpAnyH_take (i := 24) (v := .bool true) rfl (by kernel_rfl) (by kernel_rfl) (by kernel_rfl) (fun _ _ _ h => h) (Or.inl ⟨by rfl, ?_⟩) hSw ?_
              · intro wz hsz
                obtain ⟨z0, z1, z2⟩ := hsz
                go_simp
              try simp [Act.put]
              refine wpAnyH_done (by kernel_rfl) ?_ _
              go_wp2
              go_ret
              exact ⟨ret_bool h5.symm, stepA hB3 hw1⟩
            | false =>
              have h5 := h3 rfl
              clear h3 h4
              go_upto_region 10 with fail
              refine wp_region_held (S := fun w' => w'.cell? ⟨w.heap.size, 0, none⟩ = some (.int .i64 W) ∧ w'.cell? ⟨w.heap.size, 1, none⟩ = some (.slice (some ⟨q, off, none⟩) n c) ∧ w'.cell? ⟨q, off + k, none⟩ = some (.int .i64 x)) (by kernel_rfl) ?_
              change wpAnyH _ _ _ _ _ _ _ _ (World.drew _)
              have hSw := (⟨(bA3.on hw0.drew).c0, (bA3.on hw0.drew).c1, (hw0.drew.cell (p := ⟨q, off + k, none⟩) hq3).trans z2⟩ : _ ∧ _ ∧ _)
              refine wpAnyH_take (i := 0) (v := .pointer (some ⟨w.heap.size, 1, none⟩)) rfl (by kernel_rfl) (by kernel_rfl) (by kernel_rfl) (fun _ _ _ h => h) (Or.inl ⟨by rfl, ?_⟩) hSw ?_
              · intro wz hsz
                obtain ⟨z0, z1, z2⟩ := hsz
                go_simp
              try simp [Act.put]
              refine wpAnyH_take (i := 1) (v := .slice (some ⟨q, off, none⟩) n c) rfl (by kernel_rfl) (by kernel_rfl) (by kernel_rfl) (fun _ _ _ h => h) (Or.inl ⟨by rfl, ?_⟩) hSw ?_
              · intro wz hsz
                obtain ⟨z0, z1, z2⟩ := hsz
                go_simp
              try simp [Act.put]
              refine wpAnyH_take (i := 2) (v := .int .i64 ((k : Int))) rfl (by kernel_rfl) (by kernel_rfl) (by kernel_rfl) (fun _ _ _ h => h) (Or.inl ⟨by rfl, ?_⟩) hSw ?_
              · intro wz hsz
                obtain ⟨z0, z1, z2⟩ := hsz
                go_simp
              try simp [Act.put]
              refine wpAnyH_take (i := 3) (v := .pointer (some ⟨q, off + k, none⟩)) rfl (by kernel_rfl) (by kernel_rfl) (by kernel_rfl) (fun _ _ _ h => h) (Or.inl ⟨by rfl, ?_⟩) hSw ?_
              · intro wz hsz
                obtain ⟨z0, z1, z2⟩ := hsz
                go_simp
              try simp [Act.put]
              refine wpAnyH_take (i := 4) (v := .int .i64 (x)) rfl (by kernel_rfl) (by kernel_rfl) (by kernel_rfl) (fun _ _ _ h => h) (Or.inl ⟨by rfl, ?_⟩) hSw ?_
              · intro wz hsz
                obtain ⟨z0, z1, z2⟩ := hsz
                go_simp
              try simp [Act.put]
              refine wpAnyH_take (i := 5) (v := .bool true) rfl (by kernel_rfl) (by kernel_rfl) (by kernel_rfl) (fun _ _ _ h => h) (Or.inl ⟨by rfl, ?_⟩) hSw ?_
              · intro wz hsz
                obtain ⟨z0, z1, z2⟩ := hsz
                go_simp
              try simp [Act.put]
              refine wpAnyH_take (i := 6) (v := .bool true) rfl (by kernel_rfl) (by kernel_rfl) (by kernel_rfl) (fun _ _ _ h => h) (Or.inl ⟨by rfl, ?_⟩) hSw ?_
              · intro wz hsz
                obtain ⟨z0, z1, z2⟩ := hsz
                go_simp
              try simp [Act.put]
              refine wpAnyH_take (i := 7) (v := .int .i64 (AX)) rfl (by kernel_rfl) (by kernel_rfl) (by kernel_rfl) (fun _ _ _ h => h) (Or.inl ⟨by rfl, ?_⟩) hSw ?_
              · intro wz hsz
                obtain ⟨z0, z1, z2⟩ := hsz
                go_simp
              try simp [Act.put]
              refine wpAnyH_take (i := 8) (v := .int .i64 (2 * AX)) rfl (by kernel_rfl) (by kernel_rfl) (by kernel_rfl) (fun _ _ _ h => h) (Or.inl ⟨by rfl, ?_⟩) hSw ?_
              · intro wz hsz
                obtain ⟨z0, z1, z2⟩ := hsz
                go_simp
                exact IntWalk.i64_in _ ⟨by omega, by omega⟩
              try simp [Act.put]
              refine wpAnyH_take (i := 9) (v := .int .i64 (AY)) rfl (by kernel_rfl) (by kernel_rfl) (by kernel_rfl) (fun _ _ _ h => h) (Or.inl ⟨by rfl, ?_⟩) hSw ?_
              · intro wz hsz
                obtain ⟨z0, z1, z2⟩ := hsz
                go_simp
              try simp [Act.put]
              refine wpAnyH_take (i := 10) (v := .int .i64 (2 * AY)) rfl (by kernel_rfl) (by kernel_rfl) (by kernel_rfl) (fun _ _ _ h => h) (Or.inl ⟨by rfl, ?_⟩) hSw ?_
              · intro wz hsz
                obtain ⟨z0, z1, z2⟩ := hsz
                go_simp
                exact IntWalk.i64_in _ ⟨by omega, by omega⟩
              try simp [Act.put]
              refine wpAnyH_take (i := 11) (v := .int .i64 (BX)) rfl (by kernel_rfl) (by kernel_rfl) (by kernel_rfl) (fun _ _ _ h => h) (Or.inl ⟨by rfl, ?_⟩) hSw ?_
              · intro wz hsz
                obtain ⟨z0, z1, z2⟩ := hsz
                go_simp
              try simp [Act.put]
              refine wpAnyH_take (i := 12) (v := .int .i64 (2 * BX)) rfl (by kernel_rfl) (by kernel_rfl) (by kernel_rfl) (fun _ _ _ h => h) (Or.inl ⟨by rfl, ?_⟩) hSw ?_
              · intro wz hsz
                obtain ⟨z0, z1, z2⟩ := hsz
                go_simp
                exact IntWalk.i64_in _ ⟨by omega, by omega⟩
              try simp [Act.put]
              refine wpAnyH_take (i := 13) (v := .int .i64 (BY)) rfl (by kernel_rfl) (by kernel_rfl) (by kernel_rfl) (fun _ _ _ h => h) (Or.inl ⟨by rfl, ?_⟩) hSw ?_
              · intro wz hsz
                obtain ⟨z0, z1, z2⟩ := hsz
                go_simp
              try simp [Act.put]
              refine wpAnyH_take (i := 14) (v := .int .i64 (2 * BY)) rfl (by kernel_rfl) (by kernel_rfl) (by kernel_rfl) (fun _ _ _ h => h) (Or.inl ⟨by rfl, ?_⟩) hSw ?_
              · intro wz hsz
                obtain ⟨z0, z1, z2⟩ := hsz
                go_simp
                exact IntWalk.i64_in _ ⟨by omega, by omega⟩
              try simp [Act.put]
              refine wpAnyH_take (i := 15) (v := .int .i64 ((k : Int))) rfl (by kernel_rfl) (by kernel_rfl) (by kernel_rfl) (fun _ _ _ h => h) (Or.inl ⟨by rfl, ?_⟩) hSw ?_
              · intro wz hsz
                obtain ⟨z0, z1, z2⟩ := hsz
                go_simp
              try simp [Act.put]
              refine wpAnyH_take (i := 16) (v := .pointer (some ⟨w.heap.size, 0, none⟩)) rfl (by kernel_rfl) (by kernel_rfl) (by kernel_rfl) (fun _ _ _ h => h) (Or.inl ⟨by rfl, ?_⟩) hSw ?_
              · intro wz hsz
                obtain ⟨z0, z1, z2⟩ := hsz
                go_simp
              try simp [Act.put]
              refine wpAnyH_take (i := 17) (v := .int .i64 (W)) rfl (by kernel_rfl) (by kernel_rfl) (by kernel_rfl) (fun _ _ _ h => h) (Or.inl ⟨by rfl, ?_⟩) hSw ?_
              · intro wz hsz
                obtain ⟨z0, z1, z2⟩ := hsz
                go_simp
              try simp [Act.put]
              refine wpAnyH_take (i := 18) (v := .int .i64 (KX)) rfl (by kernel_rfl) (by kernel_rfl) (by kernel_rfl) (fun _ _ _ h => h) (Or.inl ⟨by rfl, ?_⟩) hSw ?_
              · intro wz hsz
                obtain ⟨z0, z1, z2⟩ := hsz
                go_simp
              try simp [Act.put]
              refine wpAnyH_take (i := 19) (v := .int .i64 ((k : Int))) rfl (by kernel_rfl) (by kernel_rfl) (by kernel_rfl) (fun _ _ _ h => h) (Or.inl ⟨by rfl, ?_⟩) hSw ?_
              · intro wz hsz
                obtain ⟨z0, z1, z2⟩ := hsz
                go_simp
              try simp [Act.put]
              refine wpAnyH_take (i := 20) (v := .pointer (some ⟨w.heap.size, 0, none⟩)) rfl (by kernel_rfl) (by kernel_rfl) (by kernel_rfl) (fun _ _ _ h => h) (Or.inl ⟨by rfl, ?_⟩) hSw ?_
              · intro wz hsz
                obtain ⟨z0, z1, z2⟩ := hsz
                go_simp
              try simp [Act.put]
              refine wpAnyH_take (i := 21) (v := .int .i64 (W)) rfl (by kernel_rfl) (by kernel_rfl) (by kernel_rfl) (fun _ _ _ h => h) (Or.inl ⟨by rfl, ?_⟩) hSw ?_
              · intro wz hsz
                obtain ⟨z0, z1, z2⟩ := hsz
                go_simp
              try simp [Act.put]
              refine wpAnyH_take (i := 22) (v := .int .i64 (KY)) rfl (by kernel_rfl) (by kernel_rfl) (by kernel_rfl) (fun _ _ _ h => h) (Or.inl ⟨by rfl, ?_⟩) hSw ?_
              · intro wz hsz
                obtain ⟨z0, z1, z2⟩ := hsz
                go_simp
                exact IntWalk.i64_in _ ⟨by omega, by omega⟩
              try simp [Act.put]
              refine wpAnyH_ready (rs := [23]) (by kernel_rfl) (by simp) ?_
              refine AllReadyH.cons rfl (fun K hK => ?_) AllReadyH.nil
              go_simp
              go_wp2_with (first | (go_at_call 92; refine (km _).mono ?_; rintro e w5 ⟨rfl, hb5⟩; have hw1 := stepA hw0.drew hb5; clear hb5) | (fail))
              refine hK.out _ _ (⟨(bA3.on hw1).c0, (bA3.on hw1).c1, (hw1.cell (p := ⟨q, off + k, none⟩) hq3).trans z2⟩) (fun hSn => ?_)
              clear hK K hSw
              have hSw := hSn
              clear hSn
              try simp [Act.put]
              refine wpAnyH_take (i := 24) (v := .bool false) rfl (by kernel_rfl) (by kernel_rfl) (by kernel_rfl) (fun _ _ _ h => h) (Or.inl ⟨by rfl, ?_⟩) hSw ?_
              · intro wz hsz
                obtain ⟨z0, z1, z2⟩ := hsz
                go_simp
              try simp [Act.put]
              refine wpAnyH_done (by kernel_rfl) ?_ _
              go_wp2
              exact ⟨⟨k + 1, by omega, by go_num, h5, stepA hbel hw1⟩, by simp [intOf]; omega⟩
        · have hke : k = n := by omega
          subst hke
          go_wp2
          go_ret
          exact ⟨ret_bool HA.out.symm, stepA hB2 hbel⟩
end Go.Proofs.Ytfciecoigfnnhaa
