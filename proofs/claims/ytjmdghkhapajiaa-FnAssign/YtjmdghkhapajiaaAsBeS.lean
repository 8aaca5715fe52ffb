/- BestAssign, as the model takes it. -/
import Derived.Test.YtjmdghkhapajiaaAsBeI
import Derived.Test.YtjmdghkhapajiaaAsCost
import Derived.Deep.RegionHeld
import Derived.BigQuiet
import Derived.Deep.Cut
namespace Go.Proofs.Ytjmdghkhapajiaa
open Go.RowKit
theorem bt_and0 (M t : Nat) (hM : M < 64) : (bits .and .i64 ((M : Int) / 2 ^ t) 1 == 0) = !M.testBit t := by
  have e : (M : Int) / 2 ^ t = ((M / 2 ^ t : Nat) : Int) := by simp
  have hl : M / 2 ^ t ≤ M := Nat.div_le_self _ _
  rw [e, and1_i64 _ (by omega), Nat.testBit_eq_decide_div_mod_eq]
  by_cases c : M / 2 ^ t % 2 = 1
  · rw [c]; rfl
  · have c0 : M / 2 ^ t % 2 = 0 := by omega
    rw [c0]; rfl
theorem u64_all : ∀ t : Fin 6, IntKind.u64.wrap (t.val : Int) = (t.val : Int) := by decide +kernel
theorem u64_in (t : Nat) (h : t < 6) : IntKind.u64.wrap (t : Int) = (t : Int) := u64_all ⟨t, h⟩
theorem mn_ge {O : Nat → Option Int} {n : Nat} (h : ∀ t c, t < n → O t = some c → 0 ≤ c) : ∀ b, mnO O n = some b → 0 ≤ b := mn_in (P := fun c => 0 ≤ c) h
set_option maxHeartbeats 8000000 in
set_option maxRecDepth 20000 in
theorem sLeast (a : Option Addr) (n c : Nat) (A : Nat → Option Addr) (K C : Nat → Nat) (F : Nat → Nat → Int) (gp : GP n K F) : ∀ (k i M : Nat) (x : Int) (w : World), i + k = n → x = (i : Int) → M < 2 ^ n → pcN M = i → LL w a n A K C F →
    Calls Try.prog 37 #[.slice a n c, .int .i64 x, .int .i64 (M : Int)] w fun e w' => e = .returned (.int .i64 (lsL F n k M)) ∧ Below w.heap.size w w' := by
  intro k
  induction k with
  | zero =>
    intro i M x w hik hx hM hp hA
    have j0 : (x == (n : Int)) = true := by simp; omega
    clear hx
    go_enter Try.func37, Try.ntmps37
    go_wp2
    go_ret
    exact ⟨rfl, Below.refl _ _⟩
  | succ k ih =>
    intro i M x w hik hx hM hp hA
    subst hx
    have hn6 := gp.hi
    have hin : i < n := by omega
    have j0 : ((i : Int) == (n : Int)) = false := by simp; omega
    have hM64 := lt64 hn6 hM
    have ei : n - (k + 1) = i := by omega
    obtain ⟨O, hO⟩ : ∃ O, O = ofT (F i) M (lsL F n k) := ⟨_, rfl⟩
    have HL : Hid (lsL F n (k + 1) M = (mnO O n).getD (-1)) := by show (mnO (ofT (F (n - (k + 1))) M (lsL F n k)) n).getD (-1) = _; rw [ei, hO]
    have HOt : Hid (∀ t, t < n → M.testBit t = true → O t = none) := fun t _ h => by rw [hO]; unfold ofT; rw [if_pos h]
    have HOf : Hid (∀ t, t < n → M.testBit t = false → O t = some (F i t + lsL F n k (M ||| 2 ^ t))) := fun t _ h => by rw [hO]; unfold ofT; rw [if_neg (by rw [h]; decide)]
    have HZ : Hid (∀ t, t < n → M.testBit t = false → M ||| 2 ^ t < 2 ^ n ∧ pcN (M ||| 2 ^ t) = i + 1 ∧ 0 ≤ lsL F n k (M ||| 2 ^ t) ∧ lsL F n k (M ||| 2 ^ t) ≤ 1000000) := fun t ht h => by
      have h1 := (pc_up M t hM64 (by omega) h).1
      have h2 := or_lt (t := t) hM ht
      have h3 := ls_bd gp k _ h2 (by omega)
      exact ⟨h2, by omega, h3.1, by omega⟩
    have HG : Hid (∀ t b, t ≤ n → mnO O t = some b → 0 ≤ b) := fun t b ht => mn_ge (fun s cc hs he => by
      cases hb : M.testBit s with
      | true => rw [HOt.out s (by omega) hb] at he; cases he
      | false =>
        rw [HOf.out s (by omega) hb] at he
        have h1 := HZ.out s (by omega) hb
        have h2 := gp.bd i s hin (by omega)
        have := Option.some.inj he
        omega) b
    clear hO
    have hKi := gp.len i hin
    obtain ⟨pb, po, rfl, pl_, pc0⟩ := ll_at1 hA hin
    obtain ⟨rb, ro, hAi, rl_, rc0⟩ := hA.row i hin (by omega)
    rw [hAi, hKi] at pc0
    rw [hKi] at rc0
    generalize C i = Ck at pc0
    have HA : Hid (LL w (some ⟨pb, po, none⟩) n A K C F) := hA
    clear hA hKi hAi
    go_enter Try.func37, Try.ntmps37
    go_wp2_with fail
    go_loopw [8, 9] (fun v x wr => ∃ t : Nat, t ≤ n ∧ x = .int .i64 (t : Int) ∧ v = .int .i64 ((mnO O t).getD (-1)) ∧ Below w.heap.size w wr) (fun _ x _ => n - (intOf x).toNat)
    case atStart => exact ⟨0, Nat.zero_le _, rfl, rfl, Below.refl _ _⟩
    case round =>
      obtain ⟨t, ht, rfl, rfl, hB⟩ := hrel
      have i0 : (0 : Int) ≤ (t : Int) := by omega
      by_cases hlt : t < n
      · have i1 : (t : Int) < (n : Int) := by omega
        have i2 : (t : Int) < 6 := by omega
        have hbt := bt_and M t hM64
        cases e : M.testBit t with
        | true =>
          rw [e] at hbt
          have HS : Hid (mnO O (t + 1) = mnO O t) := by show mnO O (t + 1) = _; rw [mnO, HOt.out t hlt e]
          clear ih rc0 HZ HOf HOt HG e
          go_wp2
          exact ⟨⟨t + 1, by omega, by go_num, by rw [HS.out], hB⟩, by simp [intOf]; omega⟩
        | false =>
          rw [e] at hbt
          obtain ⟨n1, n2, n3, n4⟩ := HZ.out t hlt e
          have hOt := HOf.out t hlt e
          have hv := gp.bd i t hin hlt
          have hor := or_bit M t hM64 (by omega)
          have hwr := bit_in t (by omega)
          have hu6 := u64_in t (by omega)
          have kL := fun w2 (hb : Below wr.heap.size wr w2) => ih (i + 1) (M ||| 2 ^ t) ((i : Int) + 1) w2.drew (by omega) (by omega) n1 n2 ((HA.out.below (stepA hB hb)).below (Below.refl _ _).drew)
          have y1 := (hB.cell (p := ⟨pb, po + i, none⟩) pl_).trans pc0
          have y2 := (hB.cell (p := ⟨rb, ro + t, none⟩) rl_).trans (rc0 t hlt)
          have hg := HG.out t
          have HS : Hid (mnO O (t + 1) = match mnO O t with | none => some (F i t + lsL F n k (M ||| 2 ^ t)) | some b => if F i t + lsL F n k (M ||| 2 ^ t) < b then some (F i t + lsL F n k (M ||| 2 ^ t)) else some b) := by show mnO O (t + 1) = _; rw [mnO, hOt]; cases mnO O t <;> rfl
          clear ih HZ HOf HOt e hOt n1 n2
          generalize M ||| 2 ^ t = Y at *
          generalize F i t = X at *
          generalize lsL F n k Y = Z at *
          have hBsz := hB.size
          have HC : Hid (∀ w2, Below wr.heap.size wr w2 → w2.cell? ⟨pb, po + i, none⟩ = some (.slice (some ⟨rb, ro, none⟩) n Ck) ∧ w2.cell? ⟨rb, ro + t, none⟩ = some (.int .i64 X)) := fun w2 hb => ⟨(hb.cell (p := ⟨pb, _, none⟩) (show pb < wr.heap.size by omega)).trans y1, (hb.cell (p := ⟨rb, _, none⟩) (show rb < wr.heap.size by omega)).trans y2⟩
          have hw0 := Below.refl wr.heap.size wr
          have j3 : (0 : Int) ≤ (i : Int) := by omega
          have j4 : (i : Int) < (n : Int) := by omega
          clear rc0 y1 y2
          cases em : mnO O t with
          | none =>
            rw [em] at HS
            clear hg em
            have HS2 : Hid (mnO O (t + 1) = some (X + Z)) := HS.out
            clear HS
            go_upto_region 9 with fail
            refine wp_region_held (S := (fun w' => w'.cell? ⟨pb, po + i, none⟩ = some (.slice (some ⟨rb, ro, none⟩) n Ck) ∧ w'.cell? ⟨rb, ro + t, none⟩ = some (.int .i64 X))) (by kernel_rfl) ?_
            change wpAnyH _ _ _ _ _ _ _ _ (World.drew _)
            have hSw := (HC.out _ hw0.drew : _ ∧ _)
            refine wpAnyH_take (i := 0) (v := .slice (some ⟨pb, po, none⟩) n c) rfl (by kernel_rfl) (by kernel_rfl) (by kernel_rfl) (fun _ _ _ h => h) (Or.inl ⟨by rfl, ?_⟩) hSw ?_
            · intro wz hsz
              obtain ⟨z1, z2⟩ := hsz
              go_simp
            try simp [Act.put]
            refine wpAnyH_take (i := 1) (v := .int .i64 (i : Int)) rfl (by kernel_rfl) (by kernel_rfl) (by kernel_rfl) (fun _ _ _ h => h) (Or.inl ⟨by rfl, ?_⟩) hSw ?_
            · intro wz hsz
              obtain ⟨z1, z2⟩ := hsz
              go_simp
            try simp [Act.put]
            refine wpAnyH_take (i := 2) (v := .pointer (some ⟨pb, po + i, none⟩)) rfl (by kernel_rfl) (by kernel_rfl) (by kernel_rfl) (fun _ _ _ h => h) (Or.inl ⟨by rfl, ?_⟩) hSw ?_
            · intro wz hsz
              obtain ⟨z1, z2⟩ := hsz
              go_simp
              try (intro h9; omega)
            try simp [Act.put]
            refine wpAnyH_take (i := 3) (v := .slice (some ⟨rb, ro, none⟩) n Ck) rfl (by kernel_rfl) (by kernel_rfl) (by kernel_rfl) (fun _ _ _ h => h) (Or.inl ⟨by rfl, ?_⟩) hSw ?_
            · intro wz hsz
              obtain ⟨z1, z2⟩ := hsz
              go_simp
            try simp [Act.put]
            refine wpAnyH_take (i := 4) (v := .int .i64 (t : Int)) rfl (by kernel_rfl) (by kernel_rfl) (by kernel_rfl) (fun _ _ _ h => h) (Or.inl ⟨by rfl, ?_⟩) hSw ?_
            · intro wz hsz
              obtain ⟨z1, z2⟩ := hsz
              go_simp
            try simp [Act.put]
            refine wpAnyH_take (i := 5) (v := .pointer (some ⟨rb, ro + t, none⟩)) rfl (by kernel_rfl) (by kernel_rfl) (by kernel_rfl) (fun _ _ _ h => h) (Or.inl ⟨by rfl, ?_⟩) hSw ?_
            · intro wz hsz
              obtain ⟨z1, z2⟩ := hsz
              go_simp
              try (intro h9; omega)
            try simp [Act.put]
            refine wpAnyH_take (i := 6) (v := .int .i64 X) rfl (by kernel_rfl) (by kernel_rfl) (by kernel_rfl) (fun _ _ _ h => h) (Or.inl ⟨by rfl, ?_⟩) hSw ?_
            · intro wz hsz
              obtain ⟨z1, z2⟩ := hsz
              go_simp
            try simp [Act.put]
            refine wpAnyH_take (i := 7) (v := .slice (some ⟨pb, po, none⟩) n c) rfl (by kernel_rfl) (by kernel_rfl) (by kernel_rfl) (fun _ _ _ h => h) (Or.inl ⟨by rfl, ?_⟩) hSw ?_
            · intro wz hsz
              obtain ⟨z1, z2⟩ := hsz
              go_simp
            try simp [Act.put]
            refine wpAnyH_take (i := 8) (v := .int .i64 (i : Int)) rfl (by kernel_rfl) (by kernel_rfl) (by kernel_rfl) (fun _ _ _ h => h) (Or.inl ⟨by rfl, ?_⟩) hSw ?_
            · intro wz hsz
              obtain ⟨z1, z2⟩ := hsz
              go_simp
            try simp [Act.put]
            refine wpAnyH_take (i := 9) (v := .int .i64 ((i : Int) + 1)) rfl (by kernel_rfl) (by kernel_rfl) (by kernel_rfl) (fun _ _ _ h => h) (Or.inl ⟨by rfl, ?_⟩) hSw ?_
            · intro wz hsz
              obtain ⟨z1, z2⟩ := hsz
              go_simp
              try exact IntWalk.i64_in _ ⟨by omega, by omega⟩
            try simp [Act.put]
            refine wpAnyH_take (i := 10) (v := .int .i64 (M : Int)) rfl (by kernel_rfl) (by kernel_rfl) (by kernel_rfl) (fun _ _ _ h => h) (Or.inl ⟨by rfl, ?_⟩) hSw ?_
            · intro wz hsz
              obtain ⟨z1, z2⟩ := hsz
              go_simp
            try simp [Act.put]
            refine wpAnyH_take (i := 11) (v := .int .i64 (t : Int)) rfl (by kernel_rfl) (by kernel_rfl) (by kernel_rfl) (fun _ _ _ h => h) (Or.inl ⟨by rfl, ?_⟩) hSw ?_
            · intro wz hsz
              obtain ⟨z1, z2⟩ := hsz
              go_simp
            try simp [Act.put]
            refine wpAnyH_take (i := 12) (v := .int .u64 (t : Int)) rfl (by kernel_rfl) (by kernel_rfl) (by kernel_rfl) (fun _ _ _ h => h) (Or.inl ⟨by rfl, ?_⟩) hSw ?_
            · intro wz hsz
              obtain ⟨z1, z2⟩ := hsz
              go_simp
              try exact hu6
            try simp [Act.put]
            refine wpAnyH_take (i := 13) (v := .int .i64 ((2 : Int) ^ t)) rfl (by kernel_rfl) (by kernel_rfl) (by kernel_rfl) (fun _ _ _ h => h) (Or.inl ⟨by rfl, ?_⟩) hSw ?_
            · intro wz hsz
              obtain ⟨z1, z2⟩ := hsz
              go_simp
              try exact hwr
            try simp [Act.put]
            refine wpAnyH_take (i := 14) (v := .int .i64 (Y : Int)) rfl (by kernel_rfl) (by kernel_rfl) (by kernel_rfl) (fun _ _ _ h => h) (Or.inl ⟨by rfl, ?_⟩) hSw ?_
            · intro wz hsz
              obtain ⟨z1, z2⟩ := hsz
              go_simp
              try exact hor
            try simp [Act.put]
            refine wpAnyH_ready (rs := [15]) (by kernel_rfl) (by simp) ?_
            refine AllReadyH.cons rfl (fun K hK => ?_) AllReadyH.nil
            go_simp
            go_wp2_with (first | (go_at_call 37; refine (kL _ hw0).mono ?_; rintro e w5 ⟨rfl, hb5⟩; have hw1 := stepA hw0.drew hb5; clear hb5) | (fail))
            refine hK.out _ _ (HC.out _ hw1) (fun hSn => ?_)
            clear hK K hSw
            have hSw := hSn
            clear hSn
            try simp [Act.put]
            refine wpAnyH_take (i := 16) (v := .int .i64 (X + Z)) rfl (by kernel_rfl) (by kernel_rfl) (by kernel_rfl) (fun _ _ _ h => h) (Or.inl ⟨by rfl, ?_⟩) hSw ?_
            · intro wz hsz
              obtain ⟨z1, z2⟩ := hsz
              go_simp
              try exact IntWalk.i64_in _ ⟨by omega, by omega⟩
            try simp [Act.put]
            refine wpAnyH_take (i := 17) (v := .int .i64 (X + Z)) rfl (by kernel_rfl) (by kernel_rfl) (by kernel_rfl) (fun _ _ _ h => h) (Or.inl ⟨by rfl, ?_⟩) hSw ?_
            · intro wz hsz
              obtain ⟨z1, z2⟩ := hsz
              go_simp
            try simp [Act.put]
            refine wpAnyH_done (by kernel_rfl) ?_ _
            go_wp2
            exact ⟨⟨t + 1, by omega, by go_num, by rw [HS2.out]; rfl, stepA hB hw1⟩, by simp [intOf]; omega⟩
          | some b =>
            rw [em] at HS
            have hb0 : ¬ b < 0 := by have := hg b ht em; omega
            have HM : Hid ((some b : Option Int).getD (-1) = b) := rfl
            clear hg em
            by_cases gl : X + Z < b
            · have HS2 : Hid (mnO O (t + 1) = some (X + Z)) := HS.out.trans (if_pos gl)
              clear HS
              rw [HM.out]
              go_upto_region 9 with fail
              refine wp_region_held (S := (fun w' => w'.cell? ⟨pb, po + i, none⟩ = some (.slice (some ⟨rb, ro, none⟩) n Ck) ∧ w'.cell? ⟨rb, ro + t, none⟩ = some (.int .i64 X))) (by kernel_rfl) ?_
              change wpAnyH _ _ _ _ _ _ _ _ (World.drew _)
              have hSw := (HC.out _ hw0.drew : _ ∧ _)
              refine wpAnyH_take (i := 0) (v := .slice (some ⟨pb, po, none⟩) n c) rfl (by kernel_rfl) (by kernel_rfl) (by kernel_rfl) (fun _ _ _ h => h) (Or.inl ⟨by rfl, ?_⟩) hSw ?_
              · intro wz hsz
                obtain ⟨z1, z2⟩ := hsz
                go_simp
              try simp [Act.put]
              refine wpAnyH_take (i := 1) (v := .int .i64 (i : Int)) rfl (by kernel_rfl) (by kernel_rfl) (by kernel_rfl) (fun _ _ _ h => h) (Or.inl ⟨by rfl, ?_⟩) hSw ?_
              · intro wz hsz
                obtain ⟨z1, z2⟩ := hsz
                go_simp
              try simp [Act.put]
              refine wpAnyH_take (i := 2) (v := .pointer (some ⟨pb, po + i, none⟩)) rfl (by kernel_rfl) (by kernel_rfl) (by kernel_rfl) (fun _ _ _ h => h) (Or.inl ⟨by rfl, ?_⟩) hSw ?_
              · intro wz hsz
                obtain ⟨z1, z2⟩ := hsz
                go_simp
                try (intro h9; omega)
              try simp [Act.put]
              refine wpAnyH_take (i := 3) (v := .slice (some ⟨rb, ro, none⟩) n Ck) rfl (by kernel_rfl) (by kernel_rfl) (by kernel_rfl) (fun _ _ _ h => h) (Or.inl ⟨by rfl, ?_⟩) hSw ?_
              · intro wz hsz
                obtain ⟨z1, z2⟩ := hsz
                go_simp
              try simp [Act.put]
              refine wpAnyH_take (i := 4) (v := .int .i64 (t : Int)) rfl (by kernel_rfl) (by kernel_rfl) (by kernel_rfl) (fun _ _ _ h => h) (Or.inl ⟨by rfl, ?_⟩) hSw ?_
              · intro wz hsz
                obtain ⟨z1, z2⟩ := hsz
                go_simp
              try simp [Act.put]
              refine wpAnyH_take (i := 5) (v := .pointer (some ⟨rb, ro + t, none⟩)) rfl (by kernel_rfl) (by kernel_rfl) (by kernel_rfl) (fun _ _ _ h => h) (Or.inl ⟨by rfl, ?_⟩) hSw ?_
              · intro wz hsz
                obtain ⟨z1, z2⟩ := hsz
                go_simp
                try (intro h9; omega)
              try simp [Act.put]
              refine wpAnyH_take (i := 6) (v := .int .i64 X) rfl (by kernel_rfl) (by kernel_rfl) (by kernel_rfl) (fun _ _ _ h => h) (Or.inl ⟨by rfl, ?_⟩) hSw ?_
              · intro wz hsz
                obtain ⟨z1, z2⟩ := hsz
                go_simp
              try simp [Act.put]
              refine wpAnyH_take (i := 7) (v := .slice (some ⟨pb, po, none⟩) n c) rfl (by kernel_rfl) (by kernel_rfl) (by kernel_rfl) (fun _ _ _ h => h) (Or.inl ⟨by rfl, ?_⟩) hSw ?_
              · intro wz hsz
                obtain ⟨z1, z2⟩ := hsz
                go_simp
              try simp [Act.put]
              refine wpAnyH_take (i := 8) (v := .int .i64 (i : Int)) rfl (by kernel_rfl) (by kernel_rfl) (by kernel_rfl) (fun _ _ _ h => h) (Or.inl ⟨by rfl, ?_⟩) hSw ?_
              · intro wz hsz
                obtain ⟨z1, z2⟩ := hsz
                go_simp
              try simp [Act.put]
              refine wpAnyH_take (i := 9) (v := .int .i64 ((i : Int) + 1)) rfl (by kernel_rfl) (by kernel_rfl) (by kernel_rfl) (fun _ _ _ h => h) (Or.inl ⟨by rfl, ?_⟩) hSw ?_
              · intro wz hsz
                obtain ⟨z1, z2⟩ := hsz
                go_simp
                try exact IntWalk.i64_in _ ⟨by omega, by omega⟩
              try simp [Act.put]
              refine wpAnyH_take (i := 10) (v := .int .i64 (M : Int)) rfl (by kernel_rfl) (by kernel_rfl) (by kernel_rfl) (fun _ _ _ h => h) (Or.inl ⟨by rfl, ?_⟩) hSw ?_
              · intro wz hsz
                obtain ⟨z1, z2⟩ := hsz
                go_simp
              try simp [Act.put]
              refine wpAnyH_take (i := 11) (v := .int .i64 (t : Int)) rfl (by kernel_rfl) (by kernel_rfl) (by kernel_rfl) (fun _ _ _ h => h) (Or.inl ⟨by rfl, ?_⟩) hSw ?_
              · intro wz hsz
                obtain ⟨z1, z2⟩ := hsz
                go_simp
              try simp [Act.put]
              refine wpAnyH_take (i := 12) (v := .int .u64 (t : Int)) rfl (by kernel_rfl) (by kernel_rfl) (by kernel_rfl) (fun _ _ _ h => h) (Or.inl ⟨by rfl, ?_⟩) hSw ?_
              · intro wz hsz
                obtain ⟨z1, z2⟩ := hsz
                go_simp
                try exact hu6
              try simp [Act.put]
              refine wpAnyH_take (i := 13) (v := .int .i64 ((2 : Int) ^ t)) rfl (by kernel_rfl) (by kernel_rfl) (by kernel_rfl) (fun _ _ _ h => h) (Or.inl ⟨by rfl, ?_⟩) hSw ?_
              · intro wz hsz
                obtain ⟨z1, z2⟩ := hsz
                go_simp
                try exact hwr
              try simp [Act.put]
              refine wpAnyH_take (i := 14) (v := .int .i64 (Y : Int)) rfl (by kernel_rfl) (by kernel_rfl) (by kernel_rfl) (fun _ _ _ h => h) (Or.inl ⟨by rfl, ?_⟩) hSw ?_
              · intro wz hsz
                obtain ⟨z1, z2⟩ := hsz
                go_simp
                try exact hor
              try simp [Act.put]
              refine wpAnyH_ready (rs := [15]) (by kernel_rfl) (by simp) ?_
              refine AllReadyH.cons rfl (fun K hK => ?_) AllReadyH.nil
              go_simp
              go_wp2_with (first | (go_at_call 37; refine (kL _ hw0).mono ?_; rintro e w5 ⟨rfl, hb5⟩; have hw1 := stepA hw0.drew hb5; clear hb5) | (fail))
              refine hK.out _ _ (HC.out _ hw1) (fun hSn => ?_)
              clear hK K hSw
              have hSw := hSn
              clear hSn
              try simp [Act.put]
              refine wpAnyH_take (i := 16) (v := .int .i64 (X + Z)) rfl (by kernel_rfl) (by kernel_rfl) (by kernel_rfl) (fun _ _ _ h => h) (Or.inl ⟨by rfl, ?_⟩) hSw ?_
              · intro wz hsz
                obtain ⟨z1, z2⟩ := hsz
                go_simp
                try exact IntWalk.i64_in _ ⟨by omega, by omega⟩
              try simp [Act.put]
              refine wpAnyH_take (i := 17) (v := .int .i64 (X + Z)) rfl (by kernel_rfl) (by kernel_rfl) (by kernel_rfl) (fun _ _ _ h => h) (Or.inl ⟨by rfl, ?_⟩) hSw ?_
              · intro wz hsz
                obtain ⟨z1, z2⟩ := hsz
                go_simp
              try simp [Act.put]
              refine wpAnyH_done (by kernel_rfl) ?_ _
              go_wp2
              exact ⟨⟨t + 1, by omega, by go_num, by rw [HS2.out]; rfl, stepA hB hw1⟩, by simp [intOf]; omega⟩
            · have HS2 : Hid (mnO O (t + 1) = some b) := HS.out.trans (if_neg gl)
              clear HS
              rw [HM.out]
              go_upto_region 9 with fail
              refine wp_region_held (S := (fun w' => w'.cell? ⟨pb, po + i, none⟩ = some (.slice (some ⟨rb, ro, none⟩) n Ck) ∧ w'.cell? ⟨rb, ro + t, none⟩ = some (.int .i64 X))) (by kernel_rfl) ?_
              change wpAnyH _ _ _ _ _ _ _ _ (World.drew _)
              have hSw := (HC.out _ hw0.drew : _ ∧ _)
              refine wpAnyH_take (i := 0) (v := .slice (some ⟨pb, po, none⟩) n c) rfl (by kernel_rfl) (by kernel_rfl) (by kernel_rfl) (fun _ _ _ h => h) (Or.inl ⟨by rfl, ?_⟩) hSw ?_
              · intro wz hsz
                obtain ⟨z1, z2⟩ := hsz
                go_simp
              try simp [Act.put]
              refine wpAnyH_take (i := 1) (v := .int .i64 (i : Int)) rfl (by kernel_rfl) (by kernel_rfl) (by kernel_rfl) (fun _ _ _ h => h) (Or.inl ⟨by rfl, ?_⟩) hSw ?_
              · intro wz hsz
                obtain ⟨z1, z2⟩ := hsz
                go_simp
              try simp [Act.put]
              refine wpAnyH_take (i := 2) (v := .pointer (some ⟨pb, po + i, none⟩)) rfl (by kernel_rfl) (by kernel_rfl) (by kernel_rfl) (fun _ _ _ h => h) (Or.inl ⟨by rfl, ?_⟩) hSw ?_
              · intro wz hsz
                obtain ⟨z1, z2⟩ := hsz
                go_simp
                try (intro h9; omega)
              try simp [Act.put]
              refine wpAnyH_take (i := 3) (v := .slice (some ⟨rb, ro, none⟩) n Ck) rfl (by kernel_rfl) (by kernel_rfl) (by kernel_rfl) (fun _ _ _ h => h) (Or.inl ⟨by rfl, ?_⟩) hSw ?_
              · intro wz hsz
                obtain ⟨z1, z2⟩ := hsz
                go_simp
              try simp [Act.put]
              refine wpAnyH_take (i := 4) (v := .int .i64 (t : Int)) rfl (by kernel_rfl) (by kernel_rfl) (by kernel_rfl) (fun _ _ _ h => h) (Or.inl ⟨by rfl, ?_⟩) hSw ?_
              · intro wz hsz
                obtain ⟨z1, z2⟩ := hsz
                go_simp
              try simp [Act.put]
              refine wpAnyH_take (i := 5) (v := .pointer (some ⟨rb, ro + t, none⟩)) rfl (by kernel_rfl) (by kernel_rfl) (by kernel_rfl) (fun _ _ _ h => h) (Or.inl ⟨by rfl, ?_⟩) hSw ?_
              · intro wz hsz
                obtain ⟨z1, z2⟩ := hsz
                go_simp
                try (intro h9; omega)
              try simp [Act.put]
              refine wpAnyH_take (i := 6) (v := .int .i64 X) rfl (by kernel_rfl) (by kernel_rfl) (by kernel_rfl) (fun _ _ _ h => h) (Or.inl ⟨by rfl, ?_⟩) hSw ?_
              · intro wz hsz
                obtain ⟨z1, z2⟩ := hsz
                go_simp
              try simp [Act.put]
              refine wpAnyH_take (i := 7) (v := .slice (some ⟨pb, po, none⟩) n c) rfl (by kernel_rfl) (by kernel_rfl) (by kernel_rfl) (fun _ _ _ h => h) (Or.inl ⟨by rfl, ?_⟩) hSw ?_
              · intro wz hsz
                obtain ⟨z1, z2⟩ := hsz
                go_simp
              try simp [Act.put]
              refine wpAnyH_take (i := 8) (v := .int .i64 (i : Int)) rfl (by kernel_rfl) (by kernel_rfl) (by kernel_rfl) (fun _ _ _ h => h) (Or.inl ⟨by rfl, ?_⟩) hSw ?_
              · intro wz hsz
                obtain ⟨z1, z2⟩ := hsz
                go_simp
              try simp [Act.put]
              refine wpAnyH_take (i := 9) (v := .int .i64 ((i : Int) + 1)) rfl (by kernel_rfl) (by kernel_rfl) (by kernel_rfl) (fun _ _ _ h => h) (Or.inl ⟨by rfl, ?_⟩) hSw ?_
              · intro wz hsz
                obtain ⟨z1, z2⟩ := hsz
                go_simp
                try exact IntWalk.i64_in _ ⟨by omega, by omega⟩
              try simp [Act.put]
              refine wpAnyH_take (i := 10) (v := .int .i64 (M : Int)) rfl (by kernel_rfl) (by kernel_rfl) (by kernel_rfl) (fun _ _ _ h => h) (Or.inl ⟨by rfl, ?_⟩) hSw ?_
              · intro wz hsz
                obtain ⟨z1, z2⟩ := hsz
                go_simp
              try simp [Act.put]
              refine wpAnyH_take (i := 11) (v := .int .i64 (t : Int)) rfl (by kernel_rfl) (by kernel_rfl) (by kernel_rfl) (fun _ _ _ h => h) (Or.inl ⟨by rfl, ?_⟩) hSw ?_
              · intro wz hsz
                obtain ⟨z1, z2⟩ := hsz
                go_simp
              try simp [Act.put]
              refine wpAnyH_take (i := 12) (v := .int .u64 (t : Int)) rfl (by kernel_rfl) (by kernel_rfl) (by kernel_rfl) (fun _ _ _ h => h) (Or.inl ⟨by rfl, ?_⟩) hSw ?_
              · intro wz hsz
                obtain ⟨z1, z2⟩ := hsz
                go_simp
                try exact hu6
              try simp [Act.put]
              refine wpAnyH_take (i := 13) (v := .int .i64 ((2 : Int) ^ t)) rfl (by kernel_rfl) (by kernel_rfl) (by kernel_rfl) (fun _ _ _ h => h) (Or.inl ⟨by rfl, ?_⟩) hSw ?_
              · intro wz hsz
                obtain ⟨z1, z2⟩ := hsz
                go_simp
                try exact hwr
              try simp [Act.put]
              refine wpAnyH_take (i := 14) (v := .int .i64 (Y : Int)) rfl (by kernel_rfl) (by kernel_rfl) (by kernel_rfl) (fun _ _ _ h => h) (Or.inl ⟨by rfl, ?_⟩) hSw ?_
              · intro wz hsz
                obtain ⟨z1, z2⟩ := hsz
                go_simp
                try exact hor
              try simp [Act.put]
              refine wpAnyH_ready (rs := [15]) (by kernel_rfl) (by simp) ?_
              refine AllReadyH.cons rfl (fun K hK => ?_) AllReadyH.nil
              go_simp
              go_wp2_with (first | (go_at_call 37; refine (kL _ hw0).mono ?_; rintro e w5 ⟨rfl, hb5⟩; have hw1 := stepA hw0.drew hb5; clear hb5) | (fail))
              refine hK.out _ _ (HC.out _ hw1) (fun hSn => ?_)
              clear hK K hSw
              have hSw := hSn
              clear hSn
              try simp [Act.put]
              refine wpAnyH_take (i := 16) (v := .int .i64 (X + Z)) rfl (by kernel_rfl) (by kernel_rfl) (by kernel_rfl) (fun _ _ _ h => h) (Or.inl ⟨by rfl, ?_⟩) hSw ?_
              · intro wz hsz
                obtain ⟨z1, z2⟩ := hsz
                go_simp
                try exact IntWalk.i64_in _ ⟨by omega, by omega⟩
              try simp [Act.put]
              refine wpAnyH_take (i := 17) (v := .int .i64 (X + Z)) rfl (by kernel_rfl) (by kernel_rfl) (by kernel_rfl) (fun _ _ _ h => h) (Or.inl ⟨by rfl, ?_⟩) hSw ?_
              · intro wz hsz
                obtain ⟨z1, z2⟩ := hsz
                go_simp
              try simp [Act.put]
              refine wpAnyH_done (by kernel_rfl) ?_ _
              go_wp2
              exact ⟨⟨t + 1, by omega, by go_num, by rw [HS2.out]; rfl, stepA hB hw1⟩, by simp [intOf]; omega⟩
      · have htn : t = n := by omega
        subst htn
        have i1 : ¬ (t : Int) < (t : Int) := by omega
        clear ih rc0 HZ HOf HOt HG
        go_wp2
        go_ret
        exact ⟨ret_int HL.out.symm, hB⟩
end Go.Proofs.Ytjmdghkhapajiaa
