/- BestAssign, as the model takes it: the whole. -/
import Derived.Test.YtjmdghkhapajiaaAsBeS
import Derived.Deep.RegionHeld
import Derived.BigQuiet
import Derived.Deep.Cut
namespace Go.Proofs.Ytjmdghkhapajiaa
open Go.RowKit
theorem below_dr1 {wq wr : World} (_h : wq.heap.size ≤ wr.heap.size) : Below wq.heap.size wr wr.drew := ((Below.refl _ _).drew)
theorem tk_bw (F : Nat → Nat → Int) (n : Nat) : ∀ k, tkM (fun i => (bwT F n i : Int)) k = bwM F n k
  | 0 => rfl
  | k + 1 => by
    show tkM (fun i => (bwT F n i : Int)) k ||| 2 ^ ((bwT F n k : Int)).toNat = bwM F n k ||| 2 ^ bwT F n k
    rw [tk_bw F n k]; rfl
theorem bw_who {n : Nat} {K : Nat → Nat} {F : Nat → Nat → Int} (gp : GP n K F) : ∀ k, k ≤ n → whK n (fun i => (bwT F n i : Int)) k = true
  | 0, _ => rfl
  | k + 1, hk => by
    obtain ⟨h1, h2, _⟩ := bw_step gp (i := k) (by omega)
    have h3 := tkM_had (g := fun i => (bwT F n i : Int)) (k := k) (fun j _ => by show (0 : Int) ≤ (bwT F n j : Int); omega) (bwT F n k)
    rw [tk_bw, h2] at h3
    unfold whK
    rw [bw_who gp k (by omega)]
    unfold whS
    rw [decide_eq_true (by show 0 ≤ (bwT F n k : Int) ∧ (bwT F n k : Int) < (n : Int); omega), ← h3]
    rfl
theorem bw_good {n : Nat} {K : Nat → Nat} {F : Nat → Nat → Int} (hg : gpB n K F = true) : gaB n n K F (fun i => (bwT F n i : Int)) = true := by
  unfold gaB whB
  rw [hg, decide_eq_true rfl, bw_who (gpB_t hg) n (Nat.le_refl _)]; rfl
set_option maxHeartbeats 8000000 in
set_option maxRecDepth 20000 in
theorem sBest_no (a : Option Addr) (n c : Nat) (K : Nat → Nat) (F : Nat → Nat → Int) (w : World) (hn : n ≤ 1048576) (hK : ∀ i, i < n → K i ≤ 1048576) (h : RR w a n K F) (hg : gpB n K F = false) :
    Calls Try.prog 11 #[.slice a n c] w fun e w' => AnsT3 w w' e 0 (fun _ => 0) 0 false ∧ Below w.heap.size w w' := by
  have kB := sGoodP a n c K F w hn hK h
  rw [hg] at kB
  go_enter Try.func11, Try.ntmps11
  go_wp2_with (first | (go_at_call 20; refine kB.mono ?_; rintro e w1 ⟨rfl, hb⟩; clear kB) | fail)
  go_ret3
  exact ⟨ansT3_nil _ _ _ _ _, hb⟩
set_option maxHeartbeats 8000000 in
set_option maxRecDepth 20000 in
theorem sBest_in (a : Option Addr) (n c : Nat) (K : Nat → Nat) (F : Nat → Nat → Int) (w : World) (hn : n ≤ 1048576) (hK : ∀ i, i < n → K i ≤ 1048576) (h : RR w a n K F) (hg : gpB n K F = true) :
    Calls Try.prog 11 #[.slice a n c] w fun e w' => AnsT3 w w' e n (fun i => (bwT F n i : Int)) (lsL F n n 0) true ∧ Below w.heap.size w w' := by
  obtain ⟨i0', hi, hzz⟩ := Option.map_eq_some_iff.1 infoI
  simp only [Prod.mk.injEq] at hzz
  obtain ⟨hz0, hz1, hz2⟩ := hzz
  have kB := sGoodP a n c K F w hn hK h
  have kS := fun x cc w (h1 : RR w a n K F) (h2 : IL w x n (fun i => (bwT F n i : Int))) => sCost a n c K F x n cc (fun i => (bwT F n i : Int)) w h1 h2 (bw_good hg)
  rw [hg] at kB
  have gp := gpB_t hg
  rw [bw_sum gp] at kS
  have hn6 := gp.hi
  have hn1 := gp.lo
  have HRR : Hid (RR w a n K F) := h
  obtain ⟨A, C, hA⟩ := h
  have HA : Hid (LL w a n A K C F) := hA
  clear hg hK hn hA
  go_enter Try.func11, Try.ntmps11
  go_wp2_with fail
  refine kB.mono ?_
  rintro e w1 ⟨rfl, hb1⟩
  clear kB
  have HB0 : Hid (Below w.heap.size w w1) := hb1
  have HO0 : Hid (Own w1 w.heap.size (.slice none 0 0) 0 (fun i => (bwT F n i : Int))) := ⟨rfl, .inl ⟨rfl, rfl⟩⟩
  clear hb1
  go_wp2_with fail
  go_loopw [5, 6, 15] (fun v x i wr => ∃ k : Nat, k ≤ n ∧ i = .int .i64 (k : Int) ∧ x = .int .i64 ((bwM F n k : Nat) : Int) ∧ Own wr w.heap.size v k (fun i => (bwT F n i : Int)) ∧ Below w.heap.size w wr) (fun _ _ i _ => n - (intOf i).toNat)
  case atStart => exact ⟨0, Nat.zero_le _, rfl, rfl, HO0.out, HB0.out⟩
  case round =>
    obtain ⟨k, hk, rfl, rfl, hown, hB⟩ := hrel
    clear HO0 HB0
    have i0 : (0 : Int) ≤ (k : Int) := by omega
    by_cases hlt : k < n
    · have i1 : (k : Int) < (n : Int) := by omega
      obtain ⟨m1, m2⟩ := bw_all gp k hk
      have m3 := lt64 hn6 m1
      obtain ⟨s1, s2, s3⟩ := bw_step gp hlt
      have hA1 := HA.out.below hB
      obtain ⟨pb, po, ea, pl_, pc0⟩ := ll_at1 hA1 hlt
      obtain ⟨rb, ro, hAi, rl_, rc0⟩ := hA1.row k hlt (by have := gp.len k hlt; omega)
      have hKk := gp.len k hlt
      rw [hAi, hKk] at pc0
      rw [hKk] at rc0
      generalize C k = Ck at pc0
      subst ea
      have kL0 := sLeast (some ⟨pb, po, none⟩) n c A K C F gp (n - k) k (bwM F n k) (k : Int) wr (by omega) rfl m1 m2 hA1
      have HLL : Hid (∀ t w2, t < n → (bwM F n k).testBit t = false → Below wr.heap.size wr w2 → Calls Try.prog 37 #[.slice (some ⟨pb, po, none⟩) n c, .int .i64 ((k : Int) + 1), .int .i64 ((bwM F n k ||| 2 ^ t : Nat) : Int)] w2 fun e w' => e = .returned (.int .i64 (lsL F n (n - (k + 1)) (bwM F n k ||| 2 ^ t))) ∧ Below w2.heap.size w2 w') := fun t w2 ht hb hb2 => sLeast (some ⟨pb, po, none⟩) n c A K C F gp (n - (k + 1)) (k + 1) _ ((k : Int) + 1) w2 (by omega) (by omega) (or_lt m1 ht) (by have := (pc_up _ t m3 (by omega) hb).1; omega) (hA1.below hb2)
      have HZb : Hid (∀ t, t < n → (bwM F n k).testBit t = false → 0 ≤ lsL F n (n - (k + 1)) (bwM F n k ||| 2 ^ t) ∧ lsL F n (n - (k + 1)) (bwM F n k ||| 2 ^ t) ≤ 1000000) := fun t ht hb => by
        have h1 := (pc_up _ t m3 (by omega) hb).1
        have h3 := ls_bd gp (n - (k + 1)) _ (or_lt (t := t) m1 ht) (by omega)
        exact ⟨h3.1, by omega⟩
      have HF1 : Hid (∀ t, t < bwT F n k → (bwM F n k).testBit t = false → F k t + lsL F n (n - (k + 1)) (bwM F n k ||| 2 ^ t) ≠ lsL F n (n - k) (bwM F n k)) := fun t ht hb => bw_first gp hlt ht hb
      have HF2 : Hid (F k (bwT F n k) + lsL F n (n - (k + 1)) (bwM F n k ||| 2 ^ bwT F n k) = lsL F n (n - k) (bwM F n k)) := s3
      have HMs : Hid (bwM F n (k + 1) = bwM F n k ||| 2 ^ bwT F n k) := rfl
      have HBt : Hid ((fun i => (bwT F n i : Int)) k = (bwT F n k : Int)) := rfl
      have HFb : Hid (∀ t, t < n → 0 ≤ F k t ∧ F k t ≤ 100000) := fun t ht => gp.bd k t hlt ht
      generalize lsL F n (n - k) (bwM F n k) = Lf at kL0 HF1 HF2
      generalize lsL F n (n - (k + 1)) = Lk at HLL HZb HF1 HF2
      generalize hMk : bwM F n k = Mk at *
      clear hMk s3 m1 m2
      obtain ⟨B, hBe⟩ : ∃ B, B = bwT F n k := ⟨_, rfl⟩
      rw [← hBe] at HF1 HF2 HMs HBt s1 s2
      clear hBe hA1 hAi hKk
      have j4 : (0 : Int) ≤ (n : Int) := by omega
      go_wp2_with fail
      refine kL0.mono ?_
      rintro e w9 ⟨rfl, hb9⟩
      clear kL0
      go_wp2_with fail
      obtain ⟨wq, hwq⟩ : ∃ x, x = wr := ⟨wr, rfl⟩
      subst hwq
      obtain ⟨V, hV⟩ : ∃ V, V = u5 := ⟨_, rfl⟩
      subst hV
      go_loopw [5, 6, 24] (fun v y x wr => ∃ t : Nat, t ≤ B ∧ x = .int .i64 (t : Int) ∧ v = V ∧ y = .int .i64 (Mk : Int) ∧ Below wq.heap.size wq wr) (fun _ _ x _ => B + 1 - (intOf x).toNat)
      case atStart => exact ⟨0, Nat.zero_le _, rfl, rfl, rfl, hb9⟩
      case round =>
        obtain ⟨t, ht, rfl, hvV, rfl, hbr⟩ := hrel
        subst hvV
        clear hb9
        have htn : t < n := by omega
        have j0 : (0 : Int) ≤ (t : Int) := by omega
        have j1 : (t : Int) < (n : Int) := by omega
        have j2 : (t : Int) < 6 := by omega
        have y1 := (hbr.cell (p := ⟨pb, po + k, none⟩) pl_).trans pc0
        have y2 := (hbr.cell (p := ⟨rb, ro + t, none⟩) rl_).trans (rc0 t htn)
        have hbt0 := bt_and0 Mk t m3
        have hu6 := u64_in t (by omega)
        have hor := or_bit Mk t m3 (by omega)
        have hwr := bit_in t (by omega)
        have hv := HFb.out t htn
        have hbs := hbr.size
        have HC : Hid (∀ w2, Below wr.heap.size wr w2 → w2.cell? ⟨pb, po + k, none⟩ = some (.slice (some ⟨rb, ro, none⟩) n Ck) ∧ w2.cell? ⟨rb, ro + t, none⟩ = some (.int .i64 (F k t))) := fun w2 hb => ⟨(hb.cell (p := ⟨pb, _, none⟩) (show pb < wr.heap.size by omega)).trans y1, (hb.cell (p := ⟨rb, _, none⟩) (show rb < wr.heap.size by omega)).trans y2⟩
        have hw0 := Below.refl wr.heap.size wr
        clear y1 y2
        cases e : Mk.testBit t with
        | true =>
          rw [e] at hbt0
          have htB : t ≠ B := fun c => by rw [c, s2] at e; cases e
          clear HLL HZb HF1 HF2 e
          generalize F k t = X at *
          go_upto_region 12 with fail
          refine wp_region_held (S := (fun w' => w'.cell? ⟨pb, po + k, none⟩ = some (.slice (some ⟨rb, ro, none⟩) n Ck) ∧ w'.cell? ⟨rb, ro + t, none⟩ = some (.int .i64 X))) (by kernel_rfl) ?_
          change wpAnyH _ _ _ _ _ _ _ _ (World.drew _)
          have hSw := (HC.out _ hw0.drew : _ ∧ _)
          refine wpAnyH_take (i := 0) (v := .int .i64 (Mk : Int)) rfl (by kernel_rfl) (by kernel_rfl) (by kernel_rfl) (fun _ _ _ h => h) (Or.inl ⟨by rfl, ?_⟩) hSw ?_
          · intro wz hsz
            obtain ⟨z1, z2⟩ := hsz
            go_simp
          try simp [Act.put]
          refine wpAnyH_take (i := 1) (v := .int .i64 (t : Int)) rfl (by kernel_rfl) (by kernel_rfl) (by kernel_rfl) (fun _ _ _ h => h) (Or.inl ⟨by rfl, ?_⟩) hSw ?_
          · intro wz hsz
            obtain ⟨z1, z2⟩ := hsz
            go_simp
          try simp [Act.put]
          refine wpAnyH_take (i := 2) (v := .int .u64 (t : Int)) rfl (by kernel_rfl) (by kernel_rfl) (by kernel_rfl) (fun _ _ _ h => h) (Or.inl ⟨by rfl, ?_⟩) hSw ?_
          · intro wz hsz
            obtain ⟨z1, z2⟩ := hsz
            go_simp
            try exact hu6
          try simp [Act.put]
          refine wpAnyH_take (i := 3) (v := .int .i64 ((Mk : Int) / 2 ^ t)) rfl (by kernel_rfl) (by kernel_rfl) (by kernel_rfl) (fun _ _ _ h => h) (Or.inl ⟨by rfl, ?_⟩) hSw ?_
          · intro wz hsz
            obtain ⟨z1, z2⟩ := hsz
            go_simp
          try simp [Act.put]
          refine wpAnyH_take (i := 4) (v := .int .i64 (bits .and .i64 ((Mk : Int) / 2 ^ t) 1)) rfl (by kernel_rfl) (by kernel_rfl) (by kernel_rfl) (fun _ _ _ h => h) (Or.inl ⟨by rfl, ?_⟩) hSw ?_
          · intro wz hsz
            obtain ⟨z1, z2⟩ := hsz
            go_simp
          try simp [Act.put]
          refine wpAnyH_take (i := 5) (v := .bool false) rfl (by kernel_rfl) (by kernel_rfl) (by kernel_rfl) (fun _ _ _ h => h) (Or.inl ⟨by rfl, ?_⟩) hSw ?_
          · intro wz hsz
            obtain ⟨z1, z2⟩ := hsz
            go_simp
            try simpa using hbt0
          try simp [Act.put]
          refine wpAnyH_take (i := 6) (v := .bool false) rfl (by kernel_rfl) (by kernel_rfl) (by kernel_rfl) (fun _ _ _ h => h) (Or.inl ⟨by rfl, ?_⟩) hSw ?_
          · intro wz hsz
            obtain ⟨z1, z2⟩ := hsz
            go_simp
          try simp [Act.put]
          refine wpAnyH_take (i := 7) (v := undef) rfl (by kernel_rfl) (by kernel_rfl) (by kernel_rfl) (fun _ _ _ h => h) (Or.inr ⟨by kernel_rfl, rfl⟩) hSw ?_
          try simp [Act.put]
          refine wpAnyH_take (i := 8) (v := undef) rfl (by kernel_rfl) (by kernel_rfl) (by kernel_rfl) (fun _ _ _ h => h) (Or.inr ⟨by kernel_rfl, rfl⟩) hSw ?_
          try simp [Act.put]
          refine wpAnyH_take (i := 9) (v := undef) rfl (by kernel_rfl) (by kernel_rfl) (by kernel_rfl) (fun _ _ _ h => h) (Or.inr ⟨by kernel_rfl, rfl⟩) hSw ?_
          try simp [Act.put]
          refine wpAnyH_take (i := 10) (v := undef) rfl (by kernel_rfl) (by kernel_rfl) (by kernel_rfl) (fun _ _ _ h => h) (Or.inr ⟨by kernel_rfl, rfl⟩) hSw ?_
          try simp [Act.put]
          refine wpAnyH_take (i := 11) (v := undef) rfl (by kernel_rfl) (by kernel_rfl) (by kernel_rfl) (fun _ _ _ h => h) (Or.inr ⟨by kernel_rfl, rfl⟩) hSw ?_
          try simp [Act.put]
          refine wpAnyH_take (i := 12) (v := undef) rfl (by kernel_rfl) (by kernel_rfl) (by kernel_rfl) (fun _ _ _ h => h) (Or.inr ⟨by kernel_rfl, rfl⟩) hSw ?_
          try simp [Act.put]
          refine wpAnyH_take (i := 13) (v := undef) rfl (by kernel_rfl) (by kernel_rfl) (by kernel_rfl) (fun _ _ _ h => h) (Or.inr ⟨by kernel_rfl, rfl⟩) hSw ?_
          try simp [Act.put]
          refine wpAnyH_take (i := 14) (v := undef) rfl (by kernel_rfl) (by kernel_rfl) (by kernel_rfl) (fun _ _ _ h => h) (Or.inr ⟨by kernel_rfl, rfl⟩) hSw ?_
          try simp [Act.put]
          refine wpAnyH_take (i := 15) (v := undef) rfl (by kernel_rfl) (by kernel_rfl) (by kernel_rfl) (fun _ _ _ h => h) (Or.inr ⟨by kernel_rfl, rfl⟩) hSw ?_
          try simp [Act.put]
          refine wpAnyH_take (i := 16) (v := undef) rfl (by kernel_rfl) (by kernel_rfl) (by kernel_rfl) (fun _ _ _ h => h) (Or.inr ⟨by kernel_rfl, rfl⟩) hSw ?_
          try simp [Act.put]
          refine wpAnyH_take (i := 17) (v := undef) rfl (by kernel_rfl) (by kernel_rfl) (by kernel_rfl) (fun _ _ _ h => h) (Or.inr ⟨by kernel_rfl, rfl⟩) hSw ?_
          try simp [Act.put]
          refine wpAnyH_take (i := 18) (v := undef) rfl (by kernel_rfl) (by kernel_rfl) (by kernel_rfl) (fun _ _ _ h => h) (Or.inr ⟨by kernel_rfl, rfl⟩) hSw ?_
          try simp [Act.put]
          refine wpAnyH_take (i := 19) (v := undef) rfl (by kernel_rfl) (by kernel_rfl) (by kernel_rfl) (fun _ _ _ h => h) (Or.inr ⟨by kernel_rfl, rfl⟩) hSw ?_
          try simp [Act.put]
          refine wpAnyH_take (i := 20) (v := undef) rfl (by kernel_rfl) (by kernel_rfl) (by kernel_rfl) (fun _ _ _ h => h) (Or.inr ⟨by kernel_rfl, rfl⟩) hSw ?_
          try simp [Act.put]
          refine wpAnyH_take (i := 21) (v := undef) rfl (by kernel_rfl) (by kernel_rfl) (by kernel_rfl) (fun _ _ _ h => h) (Or.inr ⟨by kernel_rfl, rfl⟩) hSw ?_
          try simp [Act.put]
          refine wpAnyH_take (i := 22) (v := undef) rfl (by kernel_rfl) (by kernel_rfl) (by kernel_rfl) (fun _ _ _ h => h) (Or.inr ⟨by kernel_rfl, rfl⟩) hSw ?_
          try simp [Act.put]
          refine wpAnyH_take (i := 23) (v := undef) rfl (by kernel_rfl) (by kernel_rfl) (by kernel_rfl) (fun _ _ _ h => h) (Or.inr ⟨by kernel_rfl, rfl⟩) hSw ?_
          try simp [Act.put]
          refine wpAnyH_take (i := 24) (v := undef) rfl (by kernel_rfl) (by kernel_rfl) (by kernel_rfl) (fun _ _ _ h => h) (Or.inr ⟨by kernel_rfl, rfl⟩) hSw ?_
          try simp [Act.put]
          refine wpAnyH_take (i := 25) (v := undef) rfl (by kernel_rfl) (by kernel_rfl) (by kernel_rfl) (fun _ _ _ h => h) (Or.inr ⟨by kernel_rfl, rfl⟩) hSw ?_
          try simp [Act.put]
          refine wpAnyH_take (i := 26) (v := .bool false) rfl (by kernel_rfl) (by kernel_rfl) (by kernel_rfl) (fun _ _ _ h => h) (Or.inl ⟨by rfl, ?_⟩) hSw ?_
          · intro wz hsz
            obtain ⟨z1, z2⟩ := hsz
            go_simp
          try simp [Act.put]
          refine wpAnyH_done (by kernel_rfl) ?_ _
          go_wp2
          exact ⟨⟨t + 1, by omega, by go_num, rfl, rfl, hbr.trans (below_dr1 hbr.size)⟩, by simp [intOf]; omega⟩
        | false =>
          rw [e] at hbt0
          have kL := fun w2 (hb : Below wr.heap.size wr w2) => HLL.out t w2.drew htn e (stepA hbr hb).drew
          obtain ⟨n3, n4⟩ := HZb.out t htn e
          by_cases htB : t = B
          · have hEq : (F k t + Lk (Mk ||| 2 ^ t) == Lf) = true := by rw [htB]; simpa using HF2.out
            have HMt : Hid (bwM F n (k + 1) = Mk ||| 2 ^ t) := by rw [htB]; exact HMs.out
            have HBt2 : Hid ((fun i => (bwT F n i : Int)) k = (t : Int)) := by rw [htB]; exact HBt.out
            clear HLL HZb HF1 HF2 e HMs HBt htB ht
            generalize Mk ||| 2 ^ t = Y at *
            generalize F k t = X at *
            generalize Lk Y = Z at *
            go_upto_region 12 with fail
            refine wp_region_held (S := (fun w' => w'.cell? ⟨pb, po + k, none⟩ = some (.slice (some ⟨rb, ro, none⟩) n Ck) ∧ w'.cell? ⟨rb, ro + t, none⟩ = some (.int .i64 X))) (by kernel_rfl) ?_
            change wpAnyH _ _ _ _ _ _ _ _ (World.drew _)
            have hSw := (HC.out _ hw0.drew : _ ∧ _)
            refine wpAnyH_take (i := 0) (v := .int .i64 (Mk : Int)) rfl (by kernel_rfl) (by kernel_rfl) (by kernel_rfl) (fun _ _ _ h => h) (Or.inl ⟨by rfl, ?_⟩) hSw ?_
            · intro wz hsz
              obtain ⟨z1, z2⟩ := hsz
              go_simp
            try simp [Act.put]
            refine wpAnyH_take (i := 1) (v := .int .i64 (t : Int)) rfl (by kernel_rfl) (by kernel_rfl) (by kernel_rfl) (fun _ _ _ h => h) (Or.inl ⟨by rfl, ?_⟩) hSw ?_
            · intro wz hsz
              obtain ⟨z1, z2⟩ := hsz
              go_simp
            try simp [Act.put]
            refine wpAnyH_take (i := 2) (v := .int .u64 (t : Int)) rfl (by kernel_rfl) (by kernel_rfl) (by kernel_rfl) (fun _ _ _ h => h) (Or.inl ⟨by rfl, ?_⟩) hSw ?_
            · intro wz hsz
              obtain ⟨z1, z2⟩ := hsz
              go_simp
              try exact hu6
            try simp [Act.put]
            refine wpAnyH_take (i := 3) (v := .int .i64 ((Mk : Int) / 2 ^ t)) rfl (by kernel_rfl) (by kernel_rfl) (by kernel_rfl) (fun _ _ _ h => h) (Or.inl ⟨by rfl, ?_⟩) hSw ?_
            · intro wz hsz
              obtain ⟨z1, z2⟩ := hsz
              go_simp
            try simp [Act.put]
            refine wpAnyH_take (i := 4) (v := .int .i64 (bits .and .i64 ((Mk : Int) / 2 ^ t) 1)) rfl (by kernel_rfl) (by kernel_rfl) (by kernel_rfl) (fun _ _ _ h => h) (Or.inl ⟨by rfl, ?_⟩) hSw ?_
            · intro wz hsz
              obtain ⟨z1, z2⟩ := hsz
              go_simp
            try simp [Act.put]
            refine wpAnyH_take (i := 5) (v := .bool true) rfl (by kernel_rfl) (by kernel_rfl) (by kernel_rfl) (fun _ _ _ h => h) (Or.inl ⟨by rfl, ?_⟩) hSw ?_
            · intro wz hsz
              obtain ⟨z1, z2⟩ := hsz
              go_simp
              try simpa using hbt0
            try simp [Act.put]
            refine wpAnyH_take (i := 6) (v := .bool true) rfl (by kernel_rfl) (by kernel_rfl) (by kernel_rfl) (fun _ _ _ h => h) (Or.inl ⟨by rfl, ?_⟩) hSw ?_
            · intro wz hsz
              obtain ⟨z1, z2⟩ := hsz
              go_simp
            try simp [Act.put]
            refine wpAnyH_take (i := 7) (v := .slice (some ⟨pb, po, none⟩) n c) rfl (by kernel_rfl) (by kernel_rfl) (by kernel_rfl) (fun _ _ _ h => h) (Or.inl ⟨by rfl, ?_⟩) hSw ?_
            · intro wz hsz
              obtain ⟨z1, z2⟩ := hsz
              go_simp
            try simp [Act.put]
            refine wpAnyH_take (i := 8) (v := .int .i64 (k : Int)) rfl (by kernel_rfl) (by kernel_rfl) (by kernel_rfl) (fun _ _ _ h => h) (Or.inl ⟨by rfl, ?_⟩) hSw ?_
            · intro wz hsz
              obtain ⟨z1, z2⟩ := hsz
              go_simp
            try simp [Act.put]
            refine wpAnyH_take (i := 9) (v := .pointer (some ⟨pb, po + k, none⟩)) rfl (by kernel_rfl) (by kernel_rfl) (by kernel_rfl) (fun _ _ _ h => h) (Or.inl ⟨by rfl, ?_⟩) hSw ?_
            · intro wz hsz
              obtain ⟨z1, z2⟩ := hsz
              go_simp
              try (intro h9; omega)
            try simp [Act.put]
            refine wpAnyH_take (i := 10) (v := .slice (some ⟨rb, ro, none⟩) n Ck) rfl (by kernel_rfl) (by kernel_rfl) (by kernel_rfl) (fun _ _ _ h => h) (Or.inl ⟨by rfl, ?_⟩) hSw ?_
            · intro wz hsz
              obtain ⟨z1, z2⟩ := hsz
              go_simp
            try simp [Act.put]
            refine wpAnyH_take (i := 11) (v := .int .i64 (t : Int)) rfl (by kernel_rfl) (by kernel_rfl) (by kernel_rfl) (fun _ _ _ h => h) (Or.inl ⟨by rfl, ?_⟩) hSw ?_
            · intro wz hsz
              obtain ⟨z1, z2⟩ := hsz
              go_simp
            try simp [Act.put]
            refine wpAnyH_take (i := 12) (v := .pointer (some ⟨rb, ro + t, none⟩)) rfl (by kernel_rfl) (by kernel_rfl) (by kernel_rfl) (fun _ _ _ h => h) (Or.inl ⟨by rfl, ?_⟩) hSw ?_
            · intro wz hsz
              obtain ⟨z1, z2⟩ := hsz
              go_simp
              try (intro h9; omega)
            try simp [Act.put]
            refine wpAnyH_take (i := 13) (v := .int .i64 X) rfl (by kernel_rfl) (by kernel_rfl) (by kernel_rfl) (fun _ _ _ h => h) (Or.inl ⟨by rfl, ?_⟩) hSw ?_
            · intro wz hsz
              obtain ⟨z1, z2⟩ := hsz
              go_simp
            try simp [Act.put]
            refine wpAnyH_take (i := 14) (v := .slice (some ⟨pb, po, none⟩) n c) rfl (by kernel_rfl) (by kernel_rfl) (by kernel_rfl) (fun _ _ _ h => h) (Or.inl ⟨by rfl, ?_⟩) hSw ?_
            · intro wz hsz
              obtain ⟨z1, z2⟩ := hsz
              go_simp
            try simp [Act.put]
            refine wpAnyH_take (i := 15) (v := .int .i64 (k : Int)) rfl (by kernel_rfl) (by kernel_rfl) (by kernel_rfl) (fun _ _ _ h => h) (Or.inl ⟨by rfl, ?_⟩) hSw ?_
            · intro wz hsz
              obtain ⟨z1, z2⟩ := hsz
              go_simp
            try simp [Act.put]
            refine wpAnyH_take (i := 16) (v := .int .i64 ((k : Int) + 1)) rfl (by kernel_rfl) (by kernel_rfl) (by kernel_rfl) (fun _ _ _ h => h) (Or.inl ⟨by rfl, ?_⟩) hSw ?_
            · intro wz hsz
              obtain ⟨z1, z2⟩ := hsz
              go_simp
              try exact IntWalk.i64_in _ ⟨by omega, by omega⟩
            try simp [Act.put]
            refine wpAnyH_take (i := 17) (v := .int .i64 (Mk : Int)) rfl (by kernel_rfl) (by kernel_rfl) (by kernel_rfl) (fun _ _ _ h => h) (Or.inl ⟨by rfl, ?_⟩) hSw ?_
            · intro wz hsz
              obtain ⟨z1, z2⟩ := hsz
              go_simp
            try simp [Act.put]
            refine wpAnyH_take (i := 18) (v := .int .i64 (t : Int)) rfl (by kernel_rfl) (by kernel_rfl) (by kernel_rfl) (fun _ _ _ h => h) (Or.inl ⟨by rfl, ?_⟩) hSw ?_
            · intro wz hsz
              obtain ⟨z1, z2⟩ := hsz
              go_simp
            try simp [Act.put]
            refine wpAnyH_take (i := 19) (v := .int .u64 (t : Int)) rfl (by kernel_rfl) (by kernel_rfl) (by kernel_rfl) (fun _ _ _ h => h) (Or.inl ⟨by rfl, ?_⟩) hSw ?_
            · intro wz hsz
              obtain ⟨z1, z2⟩ := hsz
              go_simp
              try exact hu6
            try simp [Act.put]
            refine wpAnyH_take (i := 20) (v := .int .i64 ((2 : Int) ^ t)) rfl (by kernel_rfl) (by kernel_rfl) (by kernel_rfl) (fun _ _ _ h => h) (Or.inl ⟨by rfl, ?_⟩) hSw ?_
            · intro wz hsz
              obtain ⟨z1, z2⟩ := hsz
              go_simp
              try exact hwr
            try simp [Act.put]
            refine wpAnyH_take (i := 21) (v := .int .i64 (Y : Int)) rfl (by kernel_rfl) (by kernel_rfl) (by kernel_rfl) (fun _ _ _ h => h) (Or.inl ⟨by rfl, ?_⟩) hSw ?_
            · intro wz hsz
              obtain ⟨z1, z2⟩ := hsz
              go_simp
              try exact hor
            try simp [Act.put]
            refine wpAnyH_take (i := 24) (v := .int .i64 Lf) rfl (by kernel_rfl) (by kernel_rfl) (by kernel_rfl) (fun _ _ _ h => h) (Or.inl ⟨by rfl, ?_⟩) hSw ?_
            · intro wz hsz
              obtain ⟨z1, z2⟩ := hsz
              go_simp
            try simp [Act.put]
            refine wpAnyH_ready (rs := [22]) (by kernel_rfl) (by simp) ?_
            refine AllReadyH.cons rfl (fun K hK => ?_) AllReadyH.nil
            go_simp
            go_wp2_with (first | (go_at_call 37; refine (kL _ hw0).mono ?_; rintro e w5 ⟨rfl, hb5⟩; have hw1 := stepA hw0.drew hb5; clear hb5) | (fail))
            refine hK.out _ _ (HC.out _ hw1) (fun hSn => ?_)
            clear hK K hSw
            have hSw := hSn
            clear hSn
            try simp [Act.put]
            refine wpAnyH_take (i := 23) (v := .int .i64 (X + Z)) rfl (by kernel_rfl) (by kernel_rfl) (by kernel_rfl) (fun _ _ _ h => h) (Or.inl ⟨by rfl, ?_⟩) hSw ?_
            · intro wz hsz
              obtain ⟨z1, z2⟩ := hsz
              go_simp
              try exact IntWalk.i64_in _ ⟨by omega, by omega⟩
            try simp [Act.put]
            refine wpAnyH_take (i := 25) (v := .bool true) rfl (by kernel_rfl) (by kernel_rfl) (by kernel_rfl) (fun _ _ _ h => h) (Or.inl ⟨by rfl, ?_⟩) hSw ?_
            · intro wz hsz
              obtain ⟨z1, z2⟩ := hsz
              go_simp
              try simpa using hEq
            try simp [Act.put]
            refine wpAnyH_take (i := 26) (v := .bool true) rfl (by kernel_rfl) (by kernel_rfl) (by kernel_rfl) (fun _ _ _ h => h) (Or.inl ⟨by rfl, ?_⟩) hSw ?_
            · intro wz hsz
              obtain ⟨z1, z2⟩ := hsz
              go_simp
            try simp [Act.put]
            refine wpAnyH_done (by kernel_rfl) ?_ _
            have hb5 := stepA hbr hw1
            have hown5 := hown.below hb5
            have hB5 := stepA hB hb5
            have hs5 := hB5.size
            clear hbr hw1 hw0 HC
            go_upto_region 13 with fail
            go_wp2_with (at_builtin; refine wpList_append_own _ rfl _ _ 24 rfl w.heap.size 3 i0' (.int .i64 0) 1 8 Try.underlying24 hi hz0 hz1 hz2 rfl (by decide) _ _ _ rfl (World.ownsRow.alloc hown5 _) ⟨w5.heap.size, 0, none⟩ 1 1 [.int .i64 (t : Int)] rfl rfl (cell_one_new _ _ _) (fun x hx => by simp at hx; subst hx; rfl) (by unfold maxLen; omega) (by omega) (by simp; omega) ?_; intro vN w6 hown6 hgrow6 hlies6)
            have hgB : Below w.heap.size w5 w6 := ((Below.refl w.heap.size w5).alloc (by omega) (.cells #[.int .i64 (t : Int)] 3)).grown hgrow6 (by simp; omega) (fun q hq => (World.ownsRow.lt hown5 q hq).1)
            exact ⟨⟨k + 1, by omega, by go_num, by rw [HMt.out], by unfold Own; rw [vL_succ, HBt2.out]; exact hown6, hB5.trans hgB⟩, by simp [intOf]; omega⟩
          · have hEq : (F k t + Lk (Mk ||| 2 ^ t) == Lf) = false := by simpa using HF1.out t (by omega) e
            clear HLL HZb HF1 HF2 e HMs HBt
            generalize Mk ||| 2 ^ t = Y at *
            generalize F k t = X at *
            generalize Lk Y = Z at *
            go_upto_region 12 with fail
            refine wp_region_held (S := (fun w' => w'.cell? ⟨pb, po + k, none⟩ = some (.slice (some ⟨rb, ro, none⟩) n Ck) ∧ w'.cell? ⟨rb, ro + t, none⟩ = some (.int .i64 X))) (by kernel_rfl) ?_
            change wpAnyH _ _ _ _ _ _ _ _ (World.drew _)
            have hSw := (HC.out _ hw0.drew : _ ∧ _)
            refine wpAnyH_take (i := 0) (v := .int .i64 (Mk : Int)) rfl (by kernel_rfl) (by kernel_rfl) (by kernel_rfl) (fun _ _ _ h => h) (Or.inl ⟨by rfl, ?_⟩) hSw ?_
            · intro wz hsz
              obtain ⟨z1, z2⟩ := hsz
              go_simp
            try simp [Act.put]
            refine wpAnyH_take (i := 1) (v := .int .i64 (t : Int)) rfl (by kernel_rfl) (by kernel_rfl) (by kernel_rfl) (fun _ _ _ h => h) (Or.inl ⟨by rfl, ?_⟩) hSw ?_
            · intro wz hsz
              obtain ⟨z1, z2⟩ := hsz
              go_simp
            try simp [Act.put]
            refine wpAnyH_take (i := 2) (v := .int .u64 (t : Int)) rfl (by kernel_rfl) (by kernel_rfl) (by kernel_rfl) (fun _ _ _ h => h) (Or.inl ⟨by rfl, ?_⟩) hSw ?_
            · intro wz hsz
              obtain ⟨z1, z2⟩ := hsz
              go_simp
              try exact hu6
            try simp [Act.put]
            refine wpAnyH_take (i := 3) (v := .int .i64 ((Mk : Int) / 2 ^ t)) rfl (by kernel_rfl) (by kernel_rfl) (by kernel_rfl) (fun _ _ _ h => h) (Or.inl ⟨by rfl, ?_⟩) hSw ?_
            · intro wz hsz
              obtain ⟨z1, z2⟩ := hsz
              go_simp
            try simp [Act.put]
            refine wpAnyH_take (i := 4) (v := .int .i64 (bits .and .i64 ((Mk : Int) / 2 ^ t) 1)) rfl (by kernel_rfl) (by kernel_rfl) (by kernel_rfl) (fun _ _ _ h => h) (Or.inl ⟨by rfl, ?_⟩) hSw ?_
            · intro wz hsz
              obtain ⟨z1, z2⟩ := hsz
              go_simp
            try simp [Act.put]
            refine wpAnyH_take (i := 5) (v := .bool true) rfl (by kernel_rfl) (by kernel_rfl) (by kernel_rfl) (fun _ _ _ h => h) (Or.inl ⟨by rfl, ?_⟩) hSw ?_
            · intro wz hsz
              obtain ⟨z1, z2⟩ := hsz
              go_simp
              try simpa using hbt0
            try simp [Act.put]
            refine wpAnyH_take (i := 6) (v := .bool true) rfl (by kernel_rfl) (by kernel_rfl) (by kernel_rfl) (fun _ _ _ h => h) (Or.inl ⟨by rfl, ?_⟩) hSw ?_
            · intro wz hsz
              obtain ⟨z1, z2⟩ := hsz
              go_simp
            try simp [Act.put]
            refine wpAnyH_take (i := 7) (v := .slice (some ⟨pb, po, none⟩) n c) rfl (by kernel_rfl) (by kernel_rfl) (by kernel_rfl) (fun _ _ _ h => h) (Or.inl ⟨by rfl, ?_⟩) hSw ?_
            · intro wz hsz
              obtain ⟨z1, z2⟩ := hsz
              go_simp
            try simp [Act.put]
            refine wpAnyH_take (i := 8) (v := .int .i64 (k : Int)) rfl (by kernel_rfl) (by kernel_rfl) (by kernel_rfl) (fun _ _ _ h => h) (Or.inl ⟨by rfl, ?_⟩) hSw ?_
            · intro wz hsz
              obtain ⟨z1, z2⟩ := hsz
              go_simp
            try simp [Act.put]
            refine wpAnyH_take (i := 9) (v := .pointer (some ⟨pb, po + k, none⟩)) rfl (by kernel_rfl) (by kernel_rfl) (by kernel_rfl) (fun _ _ _ h => h) (Or.inl ⟨by rfl, ?_⟩) hSw ?_
            · intro wz hsz
              obtain ⟨z1, z2⟩ := hsz
              go_simp
              try (intro h9; omega)
            try simp [Act.put]
            refine wpAnyH_take (i := 10) (v := .slice (some ⟨rb, ro, none⟩) n Ck) rfl (by kernel_rfl) (by kernel_rfl) (by kernel_rfl) (fun _ _ _ h => h) (Or.inl ⟨by rfl, ?_⟩) hSw ?_
            · intro wz hsz
              obtain ⟨z1, z2⟩ := hsz
              go_simp
            try simp [Act.put]
            refine wpAnyH_take (i := 11) (v := .int .i64 (t : Int)) rfl (by kernel_rfl) (by kernel_rfl) (by kernel_rfl) (fun _ _ _ h => h) (Or.inl ⟨by rfl, ?_⟩) hSw ?_
            · intro wz hsz
              obtain ⟨z1, z2⟩ := hsz
              go_simp
            try simp [Act.put]
            refine wpAnyH_take (i := 12) (v := .pointer (some ⟨rb, ro + t, none⟩)) rfl (by kernel_rfl) (by kernel_rfl) (by kernel_rfl) (fun _ _ _ h => h) (Or.inl ⟨by rfl, ?_⟩) hSw ?_
            · intro wz hsz
              obtain ⟨z1, z2⟩ := hsz
              go_simp
              try (intro h9; omega)
            try simp [Act.put]
            refine wpAnyH_take (i := 13) (v := .int .i64 X) rfl (by kernel_rfl) (by kernel_rfl) (by kernel_rfl) (fun _ _ _ h => h) (Or.inl ⟨by rfl, ?_⟩) hSw ?_
            · intro wz hsz
              obtain ⟨z1, z2⟩ := hsz
              go_simp
            try simp [Act.put]
            refine wpAnyH_take (i := 14) (v := .slice (some ⟨pb, po, none⟩) n c) rfl (by kernel_rfl) (by kernel_rfl) (by kernel_rfl) (fun _ _ _ h => h) (Or.inl ⟨by rfl, ?_⟩) hSw ?_
            · intro wz hsz
              obtain ⟨z1, z2⟩ := hsz
              go_simp
            try simp [Act.put]
            refine wpAnyH_take (i := 15) (v := .int .i64 (k : Int)) rfl (by kernel_rfl) (by kernel_rfl) (by kernel_rfl) (fun _ _ _ h => h) (Or.inl ⟨by rfl, ?_⟩) hSw ?_
            · intro wz hsz
              obtain ⟨z1, z2⟩ := hsz
              go_simp
            try simp [Act.put]
            refine wpAnyH_take (i := 16) (v := .int .i64 ((k : Int) + 1)) rfl (by kernel_rfl) (by kernel_rfl) (by kernel_rfl) (fun _ _ _ h => h) (Or.inl ⟨by rfl, ?_⟩) hSw ?_
            · intro wz hsz
              obtain ⟨z1, z2⟩ := hsz
              go_simp
              try exact IntWalk.i64_in _ ⟨by omega, by omega⟩
            try simp [Act.put]
            refine wpAnyH_take (i := 17) (v := .int .i64 (Mk : Int)) rfl (by kernel_rfl) (by kernel_rfl) (by kernel_rfl) (fun _ _ _ h => h) (Or.inl ⟨by rfl, ?_⟩) hSw ?_
            · intro wz hsz
              obtain ⟨z1, z2⟩ := hsz
              go_simp
            try simp [Act.put]
            refine wpAnyH_take (i := 18) (v := .int .i64 (t : Int)) rfl (by kernel_rfl) (by kernel_rfl) (by kernel_rfl) (fun _ _ _ h => h) (Or.inl ⟨by rfl, ?_⟩) hSw ?_
            · intro wz hsz
              obtain ⟨z1, z2⟩ := hsz
              go_simp
            try simp [Act.put]
            refine wpAnyH_take (i := 19) (v := .int .u64 (t : Int)) rfl (by kernel_rfl) (by kernel_rfl) (by kernel_rfl) (fun _ _ _ h => h) (Or.inl ⟨by rfl, ?_⟩) hSw ?_
            · intro wz hsz
              obtain ⟨z1, z2⟩ := hsz
              go_simp
              try exact hu6
            try simp [Act.put]
            refine wpAnyH_take (i := 20) (v := .int .i64 ((2 : Int) ^ t)) rfl (by kernel_rfl) (by kernel_rfl) (by kernel_rfl) (fun _ _ _ h => h) (Or.inl ⟨by rfl, ?_⟩) hSw ?_
            · intro wz hsz
              obtain ⟨z1, z2⟩ := hsz
              go_simp
              try exact hwr
            try simp [Act.put]
            refine wpAnyH_take (i := 21) (v := .int .i64 (Y : Int)) rfl (by kernel_rfl) (by kernel_rfl) (by kernel_rfl) (fun _ _ _ h => h) (Or.inl ⟨by rfl, ?_⟩) hSw ?_
            · intro wz hsz
              obtain ⟨z1, z2⟩ := hsz
              go_simp
              try exact hor
            try simp [Act.put]
            refine wpAnyH_take (i := 24) (v := .int .i64 Lf) rfl (by kernel_rfl) (by kernel_rfl) (by kernel_rfl) (fun _ _ _ h => h) (Or.inl ⟨by rfl, ?_⟩) hSw ?_
            · intro wz hsz
              obtain ⟨z1, z2⟩ := hsz
              go_simp
            try simp [Act.put]
            refine wpAnyH_ready (rs := [22]) (by kernel_rfl) (by simp) ?_
            refine AllReadyH.cons rfl (fun K hK => ?_) AllReadyH.nil
            go_simp
            go_wp2_with (first | (go_at_call 37; refine (kL _ hw0).mono ?_; rintro e w5 ⟨rfl, hb5⟩; have hw1 := stepA hw0.drew hb5; clear hb5) | (fail))
            refine hK.out _ _ (HC.out _ hw1) (fun hSn => ?_)
            clear hK K hSw
            have hSw := hSn
            clear hSn
            try simp [Act.put]
            refine wpAnyH_take (i := 23) (v := .int .i64 (X + Z)) rfl (by kernel_rfl) (by kernel_rfl) (by kernel_rfl) (fun _ _ _ h => h) (Or.inl ⟨by rfl, ?_⟩) hSw ?_
            · intro wz hsz
              obtain ⟨z1, z2⟩ := hsz
              go_simp
              try exact IntWalk.i64_in _ ⟨by omega, by omega⟩
            try simp [Act.put]
            refine wpAnyH_take (i := 25) (v := .bool false) rfl (by kernel_rfl) (by kernel_rfl) (by kernel_rfl) (fun _ _ _ h => h) (Or.inl ⟨by rfl, ?_⟩) hSw ?_
            · intro wz hsz
              obtain ⟨z1, z2⟩ := hsz
              go_simp
              try simpa using hEq
            try simp [Act.put]
            refine wpAnyH_take (i := 26) (v := .bool false) rfl (by kernel_rfl) (by kernel_rfl) (by kernel_rfl) (fun _ _ _ h => h) (Or.inl ⟨by rfl, ?_⟩) hSw ?_
            · intro wz hsz
              obtain ⟨z1, z2⟩ := hsz
              go_simp
            try simp [Act.put]
            refine wpAnyH_done (by kernel_rfl) ?_ _
            go_wp2
            exact ⟨⟨t + 1, by omega, by go_num, rfl, rfl, stepA hbr hw1⟩, by simp [intOf]; omega⟩
    · have hkn : k = n := by omega
      subst hkn
      have i1 : ¬ (k : Int) < (k : Int) := by omega
      obtain ⟨sa, sc, rfl⟩ := hown.shape
      have HL : Hid (LQ wr w.heap.size wr.heap.size sa k (fun i => (bwT F k i : Int))) := hown.lq
      have hil := hown.il
      clear hown
      go_wp2_with (first | (go_at_call 38; refine (kS _ _ _ (HRR.out.below hB) hil).mono ?_; rintro e w5 ⟨rfl, hb5⟩; clear kS) | fail)
      go_ret3
      exact ⟨⟨sa, sc, rfl, (HL.out.on hb5).wide (Nat.le_refl _) hb5.size⟩, stepA hB hb5⟩
end Go.Proofs.Ytjmdghkhapajiaa
