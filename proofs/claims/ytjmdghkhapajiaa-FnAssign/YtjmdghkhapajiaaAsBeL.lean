/- What the rest costs at least, by sets of taken tasks, as the program reckons it. -/
import Derived.Test.YtjmdghkhapajiaaAsBeO
import Derived.Deep.RegionHeld
import Derived.BigQuiet
import Derived.Deep.Cut
namespace Go.Proofs.Ytjmdghkhapajiaa
open Go.RowKit
theorem row_zero0 {w : World} {b n : Nat} (h : w.rowIs b 3 n (fun _ => .int .i64 0)) : IP w b n (fun _ => 0) := ⟨h.lt, fun _ hi => h.cell hi, fun j => h.frozen j⟩
/-- the table -/
def lsM (F : Nat → Nat → Int) (n M : Nat) : Int := lsL F n (n - pcN M) M
def AnsLs (w w' : World) (e : Ending) (N : Nat) (R : Nat → Int) : Prop := ∃ g, e = .returned (.slice (some ⟨g, 0, none⟩) N N) ∧ w.heap.size ≤ g ∧ IP w' g N R
theorem bit_in7 (t : Nat) (ht : t < 7) : IntKind.i64.wrap ((2 : Int) ^ t) = (2 : Int) ^ t := by
  have e : ((2 : Int) ^ t) = ((2 ^ t : Nat) : Int) := by simp
  have h2 : 2 ^ t < 2 ^ 7 := Nat.pow_lt_pow_right (by omega) ht
  rw [e]
  generalize 2 ^ t = y at h2 ⊢
  rw [IntKind.wrap_i64]; omega
set_option maxHeartbeats 8000000 in
set_option maxRecDepth 20000 in
theorem rests_any (a : Option Addr) (n c : Nat) (A : Nat → Option Addr) (K C : Nat → Nat) (F : Nat → Nat → Int) (w : World) (gp : GP n K F) (hA : LL w a n A K C F) :
    Calls Try.prog 34 #[.slice a n c] w fun e w' => AnsLs w w' e (2 ^ n) (lsM F n) ∧ Below w.heap.size w w' := by
  have hn6 := gp.hi
  have hn1 := gp.lo
  obtain ⟨N, hN⟩ : ∃ N : Nat, N = 2 ^ n := ⟨_, rfl⟩
  have hN2 : 2 ≤ N := by rw [hN]; exact Nat.le_trans (show 2 ≤ 2 ^ 1 by decide) (Nat.pow_le_pow_right (by omega) hn1)
  have hN64 : N ≤ 64 := by rw [hN]; exact Nat.pow_le_pow_right (n := 2) (by omega) hn6
  have hpw : (2 : Int) ^ n = (N : Int) := by rw [hN]; simp
  have hwr0 := bit_in7 n (by omega)
  rw [hpw] at hwr0
  have HN : Hid (N = 2 ^ n) := hN
  rw [← hN]
  clear hN
  have i7 : (0 : Int) ≤ (n : Int) := by omega
  have i8 : (n : Int) < 7 := by omega
  have e1 : (N : Int) - 1 + 1 = (N : Int) := by omega
  have hmk := run_make_row' (P := Try.prog) 24 3 (.int .i64 0) 8 Try.underlying24 infoI rfl .i64 .i64 N (by omega) (by omega)
  have HI0 : Hid (IP (w.alloc (.cells (madeCells #[.int .i64 0] N) 3)) w.heap.size N (fun _ => 0)) := row_zero0 (World.rowIs_made w (.int .i64 0) N 3)
  have hB0 : Below w.heap.size w (w.alloc (.cells (madeCells #[.int .i64 0] N) 3)) := (Below.refl _ _).alloc (Nat.le_refl _) _
  go_enter Try.func34, Try.ntmps34
  go_wp2_with fail
  clear hmk
  obtain ⟨Rb, hRb⟩ : ∃ Rb, Rb = w.heap.size := ⟨_, rfl⟩
  have HRb : Hid (Rb = w.heap.size) := hRb
  have hRl : w.heap.size ≤ Rb := by omega
  rw [← hRb] at HI0 ⊢
  generalize w.alloc (.cells (madeCells #[.int .i64 0] N) 3) = w2 at HI0 hB0 ⊢
  clear hRb
  go_loopw [5] (fun x wr => ∃ (T : Nat) (y : Int), T + 1 ≤ N ∧ x = .int .i64 y ∧ Hid (y = (T : Int) - 1) ∧ Below w.heap.size w wr ∧ ∃ R, IP wr Rb N R ∧ ∀ M, T ≤ M → M < N → R M = lsM F n M) (fun x _ => (intOf x + 1).toNat)
  case atStart =>
    refine ⟨N - 1, _, by omega, rfl, by show _ = ((N - 1 : Nat) : Int) - 1; omega, hB0, _, HI0.out, fun M h1 h2 => ?_⟩
    have e : M = 2 ^ n - 1 := by have := HN.out; omega
    subst e
    unfold lsM
    rw [full_all ⟨n, by omega⟩]
    simp [lsL]
  case round =>
    obtain ⟨T, y, hT, rfl, HY, hB, R, hP, hR⟩ := hrel
    clear HI0 hB0
    by_cases h0 : T = 0
    · have hy : y = -1 := by have := HY.out; omega
      subst hy
      have hP2 : IP wr Rb N (lsM F n) := hP.congr fun M hM => hR M (by omega) hM
      clear hP hR hA HY
      go_wp2
      go_ret
      exact ⟨⟨Rb, rfl, hRl, hP2⟩, hB⟩
    · obtain ⟨M, rfl⟩ : ∃ M, T = M + 1 := ⟨T - 1, by omega⟩
      have hy : y = (M : Int) := by have := HY.out; omega
      subst hy
      clear HY h0
      have hMN : M + 1 < 2 ^ n := by have := HN.out; omega
      have hM64 : M < 64 := by omega
      have hpl := pc_less hn6 hMN
      have hsz := hB.size
      obtain ⟨i, hi⟩ : ∃ i, i = pcN M := ⟨_, rfl⟩
      have kP := fun w => pc_any M w hM64
      rw [← hi] at hpl kP
      obtain ⟨pb, po, rfl, pl_, x0⟩ := ll_at1 (hA.below hB) hpl
      obtain ⟨rb, ro, hAi, rl0, rc1⟩ := hA.row i hpl (by have := gp.len i hpl; omega)
      have hKi := gp.len i hpl
      have rl_ : rb < wr.heap.size := by omega
      have rc0 := fun t (ht : t < K i) => (hB.cell (p := ⟨rb, ro + t, none⟩) rl0).trans (rc1 t ht)
      clear rc1
      rw [hAi, hKi] at x0
      rw [hKi] at rc0
      have ek : n - (n - i - 1 + 1) = i := by omega
      have hO : ∀ t, t < n → ofT (F i) M R t = ofT (F (n - (n - i - 1 + 1))) M (lsL F n (n - i - 1)) t := fun t ht => by
        rw [ek]
        unfold ofT
        by_cases c : M.testBit t = true
        · rw [if_pos c, if_pos c]
        · have c2 : M.testBit t = false := by simpa using c
          have h1 := pc_up M t hM64 (by omega) c2
          rw [if_neg c, if_neg c, hR _ (by omega) (by have := or_lt (t := t) (show M < 2 ^ n by omega) ht; have := HN.out; omega)]
          unfold lsM
          rw [h1.1, ← hi, show n - (i + 1) = n - i - 1 by omega]
      have hbd : ∀ t, t < n → M.testBit t = false → M ||| 2 ^ t < N ∧ 0 ≤ R (M ||| 2 ^ t) ∧ R (M ||| 2 ^ t) ≤ 1000000 := fun t ht c2 => by
        have h1 := pc_up M t hM64 (by omega) c2
        have h2 := or_lt (t := t) (show M < 2 ^ n by omega) ht
        have h3 := ls_bd gp (n - (i + 1)) _ h2 (by omega)
        have h4 : M ||| 2 ^ t < N := by have := HN.out; omega
        rw [hR _ (by omega) h4]
        unfold lsM
        rw [h1.1, ← hi]
        exact ⟨h4, h3.1, by omega⟩
      obtain ⟨s1, s2, s3⟩ := ls_step gp (k := n - i - 1) (M := M) (by omega) (by omega) (by omega) hO
      rw [ek, show n - i - 1 + 1 = n - i by omega] at s3
      have kO := fun cc w (h1 : IL w (some ⟨rb, ro, none⟩) n (F i)) (h2 : IL w (some ⟨Rb, 0, none⟩) N R) => offers_any (some ⟨rb, ro, none⟩) n cc (F i) M (some ⟨Rb, 0, none⟩) N N R w hn6 hM64 h1 h2 (fun t ht => gp.bd i t hpl ht) hbd
      have kC := fun a cc lo hi w (h : VQ w lo hi a n (fun t => ofv (ofT (F i) M R t))) => cheap_any a n cc lo hi (ofT (F i) M R) w (by omega) h
      generalize hB2 : chK (ofT (F i) M R) n = B at s1 s2 s3 kC
      have hb2 := hbd B s1 s2
      have hv := gp.bd i B hpl s1
      have hor := or_bit M B hM64 (by omega)
      have hwr := bit_in B (by omega)
      have hup := (pc_up M B hM64 (by omega) s2)
      have hMY := hup.2
      have hRY := hR (M ||| 2 ^ B) (by omega) hb2.1
      have HVal : Hid (F i B + R (M ||| 2 ^ B) = lsM F n M) := by
        show F i B + R (M ||| 2 ^ B) = lsM F n M
        rw [hRY]
        unfold lsM
        rw [hup.1, ← hi, ← s3, show n - (i + 1) = n - i - 1 by omega]
      have HRn : Hid (∀ M', M + 1 ≤ M' → M' < N → R M' = lsM F n M') := hR
      have hIr : IL wr (some ⟨rb, ro, none⟩) n (F i) := fun _ => ⟨rb, ro, rfl, rl_, rc0⟩
      have y1 := rc0 B s1
      have y2 := hP.c (M ||| 2 ^ B) hb2.1
      generalize M ||| 2 ^ B = Y at *
      have j1 : (0 : Int) ≤ (M : Int) := by omega
      have j2 : (M : Int) < (N : Int) := by omega
      have j3 : (0 : Int) ≤ (Y : Int) := by omega
      have j4 : (Y : Int) < (N : Int) := by omega
      have j5 : (0 : Int) ≤ (B : Int) := by omega
      have j6 : (B : Int) < (n : Int) := by omega
      have j7 : (0 : Int) ≤ (i : Int) := by omega
      have j8 : (i : Int) < (n : Int) := by omega
      have j9 : (B : Int) < 6 := by omega
      have j10 : (M : Int) < 64 := by omega
      have HP : Hid (IP wr Rb N R) := hP
      clear hA hR hO hbd s1 s2 s3 hup hRY rc0 hi hAi hKi hB2 hP ek hpl
      generalize C i = Ck at *
      generalize hX : F i B = X at y1 hv HVal
      generalize hZ : R Y = Z at y2 hb2 HVal
      clear hX hZ
      go_upto_region 7 with (first | (go_at_call 49; refine (kP _).mono ?_; rintro e w9 ⟨rfl, hw9⟩; have hs' := hw9.symm; clear hw9 kP; subst hs') | fail)
      go_wp2_with fail
      refine (kO _ _ hIr HP.out.il).mono ?_
      rintro e w3 ⟨⟨oa, oc, rfl, hvq⟩, hb3⟩
      go_wp2_with fail
      refine (kC _ _ _ _ _ hvq).mono ?_
      rintro e w4 ⟨rfl, hb4⟩
      have hb5 := stepA hb3 hb4
      have hP5 := HP.out.below hb5 HP.out.lt
      have u1 := (hb5.cell (p := ⟨rb, ro + B, none⟩) rl_).trans y1
      have u2 := (hb5.cell (p := ⟨Rb, Y, none⟩) HP.out.lt).trans y2
      have hB5 := stepA hB hb5
      clear y1 y2 kO kC hIr hvq hb3 hb4 hb5 HP x0 hB
      have y1 : (w4.drew).cell? ⟨rb, ro + B, none⟩ = some (.int .i64 X) := u1
      have y2 : (w4.drew).cell? ⟨Rb, Y, none⟩ = some (.int .i64 Z) := u2
      have y3 : (w4.drew).cell? ⟨Rb, M, none⟩ = some (.int .i64 (R M)) := hP5.c M (by omega)
      have y4 : (w4.drew).frozen? ⟨Rb, M, none⟩ = false := hP5.fz M
      have hrR : rb ≠ Rb := by have := HRb.out; omega
      have m1 : ((w4.drew).setCell ⟨Rb, M, none⟩ (.int .i64 (X + Z))).cell? ⟨rb, ro + B, none⟩ = some (.int .i64 X) := (World.cell?_setCell_other _ _ _ _ (by simp <;> omega)).trans y1
      have m2 : ((w4.drew).setCell ⟨Rb, M, none⟩ (.int .i64 (X + Z))).cell? ⟨Rb, Y, none⟩ = some (.int .i64 Z) := (World.cell?_setCell_other _ _ _ _ (by simp <;> omega)).trans y2
      have HPn : Hid (IP ((w4.drew).setCell ⟨Rb, M, none⟩ (.int .i64 (X + Z))) Rb N (put R M (X + Z))) := (IP.set (w := w4.drew) ⟨hP5.lt, hP5.c, hP5.fz⟩ (by omega) _)
      have HBn : Hid (Below w.heap.size w ((w4.drew).setCell ⟨Rb, M, none⟩ (.int .i64 (X + Z)))) := hB5.drew.setCell (p := ⟨Rb, M, none⟩) hRl _
      clear hP5 hB5 u1 u2
      go_upto_region 8 with fail
      refine wp_region_held (S := (fun w' => w'.cell? ⟨rb, ro + B, none⟩ = some (.int .i64 X) ∧ w'.cell? ⟨Rb, Y, none⟩ = some (.int .i64 Z))) (by kernel_rfl) ?_
      change wpAnyH _ _ _ _ _ _ _ _ (World.drew _)
      have hSw := (⟨y1, y2⟩ : _ ∧ _)
      refine wpAnyH_take (i := 0) (v := .slice (some ⟨Rb, 0, none⟩) N N) rfl (by kernel_rfl) (by kernel_rfl) (by kernel_rfl) (fun _ _ _ h => h) (Or.inl ⟨by rfl, ?_⟩) hSw ?_
      · intro wz hsz
        obtain ⟨z1, z2⟩ := hsz
        go_simp
      try simp [Act.put]
      refine wpAnyH_take (i := 1) (v := .int .i64 (M : Int)) rfl (by kernel_rfl) (by kernel_rfl) (by kernel_rfl) (fun _ _ _ h => h) (Or.inl ⟨by rfl, ?_⟩) hSw ?_
      · intro wz hsz
        obtain ⟨z1, z2⟩ := hsz
        go_simp
      try simp [Act.put]
      refine wpAnyH_take (i := 2) (v := .slice (some ⟨rb, ro, none⟩) n Ck) rfl (by kernel_rfl) (by kernel_rfl) (by kernel_rfl) (fun _ _ _ h => h) (Or.inl ⟨by rfl, ?_⟩) hSw ?_
      · intro wz hsz
        obtain ⟨z1, z2⟩ := hsz
        go_simp
      try simp [Act.put]
      refine wpAnyH_take (i := 3) (v := .int .i64 (B : Int)) rfl (by kernel_rfl) (by kernel_rfl) (by kernel_rfl) (fun _ _ _ h => h) (Or.inl ⟨by rfl, ?_⟩) hSw ?_
      · intro wz hsz
        obtain ⟨z1, z2⟩ := hsz
        go_simp
      try simp [Act.put]
      refine wpAnyH_take (i := 4) (v := .pointer (some ⟨rb, ro + B, none⟩)) rfl (by kernel_rfl) (by kernel_rfl) (by kernel_rfl) (fun _ _ _ h => h) (Or.inl ⟨by rfl, ?_⟩) hSw ?_
      · intro wz hsz
        obtain ⟨z1, z2⟩ := hsz
        go_simp
        try (intro h9; omega)
      try simp [Act.put]
      refine wpAnyH_take (i := 5) (v := .int .i64 X) rfl (by kernel_rfl) (by kernel_rfl) (by kernel_rfl) (fun _ _ _ h => h) (Or.inl ⟨by rfl, ?_⟩) hSw ?_
      · intro wz hsz
        obtain ⟨z1, z2⟩ := hsz
        go_simp
      try simp [Act.put]
      refine wpAnyH_take (i := 6) (v := .slice (some ⟨Rb, 0, none⟩) N N) rfl (by kernel_rfl) (by kernel_rfl) (by kernel_rfl) (fun _ _ _ h => h) (Or.inl ⟨by rfl, ?_⟩) hSw ?_
      · intro wz hsz
        obtain ⟨z1, z2⟩ := hsz
        go_simp
      try simp [Act.put]
      refine wpAnyH_take (i := 7) (v := .int .i64 (M : Int)) rfl (by kernel_rfl) (by kernel_rfl) (by kernel_rfl) (fun _ _ _ h => h) (Or.inl ⟨by rfl, ?_⟩) hSw ?_
      · intro wz hsz
        obtain ⟨z1, z2⟩ := hsz
        go_simp
      try simp [Act.put]
      refine wpAnyH_take (i := 8) (v := .int .i64 (B : Int)) rfl (by kernel_rfl) (by kernel_rfl) (by kernel_rfl) (fun _ _ _ h => h) (Or.inl ⟨by rfl, ?_⟩) hSw ?_
      · intro wz hsz
        obtain ⟨z1, z2⟩ := hsz
        go_simp
      try simp [Act.put]
      refine wpAnyH_take (i := 9) (v := .int .i64 ((2 : Int) ^ B)) rfl (by kernel_rfl) (by kernel_rfl) (by kernel_rfl) (fun _ _ _ h => h) (Or.inl ⟨by rfl, ?_⟩) hSw ?_
      · intro wz hsz
        obtain ⟨z1, z2⟩ := hsz
        go_simp
        try exact hwr
      try simp [Act.put]
      refine wpAnyH_take (i := 10) (v := .int .i64 (Y : Int)) rfl (by kernel_rfl) (by kernel_rfl) (by kernel_rfl) (fun _ _ _ h => h) (Or.inl ⟨by rfl, ?_⟩) hSw ?_
      · intro wz hsz
        obtain ⟨z1, z2⟩ := hsz
        go_simp
        try exact hor
      try simp [Act.put]
      refine wpAnyH_take (i := 11) (v := .pointer (some ⟨Rb, Y, none⟩)) rfl (by kernel_rfl) (by kernel_rfl) (by kernel_rfl) (fun _ _ _ h => h) (Or.inl ⟨by rfl, ?_⟩) hSw ?_
      · intro wz hsz
        obtain ⟨z1, z2⟩ := hsz
        go_simp
        try (intro h9; omega)
      try simp [Act.put]
      refine wpAnyH_take (i := 12) (v := .int .i64 Z) rfl (by kernel_rfl) (by kernel_rfl) (by kernel_rfl) (fun _ _ _ h => h) (Or.inl ⟨by rfl, ?_⟩) hSw ?_
      · intro wz hsz
        obtain ⟨z1, z2⟩ := hsz
        go_simp
      try simp [Act.put]
      refine wpAnyH_take (i := 13) (v := .int .i64 (X + Z)) rfl (by kernel_rfl) (by kernel_rfl) (by kernel_rfl) (fun _ _ _ h => h) (Or.inl ⟨by rfl, ?_⟩) hSw ?_
      · intro wz hsz
        obtain ⟨z1, z2⟩ := hsz
        go_simp
        try exact IntWalk.i64_in _ ⟨by omega, by omega⟩
      try simp [Act.put]
      refine wpAnyH_take (i := 14) (v := .pointer (some ⟨Rb, M, none⟩)) rfl (by kernel_rfl) (by kernel_rfl) (by kernel_rfl) (fun _ _ _ h => h) (Or.inl ⟨by rfl, ?_⟩) hSw ?_
      · intro wz hsz
        obtain ⟨z1, z2⟩ := hsz
        go_simp
        try (intro h9; omega)
      try simp [Act.put]
      refine wpAnyH_ready (rs := [15]) (by kernel_rfl) (by simp) ?_
      refine AllReadyH.cons rfl (fun K hK => ?_) AllReadyH.nil
      go_simp
      refine hK.out _ _ (⟨m1, m2⟩) (fun hSn => ?_)
      clear hK K hSw
      have hSw := hSn
      clear hSn
      try simp [Act.put]
      refine wpAnyH_done (by kernel_rfl) ?_ _
      go_wp2
      refine ⟨⟨M, _, by omega, rfl, by show _ = (M : Int) - 1; omega, HBn.out, put R M (X + Z), HPn.out, fun M' h1 h2 => ?_⟩, by simp [intOf] <;> omega⟩
      unfold put
      by_cases c : M' = M
      · subst c; rw [if_pos rfl]; exact HVal.out
      · rw [if_neg c]; exact HRn.out M' (by omega) h2
end Go.Proofs.Ytjmdghkhapajiaa
