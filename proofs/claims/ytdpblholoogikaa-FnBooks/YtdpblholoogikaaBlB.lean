/- Where a booking goes, as the program looks for it: slices.BinarySearchFunc. -/
import Derived.Test.YtdpblholoogikaaBlC
import Derived.Test.YtdpblholoogikaaFkFour
import Derived.Deep.RegionWith
namespace Go.Proofs.Ytdpblholoogikaa
open Go.RowKit
theorem bx_four9 {w : World} {b : Nat} {p q r s : Value} (h : Bx w b [p, q, r, s]) : w.cell? ⟨b, 0, none⟩ = some p ∧ w.cell? ⟨b, 1, none⟩ = some q ∧ w.cell? ⟨b, 2, none⟩ = some r ∧ w.cell? ⟨b, 3, none⟩ = some s :=
  ⟨h.c 0 (by simp), h.c 1 (by simp), h.c 2 (by simp), h.c 3 (by simp)⟩
def AnsBS (w w' : World) (e : Ending) (k : Nat) : Prop := ∃ q : Bool, e = .returned (.tuple #[.int .i64 (k : Int), .bool q]) ∧ Below w.heap.size w w'
set_option maxHeartbeats 8000000 in
set_option maxRecDepth 20000 in
theorem iSearch (a : Option Addr) (n c : Nat) (F : Nat → Int) (bl bf bt bw : Int) (w : World) (hn : n ≤ 40) (hA : IL w a (n * 4) F) (hs : bsK F n = true) :
    Calls Try.prog 18 #[.slice a n c, bkv bl bf bt bw, .func (.func 19) #[] #[]] w fun e w' => AnsBS w w' e (plB F bl bf n) := by
  have hb0 : Below w.heap.size w (w.alloc (.cells #[.int .i64 bl, .int .i64 bf, .int .i64 bt, .int .i64 bw] 25)) := (Below.refl _ _).alloc (Nat.le_refl _) _
  have b0 := bx_new (w := w) (b := w.heap.size) [.int .i64 bl, .int .i64 bf, .int .i64 bt, .int .i64 bw] 25 rfl
  have HU : Hid (∀ k, k ≤ n → (∀ i, i < k → ltK F bl bf i = true) → (k < n → ltK F bl bf k = false) → k = plB F bl bf n) := fun k hk h1 h2 => plB_uniq hk h1 h2
  have HD : Hid (∀ k, k < n → ltK F bl bf k = true → ∀ i, i ≤ k → ltK F bl bf i = true) := fun k hk e => ltK_all hs bl bf hk e
  have kc := fun a f t u w => iCmpB a f t u bl bf bt bw w
  go_enter Try.func18, Try.ntmps18
  go_wp2_with fail
  generalize w.alloc (.cells #[.int .i64 bl, .int .i64 bf, .int .i64 bt, .int .i64 bw] 25) = w0 at *
  go_loopw [9, 10] (fun x y wr => ∃ i j : Nat, i ≤ j ∧ j ≤ n ∧ x = .int .i64 (i : Int) ∧ y = .int .i64 (j : Int) ∧ Hid (∀ k, k < i → ltK F bl bf k = true) ∧ Hid (j < n → ltK F bl bf j = false) ∧ Below w.heap.size w wr ∧ Bx wr w.heap.size [.int .i64 bl, .int .i64 bf, .int .i64 bt, .int .i64 bw]) (fun x y _ => (intOf y).toNat - (intOf x).toNat)
  case atStart => exact ⟨0, n, Nat.zero_le _, Nat.le_refl _, rfl, rfl, (fun k hk => absurd hk (Nat.not_lt_zero _)), (fun h => absurd h (Nat.lt_irrefl _)), hb0, b0⟩
  case round =>
    obtain ⟨i, j, hij, hjn, rfl, rfl, HI, HJ, hB, hb⟩ := hrel
    clear hb0 b0
    obtain ⟨z0, z1, z2, z3⟩ := bx_four9 hb
    have zl := hb.lt
    have hw0 := Below.refl wr.heap.size wr
    by_cases hlt : i < j
    · have i1 : (i : Int) < (j : Int) := by omega
      obtain ⟨h, hh⟩ : ∃ h : Nat, h = (i + j) / 2 := ⟨_, rfl⟩
      have hh1 : i ≤ h := by omega
      have hh2 : h < j := by omega
      have s0 : (0 : Int) ≤ (i : Int) + (j : Int) := by omega
      have s1 : (i : Int) + (j : Int) ≤ 80 := by omega
      have s2 : ((i : Int) + (j : Int)) / 2 = (h : Int) := by omega
      have s3 : (0 : Int) ≤ (h : Int) := by omega
      have s4 : (h : Int) < (n : Int) := by omega
      have hn1 : h < n := by omega
      clear hh
      obtain ⟨gb, go_, rfl, gl_, x0, x1, x2, x3⟩ := il_four4 (hA.below hB) hn1
      have HL : Hid (ltK F bl bf h = decide (cmB (F (h * 4)) (F (h * 4 + 1)) bl bf < 0)) := by
        show ltK F bl bf h = _
        unfold ltK
        rw [decide_eq_decide]
        exact (cmB_lt _ _ _ _).symm
      generalize F (h * 4) = f0 at *
      generalize F (h * 4 + 1) = f1 at *
      generalize F (h * 4 + 2) = f2 at *
      generalize F (h * 4 + 3) = f3 at *
      generalize hcm : cmB f0 f1 bl bf = cm at *
      have kc2 := fun w => kc f0 f1 f2 f3 w
      rw [hcm] at kc2
      clear kc hcm hA
      by_cases g : cm < 0
      · have g2 : decide (cm < 0) = true := decide_eq_true g
        have HIn : Hid (∀ k, k < h + 1 → ltK F bl bf k = true) := fun k hk => HD.out h hn1 (HL.out.trans g2) k (by omega)
        clear HL g HI
        go_upto_region 5 with fail
        go_region_with (first | (go_at_call 19; refine (kc2 _).mono ?_; rintro e w1 ⟨rfl, hb1⟩; have hw1 := stepA hw0.drew hb1; clear hb1) | (fail))
        all_goals
          have hb9 := hb.on hw1
          clear hb z0 z1 z2 z3 x0 x1 x2 x3 s0 s1 s2
          go_wp2
          exact ⟨⟨h + 1, j, by omega, by omega, by go_num, rfl, HIn, HJ, stepA hB hw1, hb9⟩, by simp [intOf]; omega⟩
      · have g2 : decide (cm < 0) = false := decide_eq_false g
        have HJn : Hid (h < n → ltK F bl bf h = false) := fun _ => HL.out.trans g2
        clear HL g HJ
        go_upto_region 5 with fail
        go_region_with (first | (go_at_call 19; refine (kc2 _).mono ?_; rintro e w1 ⟨rfl, hb1⟩; have hw1 := stepA hw0.drew hb1; clear hb1) | (fail))
        all_goals
          have hb9 := hb.on hw1
          clear hb z0 z1 z2 z3 x0 x1 x2 x3 s0 s1 s2
          go_wp2
          exact ⟨⟨i, h, by omega, by omega, rfl, rfl, HI, HJn, stepA hB hw1, hb9⟩, by simp [intOf]; omega⟩
    · have hij2 : j = i := by omega
      subst hij2
      have i1 : ¬ (j : Int) < (j : Int) := by omega
      have hk : j = plB F bl bf n := HU.out j hjn HI.out HJ.out
      have HK : Hid (j = plB F bl bf n) := hk
      clear hk HI HJ HU HD
      by_cases hjn2 : j < n
      · have i2 : (j : Int) < (n : Int) := by omega
        have j0 : (0 : Int) ≤ (j : Int) := by omega
        obtain ⟨gb, go_, rfl, gl_, x0, x1, x2, x3⟩ := il_four4 (hA.below hB) hjn2
        have kc2 := fun w => kc (F (j * 4)) (F (j * 4 + 1)) (F (j * 4 + 2)) (F (j * 4 + 3)) w
        generalize F (j * 4) = f0 at *
        generalize F (j * 4 + 1) = f1 at *
        generalize F (j * 4 + 2) = f2 at *
        generalize F (j * 4 + 3) = f3 at *
        generalize cmB f0 f1 bl bf = cm at *
        clear kc hA
        go_upto_region 8 with fail
        refine wp_region_held (S := (fun w' => w'.cell? ⟨gb, go_ + j * 4, none⟩ = some (.int .i64 f0) ∧ w'.cell? ⟨gb, go_ + j * 4 + 1, none⟩ = some (.int .i64 f1) ∧ w'.cell? ⟨gb, go_ + j * 4 + 2, none⟩ = some (.int .i64 f2) ∧ w'.cell? ⟨gb, go_ + j * 4 + 3, none⟩ = some (.int .i64 f3) ∧ w'.cell? ⟨w.heap.size, 0, none⟩ = some (.int .i64 bl) ∧ w'.cell? ⟨w.heap.size, 1, none⟩ = some (.int .i64 bf) ∧ w'.cell? ⟨w.heap.size, 2, none⟩ = some (.int .i64 bt) ∧ w'.cell? ⟨w.heap.size, 3, none⟩ = some (.int .i64 bw))) (by kernel_rfl) ?_
        change wpAnyH _ _ _ _ _ _ _ _ (World.drew _)
        have hSw := (⟨x0, x1, x2, x3, z0, z1, z2, z3⟩ : _ ∧ _ ∧ _ ∧ _ ∧ _ ∧ _ ∧ _ ∧ _)
        refine wpAnyH_take (i := 0) (v := .int .i64 (j : Int)) rfl (by kernel_rfl) (by kernel_rfl) (by kernel_rfl) (fun _ _ _ h => h) (Or.inl ⟨by rfl, ?_⟩) hSw ?_
        · intro wz hsz
          obtain ⟨q0, q1, q2, q3, q4, q5, q6, q7⟩ := hsz
          go_simp
        try simp [Act.put]
        refine wpAnyH_take (i := 1) (v := .int .i64 (j : Int)) rfl (by kernel_rfl) (by kernel_rfl) (by kernel_rfl) (fun _ _ _ h => h) (Or.inl ⟨by rfl, ?_⟩) hSw ?_
        · intro wz hsz
          obtain ⟨q0, q1, q2, q3, q4, q5, q6, q7⟩ := hsz
          go_simp
        try simp [Act.put]
        refine wpAnyH_take (i := 2) (v := .int .i64 (n : Int)) rfl (by kernel_rfl) (by kernel_rfl) (by kernel_rfl) (fun _ _ _ h => h) (Or.inl ⟨by rfl, ?_⟩) hSw ?_
        · intro wz hsz
          obtain ⟨q0, q1, q2, q3, q4, q5, q6, q7⟩ := hsz
          go_simp
        try simp [Act.put]
        refine wpAnyH_take (i := 3) (v := .bool true) rfl (by kernel_rfl) (by kernel_rfl) (by kernel_rfl) (fun _ _ _ h => h) (Or.inl ⟨by rfl, ?_⟩) hSw ?_
        · intro wz hsz
          obtain ⟨q0, q1, q2, q3, q4, q5, q6, q7⟩ := hsz
          go_simp
          try rfl
        try simp [Act.put]
        refine wpAnyH_take (i := 4) (v := .bool true) rfl (by kernel_rfl) (by kernel_rfl) (by kernel_rfl) (fun _ _ _ h => h) (Or.inl ⟨by rfl, ?_⟩) hSw ?_
        · intro wz hsz
          obtain ⟨q0, q1, q2, q3, q4, q5, q6, q7⟩ := hsz
          go_simp
        try simp [Act.put]
        refine wpAnyH_take (i := 5) (v := .func (.func 19) #[] #[]) rfl (by kernel_rfl) (by kernel_rfl) (by kernel_rfl) (fun _ _ _ h => h) (Or.inl ⟨by rfl, ?_⟩) hSw ?_
        · intro wz hsz
          obtain ⟨q0, q1, q2, q3, q4, q5, q6, q7⟩ := hsz
          go_simp
        try simp [Act.put]
        refine wpAnyH_take (i := 6) (v := .slice (some ⟨gb, go_, none⟩) n c) rfl (by kernel_rfl) (by kernel_rfl) (by kernel_rfl) (fun _ _ _ h => h) (Or.inl ⟨by rfl, ?_⟩) hSw ?_
        · intro wz hsz
          obtain ⟨q0, q1, q2, q3, q4, q5, q6, q7⟩ := hsz
          go_simp
        try simp [Act.put]
        refine wpAnyH_take (i := 7) (v := .int .i64 (j : Int)) rfl (by kernel_rfl) (by kernel_rfl) (by kernel_rfl) (fun _ _ _ h => h) (Or.inl ⟨by rfl, ?_⟩) hSw ?_
        · intro wz hsz
          obtain ⟨q0, q1, q2, q3, q4, q5, q6, q7⟩ := hsz
          go_simp
        try simp [Act.put]
        refine wpAnyH_take (i := 8) (v := .pointer (some ⟨gb, go_ + j * 4, none⟩)) rfl (by kernel_rfl) (by kernel_rfl) (by kernel_rfl) (fun _ _ _ h => h) (Or.inl ⟨by rfl, ?_⟩) hSw ?_
        · intro wz hsz
          obtain ⟨q0, q1, q2, q3, q4, q5, q6, q7⟩ := hsz
          go_simp
          try (intro h9; omega)
        try simp [Act.put]
        refine wpAnyH_take (i := 9) (v := bkv f0 f1 f2 f3) rfl (by kernel_rfl) (by kernel_rfl) (by kernel_rfl) (fun _ _ _ h => h) (Or.inl ⟨by rfl, ?_⟩) hSw ?_
        · intro wz hsz
          obtain ⟨q0, q1, q2, q3, q4, q5, q6, q7⟩ := hsz
          go_simp
        try simp [Act.put]
        refine wpAnyH_take (i := 10) (v := bkv bl bf bt bw) rfl (by kernel_rfl) (by kernel_rfl) (by kernel_rfl) (fun _ _ _ h => h) (Or.inl ⟨by rfl, ?_⟩) hSw ?_
        · intro wz hsz
          obtain ⟨q0, q1, q2, q3, q4, q5, q6, q7⟩ := hsz
          go_simp
        try simp [Act.put]
        refine wpAnyH_ready (rs := [11]) (by kernel_rfl) (by simp) ?_
        refine AllReadyH.cons rfl (fun K9 hK => ?_) AllReadyH.nil
        go_simp
        go_at_call 19
        refine (kc2 _).mono ?_
        rintro e9 w1 ⟨rfl, hb1⟩
        have hw1 := stepA hw0.drew hb1
        clear hb1
        refine hK.out _ _ (⟨(hw1.cell (p := ⟨gb, _, none⟩) gl_).trans x0, (hw1.cell (p := ⟨gb, _, none⟩) gl_).trans x1, (hw1.cell (p := ⟨gb, _, none⟩) gl_).trans x2, (hw1.cell (p := ⟨gb, _, none⟩) gl_).trans x3, (hw1.cell (p := ⟨w.heap.size, _, none⟩) zl).trans z0, (hw1.cell (p := ⟨w.heap.size, _, none⟩) zl).trans z1, (hw1.cell (p := ⟨w.heap.size, _, none⟩) zl).trans z2, (hw1.cell (p := ⟨w.heap.size, _, none⟩) zl).trans z3⟩) (fun hSn => ?_)
        clear hK K9 hSw
        have hSw := hSn
        clear hSn
        try simp [Act.put]
        refine wpAnyH_take (i := 12) (v := .bool (cm == 0)) rfl (by kernel_rfl) (by kernel_rfl) (by kernel_rfl) (fun _ _ _ h => h) (Or.inl ⟨by rfl, ?_⟩) hSw ?_
        · intro wz hsz
          obtain ⟨q0, q1, q2, q3, q4, q5, q6, q7⟩ := hsz
          go_simp
        try simp [Act.put]
        refine wpAnyH_take (i := 13) (v := .bool (cm == 0)) rfl (by kernel_rfl) (by kernel_rfl) (by kernel_rfl) (fun _ _ _ h => h) (Or.inl ⟨by rfl, ?_⟩) hSw ?_
        · intro wz hsz
          obtain ⟨q0, q1, q2, q3, q4, q5, q6, q7⟩ := hsz
          go_simp
        try simp [Act.put]
        refine wpAnyH_take (i := 14) (v := .int .i64 (j : Int)) rfl (by kernel_rfl) (by kernel_rfl) (by kernel_rfl) (fun _ _ _ h => h) (Or.inl ⟨by rfl, ?_⟩) hSw ?_
        · intro wz hsz
          obtain ⟨q0, q1, q2, q3, q4, q5, q6, q7⟩ := hsz
          go_simp
        try simp [Act.put]
        refine wpAnyH_take (i := 15) (v := .bool (cm == 0)) rfl (by kernel_rfl) (by kernel_rfl) (by kernel_rfl) (fun _ _ _ h => h) (Or.inl ⟨by rfl, ?_⟩) hSw ?_
        · intro wz hsz
          obtain ⟨q0, q1, q2, q3, q4, q5, q6, q7⟩ := hsz
          go_simp
        try simp [Act.put]
        refine wpAnyH_done (by kernel_rfl) ?_ _
        clear hSw hb z0 z1 z2 z3 x0 x1 x2 x3
        go_wp2
        go_ret2
        exact ⟨_, by rw [← HK.out]; rfl, stepA hB hw1⟩
      · have i2 : ¬ (j : Int) < (n : Int) := by omega
        have i3 : decide ((j : Int) < (n : Int)) = false := decide_eq_false i2
        have i4 : decide (j < n) = false := decide_eq_false hjn2
        clear hb z0 z1 z2 z3 hA kc
        go_upto_region 8 with fail
        go_quiet (fail)
        go_wp2
        go_ret2
        exact ⟨_, by rw [← HK.out]; rfl, below_dr hB _⟩
end Go.Proofs.Ytdpblholoogikaa
