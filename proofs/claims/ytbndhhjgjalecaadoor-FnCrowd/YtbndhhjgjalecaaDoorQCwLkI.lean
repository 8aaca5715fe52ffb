/- The table of when one is due, as the program makes it: the walk. -/
import Derived.Test.YtbndhhjgjalecaaDoorQCwLkM
namespace Go.Proofs.YtbndhhjgjalecaaDoor
open Go.RowKit

def AnsLk (W : Int) (n : Nat) (f : Nat → Int) (R : Nat → Nat → Int) (J : Nat) (a : Option Addr) (c Mb : Nat) (t : Int) (T : Nat) (w' : World) (e : Ending) : Prop :=
  ∃ (Db : Nat) (B : Nat → Nat) (D : Nat → Nat → Int), e = .returned (olv W (hgt W n) a n c Mb t Db (T + 2)) ∧ Dt w' Db T n B D 0 ∧ ∀ k, k ≤ T + 1 → ∀ q, q < n → DueIs W n f R J t T k (q : Int) (D k q)
set_option maxRecDepth 20000 in
set_option maxHeartbeats 8000000 in
theorem lookTo_any (W : Int) (a : Option Addr) (n c : Nat) (f : Nat → Int) (R : Nat → Nat → Int) (J Mb cnt : Nat) (t : Int) (T : Nat) (w : World) (hs : sizedB W n = true) (hf : IL w a n f) (hT : Tab w) (hT2 : T ≤ 1000) (hm : MS w Mb cnt (mR R T J)) (hu : Uq R T J) (ht : frB n f t = true) :
    Calls Tryd.prog 36 #[gr W (hgt W n) a n c, .int .i64 t, .int .i64 (T : Int), .map (some Mb)] w fun e w' => AnsLk W n f R J a c Mb t T w' e ∧ Below w.heap.size w w' := by
  have hn := sized_le hs
  have HANS : Hid (∀ (Db : Nat) (B : Nat → Nat) (D : Nat → Nat → Int) (w' : World), Dt w' Db T n B D 0 → (∀ k, k ≤ T + 1 → ∀ q, q < n → DueIs W n f R J t T k (q : Int) (D k q)) → AnsLk W n f R J a c Mb t T w' (.returned (olv W (hgt W n) a n c Mb t Db (T + 2)))) := fun Db B D w' h1 h2 => ⟨Db, B, D, rfl, h1, h2⟩
  have kD := fun Db B D k p w h1 h2 h3 h4 h5 h6 h7 => dueFrom_any W a n c f R J Mb cnt t Db T B D k p w hs h1 h2 hT2 h3 h4 h5 h6 h7
  have HDUE : Hid (∀ (k p : Nat) (Dn : Nat → Int), k ≤ T → p < n → (∀ q, q < n → DueIs W n f R J t T (k + 1) (q : Int) (Dn q)) → DueIs W n f R J t T k (p : Int) (dfV W n f R J t T k p Dn)) := fun k p Dn h1 h2 h3 => dfV_due hu hs h1 h2 ht h3
  obtain ⟨H, eH⟩ : ∃ H, hgt W n = H := ⟨_, rfl⟩
  rw [eH] at HANS kD ⊢
  clear eH hu ht
  have bG0 := (bx_new (w := w) [.int .i64 W, .int .i64 H, .slice a n c] 68 rfl).alloc (.cells olZ.toArray 75)
  have bR0 := bx_new (w := w.alloc (.cells #[.int .i64 W, .int .i64 H, .slice a n c] 68)) (b := w.heap.size + 1) olZ 75 (by simp)
  have hb2 : Below w.heap.size w ((w.alloc (.cells #[.int .i64 W, .int .i64 H, .slice a n c] 68)).alloc (.cells olZ.toArray 75)) := ((Below.refl _ _).alloc (Nat.le_refl _) _).alloc (by simp) _
  have hmk := run_make_row' (P := Tryd.prog) 29 23 (.slice none 0 0) 24 Tryd.underlying29 infoII rfl .i64 .i64 (T + 2) (by omega) (by omega)
  have hc2 : ((T + 2 : Nat) : Int) = (T : Int) + 2 := by omega
  rw [hc2] at hmk
  obtain ⟨Ln, hLn⟩ : ∃ Ln, T + 2 = Ln := ⟨_, rfl⟩
  have HLn : Hid (T + 2 = Ln) := hLn
  rw [hLn] at hmk kD HANS
  clear hLn
  go_enter Tryd.func36, Tryd.ntmps36
  go_upto_region 1 with fail
  generalize (w.alloc (.cells #[.int .i64 W, .int .i64 H, .slice a n c] 68)).alloc (.cells olZ.toArray 75) = w2 at *
  have x0 := bG0.c0
  have x1 := bG0.c1
  have x2 := bG0.c2
  have l0 := bG0.lt
  clear hc2
  go_cut [9] from 13 to 19 (fun s wx => CutO w2 wx W H a n c Mb t Ln s)
  case first =>
    refine wp_region_held (S := (fun w' => w'.cell? ⟨w.heap.size, 0, none⟩ = some (.int .i64 W) ∧ w'.cell? ⟨w.heap.size, 1, none⟩ = some (.int .i64 H) ∧ w'.cell? ⟨w.heap.size, 2, none⟩ = some (.slice a n c))) (by kernel_rfl) ?_
    change wpAnyH _ _ _ _ _ _ _ _ (World.drew _)
    have hSw := (⟨x0, x1, x2⟩ : _ ∧ _ ∧ _)
    refine wpAnyH_take (i := 0) (v := gr W H a n c) rfl (by kernel_rfl) (by kernel_rfl) (by kernel_rfl) (fun _ _ _ h => h) (Or.inl ⟨by rfl, ?_⟩) hSw ?_
    · intro wz hsz
      obtain ⟨z0, z1, z2⟩ := hsz
      go_simp
    try simp [Act.put]
    refine wpAnyH_take (i := 1) (v := .map (some Mb)) rfl (by kernel_rfl) (by kernel_rfl) (by kernel_rfl) (fun _ _ _ h => h) (Or.inl ⟨by rfl, ?_⟩) hSw ?_
    · intro wz hsz
      obtain ⟨z0, z1, z2⟩ := hsz
      go_simp
    try simp [Act.put]
    refine wpAnyH_take (i := 2) (v := .int .i64 t) rfl (by kernel_rfl) (by kernel_rfl) (by kernel_rfl) (fun _ _ _ h => h) (Or.inl ⟨by rfl, ?_⟩) hSw ?_
    · intro wz hsz
      obtain ⟨z0, z1, z2⟩ := hsz
      go_simp
    try simp [Act.put]
    refine wpAnyH_take (i := 3) (v := .int .i64 (T : Int)) rfl (by kernel_rfl) (by kernel_rfl) (by kernel_rfl) (fun _ _ _ h => h) (Or.inl ⟨by rfl, ?_⟩) hSw ?_
    · intro wz hsz
      obtain ⟨z0, z1, z2⟩ := hsz
      go_simp
    try simp [Act.put]
    refine wpAnyH_take (i := 4) (v := .int .i64 ((T : Int) + 2)) rfl (by kernel_rfl) (by kernel_rfl) (by kernel_rfl) (fun _ _ _ h => h) (Or.inl ⟨by rfl, ?_⟩) hSw ?_
    · intro wz hsz
      obtain ⟨z0, z1, z2⟩ := hsz
      go_simp
      try exact IntWalk.i64_in _ ⟨by omega, by omega⟩
    try simp [Act.put]
    refine wpAnyH_ready (rs := [5, 7]) (by kernel_rfl) (by simp) ?_
    refine AllReadyH.cons rfl (fun K hK => ?_) (AllReadyH.cons rfl (fun K hK => ?_) AllReadyH.nil)
    · go_simp
      have hba : Below w2.heap.size w2 (w2.alloc (.cells (madeCells #[.slice none 0 0] Ln) 23)).drew := ((Below.refl w2.heap.size w2).alloc (Nat.le_refl _) _).drew
      refine hK.out _ _ ⟨(bG0.on hba).c0, (bG0.on hba).c1, (bG0.on hba).c2⟩ (fun hSn => ?_)
      clear hK K hSw
      have hSw := hSn
      clear hSn
      try simp [Act.put]
      refine wpAnyH_take (i := 6) (v := olv W H a n c Mb t w2.heap.size Ln) rfl (by kernel_rfl) (by kernel_rfl) (by kernel_rfl) (fun _ _ _ h => h) (Or.inl ⟨by rfl, ?_⟩) hSw ?_
      · intro wz hsz
        obtain ⟨z0, z1, z2⟩ := hsz
        go_simp
      try simp [Act.put]
      refine wpAnyH_ready (rs := [7]) (by kernel_rfl) (by simp) ?_
      refine AllReadyH.cons rfl (fun K hK => ?_) AllReadyH.nil
      go_simp
      have hbb : Below w2.heap.size w2 ((w2.alloc (.cells (madeCells #[.slice none 0 0] Ln) 23)).alloc (.cells olZ.toArray 75)).drew := (((Below.refl w2.heap.size w2).alloc (Nat.le_refl _) _).alloc (by simp) _).drew
      refine hK.out _ _ ⟨(bG0.on hbb).c0, (bG0.on hbb).c1, (bG0.on hbb).c2⟩ (fun hSn => ?_)
      clear hK K hSw
      have hSw := hSn
      clear hSn
      try simp [Act.put]
      refine wpAnyH_ready (rs := [8]) (by kernel_rfl) (by simp) ?_
      refine AllReadyH.cons rfl (fun K hK => ?_) AllReadyH.nil
      go_simp
      have hbd : Below w2.heap.size w2 ((w2.alloc (.cells (madeCells #[.slice none 0 0] Ln) 23)).alloc (.cells #[.int .i64 W, .int .i64 H, .slice a n c, .map (some Mb), .int .i64 t, .slice (some ⟨w2.heap.size, 0, none⟩) Ln Ln] 75)).drew := (((Below.refl w2.heap.size w2).alloc (Nat.le_refl _) _).alloc (by simp) _).drew
      refine hK.out _ _ ⟨(bG0.on hbd).c0, (bG0.on hbd).c1, (bG0.on hbd).c2⟩ (fun hSn => ?_)
      clear hK K hSw
      have hSw := hSn
      clear hSn
      try simp [Act.put]
      refine wpAnyH_done (by kernel_rfl) ?_ _
      go_wp2_with fail
      go_meet
      case rel => exact cutO_a
    · go_simp
      have hba : Below w2.heap.size w2 (w2.alloc (.cells olZ.toArray 75)).drew := ((Below.refl w2.heap.size w2).alloc (Nat.le_refl _) _).drew
      refine hK.out _ _ ⟨(bG0.on hba).c0, (bG0.on hba).c1, (bG0.on hba).c2⟩ (fun hSn => ?_)
      clear hK K hSw
      have hSw := hSn
      clear hSn
      try simp [Act.put]
      refine wpAnyH_ready (rs := [5]) (by kernel_rfl) (by simp) ?_
      refine AllReadyH.cons rfl (fun K hK => ?_) AllReadyH.nil
      go_simp
      have hbb : Below w2.heap.size w2 ((w2.alloc (.cells olZ.toArray 75)).alloc (.cells (madeCells #[.slice none 0 0] Ln) 23)).drew := (((Below.refl w2.heap.size w2).alloc (Nat.le_refl _) _).alloc (by simp) _).drew
      refine hK.out _ _ ⟨(bG0.on hbb).c0, (bG0.on hbb).c1, (bG0.on hbb).c2⟩ (fun hSn => ?_)
      clear hK K hSw
      have hSw := hSn
      clear hSn
      try simp [Act.put]
      refine wpAnyH_take (i := 6) (v := olv W H a n c Mb t (w2.heap.size + 1) Ln) rfl (by kernel_rfl) (by kernel_rfl) (by kernel_rfl) (fun _ _ _ h => h) (Or.inl ⟨by rfl, ?_⟩) hSw ?_
      · intro wz hsz
        obtain ⟨z0, z1, z2⟩ := hsz
        go_simp
      try simp [Act.put]
      refine wpAnyH_ready (rs := [8]) (by kernel_rfl) (by simp) ?_
      refine AllReadyH.cons rfl (fun K hK => ?_) AllReadyH.nil
      go_simp
      have hbd : Below w2.heap.size w2 ((w2.alloc (.cells #[.int .i64 W, .int .i64 H, .slice a n c, .map (some Mb), .int .i64 t, .slice (some ⟨w2.heap.size + 1, 0, none⟩) Ln Ln] 75)).alloc (.cells (madeCells #[.slice none 0 0] Ln) 23)).drew := (((Below.refl w2.heap.size w2).alloc (Nat.le_refl _) _).alloc (by simp) _).drew
      refine hK.out _ _ ⟨(bG0.on hbd).c0, (bG0.on hbd).c1, (bG0.on hbd).c2⟩ (fun hSn => ?_)
      clear hK K hSw
      have hSw := hSn
      clear hSn
      try simp [Act.put]
      refine wpAnyH_done (by kernel_rfl) ?_ _
      go_wp2_with fail
      go_meet
      case rel => exact cutO_b
  case rest =>
    obtain ⟨Ob, Db, rfl, hOb, hDb, hOD, bO, hNl, hbc⟩ := hcut
    generalize wc = w3 at *
    have bG3 := bG0.on hbc
    have bR3 := bR0.on hbc
    have hB3 := stepA hb2 hbc
    have hMlt : Mb < w.heap.size := MI.lt hm
    have l1 := bR0.lt
    have hs2 := hb2.size
    have hs3 := hbc.size
    have HTn : Hid (∀ wr, Turns Db (Db + 1) w3 wr → IL wr a n f ∧ Tab wr ∧ MS wr Mb cnt (mR R T J) ∧ Below w.heap.size w wr) := fun wr htn => by
      have hB : Below w.heap.size w wr := hB3.trans (htn.below (by omega) (by omega))
      exact ⟨hf.below hB, hT.on hB, MI.on hm hB, hB⟩
    have HRR : Hid (∀ wr, Turns Db (Db + 1) w3 wr → Bx wr (w.heap.size + 1) olZ) := fun wr htn => bR3.turns htn (by omega)
    have lG3 := bG3.lt
    have lR3 := bR3.lt
    have lO3 := bO.lt
    have hlnc : ((Ln : Nat) : Int) = (T : Int) + 2 := by have := HLn.out; omega
    have HL0 : Hid (∀ w6, Below w3.heap.size w3 w6 → Lk w3 w6 W H a n c Mb t T Ob w.heap.size Db f R J (fun _ => 0) (fun _ _ => 0) (T + 1 + 1) (T + 1 + 1)) := fun w6 hb6 => by
      have hN6 := hNl.below hb6 hNl.lt
      have hLe := HLn.out
      refine ⟨by rw [hLe]; exact bO.on hb6, bG3.on hb6, ⟨fun k h1 h2 => by omega, fun k h1 h2 => by omega, hN6.lt⟩, fun k hk => hN6.cell k (by omega), hN6.fz, fun k h1 h2 => by omega, fun k h1 h2 => by omega, turns_of hb6, ⟨lO3, lG3, hNl.lt, hOD, by omega⟩⟩
    clear hmk x0 x1 x2 bG0 bR0 hs2 hs3 l0
    have y5 := bO.c5
    have g2 := bG3.c2
    have i1 : (T : Int) + 1 ≤ 9223372036854775807 := by omega
    have i2 : (T : Int) + 1 < ((Ln : Nat) : Int) := by omega
    have i3 : (0 : Int) ≤ (T : Int) + 1 := by omega
    have hw0 := Below.refl w3.heap.size w3
    have kR := fun xb w h1 h2 => repeat_any ((T : Int) + 1) n xb w (by omega) (by omega) h1 h2
    go_upto_region 2 with fail
    refine wp_region_held (S := (fun w' => w'.cell? ⟨Ob, 5, none⟩ = some (.slice (some ⟨Db, 0, none⟩) Ln Ln) ∧ w'.cell? ⟨w.heap.size, 2, none⟩ = some (.slice a n c))) (by kernel_rfl) ?_
    change wpAnyH _ _ _ _ _ _ _ _ (World.drew _)
    have hSw := (⟨y5, g2⟩ : _ ∧ _)
    refine wpAnyH_take (i := 0) (v := .pointer (some ⟨Ob, 5, none⟩)) rfl (by kernel_rfl) (by kernel_rfl) (by kernel_rfl) (fun _ _ _ h => h) (Or.inl ⟨by rfl, ?_⟩) hSw ?_
    · intro wz hsz
      obtain ⟨z0, z1⟩ := hsz
      go_simp
    try simp [Act.put]
    refine wpAnyH_take (i := 1) (v := .slice (some ⟨Db, 0, none⟩) Ln Ln) rfl (by kernel_rfl) (by kernel_rfl) (by kernel_rfl) (fun _ _ _ h => h) (Or.inl ⟨by rfl, ?_⟩) hSw ?_
    · intro wz hsz
      obtain ⟨z0, z1⟩ := hsz
      go_simp
    try simp [Act.put]
    refine wpAnyH_take (i := 2) (v := .int .i64 (T : Int)) rfl (by kernel_rfl) (by kernel_rfl) (by kernel_rfl) (fun _ _ _ h => h) (Or.inl ⟨by rfl, ?_⟩) hSw ?_
    · intro wz hsz
      obtain ⟨z0, z1⟩ := hsz
      go_simp
    try simp [Act.put]
    refine wpAnyH_take (i := 3) (v := .int .i64 ((T : Int) + 1)) rfl (by kernel_rfl) (by kernel_rfl) (by kernel_rfl) (fun _ _ _ h => h) (Or.inl ⟨by rfl, ?_⟩) hSw ?_
    · intro wz hsz
      obtain ⟨z0, z1⟩ := hsz
      go_simp
      try exact IntWalk.i64_in _ ⟨by omega, by omega⟩
    try simp [Act.put]
    refine wpAnyH_take (i := 4) (v := .int .i64 (T : Int)) rfl (by kernel_rfl) (by kernel_rfl) (by kernel_rfl) (fun _ _ _ h => h) (Or.inl ⟨by rfl, ?_⟩) hSw ?_
    · intro wz hsz
      obtain ⟨z0, z1⟩ := hsz
      go_simp
    try simp [Act.put]
    refine wpAnyH_take (i := 5) (v := .int .i64 ((T : Int) + 1)) rfl (by kernel_rfl) (by kernel_rfl) (by kernel_rfl) (fun _ _ _ h => h) (Or.inl ⟨by rfl, ?_⟩) hSw ?_
    · intro wz hsz
      obtain ⟨z0, z1⟩ := hsz
      go_simp
      try exact IntWalk.i64_in _ ⟨by omega, by omega⟩
    try simp [Act.put]
    refine wpAnyH_take (i := 7) (v := .pointer (some ⟨w.heap.size, 2, none⟩)) rfl (by kernel_rfl) (by kernel_rfl) (by kernel_rfl) (fun _ _ _ h => h) (Or.inl ⟨by rfl, ?_⟩) hSw ?_
    · intro wz hsz
      obtain ⟨z0, z1⟩ := hsz
      go_simp
    try simp [Act.put]
    refine wpAnyH_take (i := 8) (v := .slice a n c) rfl (by kernel_rfl) (by kernel_rfl) (by kernel_rfl) (fun _ _ _ h => h) (Or.inl ⟨by rfl, ?_⟩) hSw ?_
    · intro wz hsz
      obtain ⟨z0, z1⟩ := hsz
      go_simp
    try simp [Act.put]
    refine wpAnyH_take (i := 9) (v := .int .i64 (n : Int)) rfl (by kernel_rfl) (by kernel_rfl) (by kernel_rfl) (fun _ _ _ h => h) (Or.inl ⟨by rfl, ?_⟩) hSw ?_
    · intro wz hsz
      obtain ⟨z0, z1⟩ := hsz
      go_simp
    try simp [Act.put]
    refine wpAnyH_ready (rs := [6]) (by kernel_rfl) (by simp) ?_
    refine AllReadyH.cons rfl (fun K hK => ?_) AllReadyH.nil
    go_simp
    have hba : Below w3.heap.size w3 (w3.alloc (.cells #[.int .i64 ((T : Int) + 1)] 3)).drew := (hw0.alloc (Nat.le_refl _) _).drew
    refine hK.out _ _ (⟨(bO.on hba).c5, (bG3.on hba).c2⟩) (fun hSn => ?_)
    clear hK K hSw
    have hSw := hSn
    clear hSn
    try simp [Act.put]
    have bX := (bx_new (w := w3) (b := w3.heap.size) [.int .i64 ((T : Int) + 1)] 3 rfl).on (Below.refl _ _).drew
    refine wpAnyH_ready (rs := [10]) (by kernel_rfl) (by simp) ?_
    refine AllReadyH.cons rfl (fun K hK => ?_) AllReadyH.nil
    go_simp
    go_wp2_with (first | (go_at_call 63; refine (kR _ _ bX.c0 bX.lt).mono ?_; rintro e w6 ⟨rfl, hip6, hb6⟩) | (fail))
    have hbb := stepA hba hb6
    refine hK.out _ _ (⟨(bO.on hbb).c5, (bG3.on hbb).c2⟩) (fun hSn => ?_)
    clear hK K hSw
    have hSw := hSn
    clear hSn
    try simp [Act.put]
    have hL6 := HL0.out w6 hbb
    have r0 := hL6.rest (T + 1) (by omega)
    have r1 := hL6.fz (T + 1)
    refine wpAnyH_take (i := 11) (v := .pointer (some ⟨Db, T + 1, none⟩)) rfl (by kernel_rfl) (by kernel_rfl) (by kernel_rfl) (fun _ _ _ h => h) (Or.inl ⟨by rfl, ?_⟩) hSw ?_
    · intro wz hsz
      obtain ⟨z0, z1⟩ := hsz
      go_simp
      try (intro h9; omega)
    try simp [Act.put]
    refine wpAnyH_ready (rs := [12]) (by kernel_rfl) (by simp) ?_
    refine AllReadyH.cons rfl (fun K hK => ?_) AllReadyH.nil
    go_simp
    have hip7 : IP w6 (w3.heap.size + 1) n (fun _ => (T : Int) + 1) := by simpa using hip6
    have hL7 := hL6.row (rb := w3.heap.size + 1) hip7 (by omega) (fun q _ => due_end (q : Int))
    generalize w6.setCell ⟨Db, T + 1, none⟩ (.slice (some ⟨w3.heap.size + 1, 0, none⟩) n n) = w7 at *
    refine hK.out _ _ ⟨by have h9 := hL7.ob.c5; rw [HLn.out] at h9; exact h9, hL7.gb.c2⟩ (fun hSn => ?_)
    clear hK K hSw hSn
    try simp [Act.put]
    refine wpAnyH_done (by kernel_rfl) ?_ _
    have HL7 : Hid (∃ (B : Nat → Nat) (D : Nat → Nat → Int), Lk w3 w7 W H a n c Mb t T Ob w.heap.size Db f R J B D (T + 1) (T + 1)) := ⟨_, _, hL7⟩
    clear hL7 hip7 hip6 hL6 r0 r1 bX hb6 hbb hba kR hw0 y5 g2 HL0 i1 i2 i3
    have i1 : (T : Int) + 1 ≤ 9223372036854775807 := by omega
    have hcT : ((T + 1 : Nat) : Int) = (T : Int) + 1 := by omega
    go_wp2
    go_loopw [34] (fun i wr => ∃ (b lo : Nat) (B : Nat → Nat) (D : Nat → Nat → Int), i = .int .i64 (b : Int) ∧ b + lo = T + 1 ∧ Lk w3 wr W H a n c Mb t T Ob w.heap.size Db f R J B D lo lo) (fun i _ => T + 1 - (intOf i).toNat)
    case atStart =>
      obtain ⟨B, D, h9⟩ := HL7.out
      exact ⟨0, T + 1, B, D, rfl, by omega, h9⟩
    case round =>
      obtain ⟨b, lo, B, D, rfl, hbl, hLk⟩ := hrel
      clear HL7
      cases lo with
      | zero =>
        have hbT : b = T + 1 := by omega
        subst hbT
        obtain ⟨-, -, -, hBz⟩ := HTn.out wr hLk.tn
        have bR := HRR.out wr hLk.tn
        have HA := HANS.out Db B D
        have bO4 := hLk.ob
        have hLe := HLn.out
        rw [hLe] at bO4
        have o0 := bO4.c0
        have o1 := bO4.c1
        have o2 := bO4.c2
        have o3 := bO4.c3
        have o4 := bO4.c4
        have o5 := bO4.c5
        have r0 := bR.c0
        have r1 := bR.c1
        have r2 := bR.c2
        have r3 := bR.c3
        have r4 := bR.c4
        have r5 := bR.c5
        have f0 := bR.fz 0
        have f1 := bR.fz 1
        have f2 := bR.fz 2
        have f3 := bR.fz 3
        have f4 := bR.fz 4
        have f5 := bR.fz 5
        have bE := (((((bR.set 0 (by simp) (.int .i64 W)).set 1 (by simp) (.int .i64 H)).set 2 (by simp) (.slice a n c)).set 3 (by simp) (.map (some Mb))).set 4 (by simp) (.int .i64 t)).set 5 (by simp) (.slice (some ⟨Db, 0, none⟩) Ln Ln)
        have lR := bR.lt
        have hBE := (((((hBz.setCell (p := ⟨w.heap.size + 1, 0, none⟩) (by simp) (.int .i64 W)).setCell (p := ⟨w.heap.size + 1, 1, none⟩) (by simp) (.int .i64 H)).setCell (p := ⟨w.heap.size + 1, 2, none⟩) (by simp) (.slice a n c)).setCell (p := ⟨w.heap.size + 1, 3, none⟩) (by simp) (.map (some Mb))).setCell (p := ⟨w.heap.size + 1, 4, none⟩) (by simp) (.int .i64 t)).setCell (p := ⟨w.heap.size + 1, 5, none⟩) (by simp) (.slice (some ⟨Db, 0, none⟩) Ln Ln)
        have hDd : Db < w3.heap.size := hLk.lt.2.2.1
        have hTE : ∀ (v0 v1 v2 v3 v4 v5 : Value), Dt ((((((wr.setCell ⟨w.heap.size + 1, 0, none⟩ v0).setCell ⟨w.heap.size + 1, 1, none⟩ v1).setCell ⟨w.heap.size + 1, 2, none⟩ v2).setCell ⟨w.heap.size + 1, 3, none⟩ v3).setCell ⟨w.heap.size + 1, 4, none⟩ v4).setCell ⟨w.heap.size + 1, 5, none⟩ v5) Db T n B D 0 := fun v0 v1 v2 v3 v4 v5 => by
          have hO := ((((((Only.refl (w.heap.size + 1) wr).set 0 v0).set 1 v1).set 2 v2).set 3 v3).set 4 v4).set 5 v5
          have eD := hO.block Db (by omega)
          refine ⟨fun k h1 h2 => (cell_same eD _).trans (hLk.tab.cell k h1 h2), fun k h1 h2 => ?_, by simpa using hLk.tab.lt⟩
          have hp := hLk.tab.row k h1 h2
          have ho := hLk.own k h1 h2
          have e := hO.block (B k) (by omega)
          exact ⟨by simpa using hp.lt, fun i hi => (cell_same e _).trans (hp.c i hi), fun j => (frozen_same e j).trans (hp.fz j)⟩
        have HFIN : Hid (∀ k, k ≤ T + 1 → ∀ q, q < n → DueIs W n f R J t T k (q : Int) (D k q)) := fun k hk q hq => hLk.due k (Nat.zero_le _) hk q hq
        have HTE := hTE (.int .i64 W) (.int .i64 H) (.slice a n c) (.map (some Mb)) (.int .i64 t) (.slice (some ⟨Db, 0, none⟩) Ln Ln)
        have HTE2 : Hid _ := HTE
        clear hTE HTE hLk bO4 bR hBz
        go_wp2_with fail
        refine ret_ol Tryd.results36 rfl bE rfl ?_
        exact ⟨HA _ HTE2.out HFIN.out, hBE⟩
      | succ tk =>
        have hbT : (T : Int) - (b : Int) = (tk : Int) := by omega
        have htk : tk ≤ T := by omega
        have jb : (b : Int) < (T : Int) + 1 := by omega
        have jt0 : (0 : Int) ≤ (tk : Int) := by omega
        have jtL : (tk : Int) < ((Ln : Nat) : Int) := by omega
        have hmk := run_make_row' (P := Tryd.prog) 23 3 (.int .i64 0) 8 Tryd.underlying23 infoI rfl .i64 .i64 n (by omega) (by omega)
        have hbO : Bx wr Ob (olL W H a n c Mb t Db Ln) := by have h9 := hLk.ob; rw [HLn.out] at h9; exact h9
        have y5 := hbO.c5
        have g2 := hLk.gb.c2
        have hw0 := Below.refl wr.heap.size wr
        have hszr := hLk.tn.size
        have HBk : Hid (∀ k, tk + 1 ≤ k → k ≤ T + 1 → B k ≠ wr.heap.size) := fun k h1 h2 e => by
          have := (hLk.tab.row k h1 h2).lt
          omega
        go_upto_region 7 with fail
        refine wp_region_held (S := (fun w' => w'.cell? ⟨Ob, 5, none⟩ = some (.slice (some ⟨Db, 0, none⟩) Ln Ln) ∧ w'.cell? ⟨w.heap.size, 2, none⟩ = some (.slice a n c))) (by kernel_rfl) ?_
        change wpAnyH _ _ _ _ _ _ _ _ (World.drew _)
        have hSw := (⟨y5, g2⟩ : _ ∧ _)
        refine wpAnyH_take (i := 0) (v := .pointer (some ⟨Ob, 5, none⟩)) rfl (by kernel_rfl) (by kernel_rfl) (by kernel_rfl) (fun _ _ _ h => h) (Or.inl ⟨by rfl, ?_⟩) hSw ?_
        · intro wz hsz
          obtain ⟨z0, z1⟩ := hsz
          go_simp
        try simp [Act.put]
        refine wpAnyH_take (i := 1) (v := .slice (some ⟨Db, 0, none⟩) Ln Ln) rfl (by kernel_rfl) (by kernel_rfl) (by kernel_rfl) (fun _ _ _ h => h) (Or.inl ⟨by rfl, ?_⟩) hSw ?_
        · intro wz hsz
          obtain ⟨z0, z1⟩ := hsz
          go_simp
        try simp [Act.put]
        refine wpAnyH_take (i := 2) (v := .int .i64 (tk : Int)) rfl (by kernel_rfl) (by kernel_rfl) (by kernel_rfl) (fun _ _ _ h => h) (Or.inl ⟨by rfl, ?_⟩) hSw ?_
        · intro wz hsz
          obtain ⟨z0, z1⟩ := hsz
          go_simp
        try simp [Act.put]
        refine wpAnyH_take (i := 3) (v := .pointer (some ⟨w.heap.size, 2, none⟩)) rfl (by kernel_rfl) (by kernel_rfl) (by kernel_rfl) (fun _ _ _ h => h) (Or.inl ⟨by rfl, ?_⟩) hSw ?_
        · intro wz hsz
          obtain ⟨z0, z1⟩ := hsz
          go_simp
        try simp [Act.put]
        refine wpAnyH_take (i := 4) (v := .slice a n c) rfl (by kernel_rfl) (by kernel_rfl) (by kernel_rfl) (fun _ _ _ h => h) (Or.inl ⟨by rfl, ?_⟩) hSw ?_
        · intro wz hsz
          obtain ⟨z0, z1⟩ := hsz
          go_simp
        try simp [Act.put]
        refine wpAnyH_take (i := 5) (v := .int .i64 (n : Int)) rfl (by kernel_rfl) (by kernel_rfl) (by kernel_rfl) (fun _ _ _ h => h) (Or.inl ⟨by rfl, ?_⟩) hSw ?_
        · intro wz hsz
          obtain ⟨z0, z1⟩ := hsz
          go_simp
        try simp [Act.put]
        refine wpAnyH_ready (rs := [6]) (by kernel_rfl) (by simp) ?_
        refine AllReadyH.cons rfl (fun K hK => ?_) AllReadyH.nil
        go_simp
        have hba : Below wr.heap.size wr (wr.alloc (.cells (madeCells #[.int .i64 0] n) 3)).drew := (hw0.alloc (Nat.le_refl _) _).drew
        refine hK.out _ _ (⟨(hbO.on hba).c5, (hLk.gb.on hba).c2⟩) (fun hSn => ?_)
        clear hK K hSw
        have hSw := hSn
        clear hSn
        try simp [Act.put]
        have hip4 : IP (wr.alloc (.cells (madeCells #[.int .i64 0] n) 3)).drew wr.heap.size n (fun _ => 0) := by
          have h9 := row_ip (F := fun _ => 0) ((World.rowIs_made wr (.int .i64 0) n 3).congr fun i _ => rfl)
          exact ⟨h9.lt, fun i hi => h9.c i hi, fun j => h9.fz j⟩
        have hL4 := hLk.on hba
        have r0 := hL4.rest tk (by omega)
        have r1 := hL4.fz tk
        have hb4O := hbO.on hba
        generalize (wr.alloc (.cells (madeCells #[.int .i64 0] n) 3)).drew = w4 at *
        refine wpAnyH_take (i := 7) (v := .pointer (some ⟨Db, tk, none⟩)) rfl (by kernel_rfl) (by kernel_rfl) (by kernel_rfl) (fun _ _ _ h => h) (Or.inl ⟨by rfl, ?_⟩) hSw ?_
        · intro wz hsz
          obtain ⟨z0, z1⟩ := hsz
          go_simp
          try (intro h9; omega)
        try simp [Act.put]
        refine wpAnyH_ready (rs := [8]) (by kernel_rfl) (by simp) ?_
        refine AllReadyH.cons rfl (fun K hK => ?_) AllReadyH.nil
        go_simp
        have hl5 := hL4.lay wr.heap.size
        have hR5 : Lr w3 (w4.setCell ⟨Db, tk, none⟩ (.slice (some ⟨wr.heap.size, 0, none⟩) n n)) W H a n c Mb t T Ob w.heap.size Db f R J B D tk wr.heap.size 0 := by
          have hO : Only Db w4 (w4.setCell ⟨Db, tk, none⟩ (.slice (some ⟨wr.heap.size, 0, none⟩) n n)) := (Only.refl _ _).set tk _
          have e := hO.block wr.heap.size (by have := hL4.lt.2.2.1; omega)
          exact ⟨hl5.1, hl5.2, ⟨by simpa using hip4.lt, fun i hi => by rw [(cell_same e _).trans (hip4.c i hi)]; simp, fun j => (frozen_same e j).trans (hip4.fz j)⟩, hszr, HBk.out⟩
        generalize w4.setCell ⟨Db, tk, none⟩ (.slice (some ⟨wr.heap.size, 0, none⟩) n n) = w5 at *
        refine hK.out _ _ ⟨by have h9 := hR5.lk.ob.c5; rw [HLn.out] at h9; exact h9, hR5.lk.gb.c2⟩ (fun hSn => ?_)
        clear hK K hSw hSn
        try simp [Act.put]
        refine wpAnyH_done (by kernel_rfl) ?_ _
        clear hl5 hL4 r0 r1 hip4 hba hb4O y5 g2
        have hws : w3.heap.size ≤ w5.heap.size := hR5.lk.tn.size
        obtain ⟨rb, hrb⟩ : ∃ rb, rb = wr.heap.size := ⟨_, rfl⟩
        rw [← hrb] at hR5
        have HR5 : Hid (Lr w3 w5 W H a n c Mb t T Ob w.heap.size Db f R J B D tk rb 0) := hR5
        have g2 := hR5.lk.gb.c2
        clear hR5 hrb hLk hbO hw0 HBk hmk
        go_wp2
        clear g2
        go_loopw [51] (fun i wx => ∃ j : Nat, j ≤ n ∧ i = .int .i64 (j : Int) ∧ Lr w3 wx W H a n c Mb t T Ob w.heap.size Db f R J B D tk rb j) (fun i _ => n - (intOf i).toNat)
        case atStart => exact ⟨0, Nat.zero_le _, rfl, HR5.out⟩
        case round =>
          obtain ⟨j, hj, rfl, hR⟩ := hrel
          clear HR5
          by_cases hlt : j < n
          · obtain ⟨hfr, hTr, hmr, -⟩ := HTn.out wr hR.lk.tn
            have hbO : Bx wr Ob (olL W H a n c Mb t Db Ln) := by have h9 := hR.lk.ob; rw [HLn.out] at h9; exact h9
            have y0 := hbO.c0
            have y1 := hbO.c1
            have y2 := hbO.c2
            have y3 := hbO.c3
            have y4 := hbO.c4
            have y5 := hbO.c5
            have hdc := hR.cell
            have hdl := hR.lk.tab.lt
            have hw0 := Below.refl wr.heap.size wr
            have j0 : (0 : Int) ≤ (j : Int) := by omega
            have j1 : (j : Int) < (n : Int) := by omega
            have HBD : Hid (∀ q, q < n → D (tk + 1) q ≤ 100000 ∧ -100000 ≤ D (tk + 1) q) := fun q hq => by
              have h9 := hR.lk.due (tk + 1) (Nat.le_refl _) (by omega) q hq
              have := h9.lo
              have := h9.hi
              omega
            have HSET : Hid (∀ w6, Below wr.heap.size wr w6 → Lr w3 (w6.setCell ⟨rb, j, none⟩ (.int .i64 (dfV W n f R J t T tk j (D (tk + 1))))) W H a n c Mb t T Ob w.heap.size Db f R J B D tk rb (j + 1) ∧ w6.cell? ⟨rb, j, none⟩ = some (.int .i64 0) ∧ w6.frozen? ⟨rb, j, none⟩ = false) := fun w6 hb6 => by
              have h8 := hR.on hb6
              exact ⟨h8.set hlt, by rw [h8.row.c j hlt]; simp, h8.row.fz j⟩
            have kD2 := fun w6 (hb6 : Below wr.heap.size wr w6) => kD Db B D tk j w6 (hfr.below hb6) (hTr.on hb6) (MI.on hmr hb6) (hR.lk.tab.on hb6) htk hlt HBD.out
            go_upto_region 11 with fail
            refine wp_region_held (S := (fun w' => w'.cell? ⟨Ob, 0, none⟩ = some (.int .i64 W) ∧ w'.cell? ⟨Ob, 1, none⟩ = some (.int .i64 H) ∧ w'.cell? ⟨Ob, 2, none⟩ = some (.slice a n c) ∧ w'.cell? ⟨Ob, 3, none⟩ = some (.map (some Mb)) ∧ w'.cell? ⟨Ob, 4, none⟩ = some (.int .i64 t) ∧ w'.cell? ⟨Ob, 5, none⟩ = some (.slice (some ⟨Db, 0, none⟩) Ln Ln) ∧ w'.cell? ⟨Db, tk, none⟩ = some (.slice (some ⟨rb, 0, none⟩) n n))) (by kernel_rfl) ?_
            change wpAnyH _ _ _ _ _ _ _ _ (World.drew _)
            have hSw := (⟨y0, y1, y2, y3, y4, y5, hdc⟩ : _ ∧ _ ∧ _ ∧ _ ∧ _ ∧ _ ∧ _)
            refine wpAnyH_take (i := 0) (v := .pointer (some ⟨Ob, 5, none⟩)) rfl (by kernel_rfl) (by kernel_rfl) (by kernel_rfl) (fun _ _ _ h => h) (Or.inl ⟨by rfl, ?_⟩) hSw ?_
            · intro wz hsz
              obtain ⟨z0, z1, z2, z3, z4, z5, z6⟩ := hsz
              go_simp
            try simp [Act.put]
            refine wpAnyH_take (i := 1) (v := .slice (some ⟨Db, 0, none⟩) Ln Ln) rfl (by kernel_rfl) (by kernel_rfl) (by kernel_rfl) (fun _ _ _ h => h) (Or.inl ⟨by rfl, ?_⟩) hSw ?_
            · intro wz hsz
              obtain ⟨z0, z1, z2, z3, z4, z5, z6⟩ := hsz
              go_simp
            try simp [Act.put]
            refine wpAnyH_take (i := 2) (v := .int .i64 (tk : Int)) rfl (by kernel_rfl) (by kernel_rfl) (by kernel_rfl) (fun _ _ _ h => h) (Or.inl ⟨by rfl, ?_⟩) hSw ?_
            · intro wz hsz
              obtain ⟨z0, z1, z2, z3, z4, z5, z6⟩ := hsz
              go_simp
            try simp [Act.put]
            refine wpAnyH_take (i := 3) (v := .pointer (some ⟨Db, tk, none⟩)) rfl (by kernel_rfl) (by kernel_rfl) (by kernel_rfl) (fun _ _ _ h => h) (Or.inl ⟨by rfl, ?_⟩) hSw ?_
            · intro wz hsz
              obtain ⟨z0, z1, z2, z3, z4, z5, z6⟩ := hsz
              go_simp
              try (intro h9; omega)
            try simp [Act.put]
            refine wpAnyH_take (i := 4) (v := .slice (some ⟨rb, 0, none⟩) n n) rfl (by kernel_rfl) (by kernel_rfl) (by kernel_rfl) (fun _ _ _ h => h) (Or.inl ⟨by rfl, ?_⟩) hSw ?_
            · intro wz hsz
              obtain ⟨z0, z1, z2, z3, z4, z5, z6⟩ := hsz
              go_simp
            try simp [Act.put]
            refine wpAnyH_take (i := 5) (v := .int .i64 (j : Int)) rfl (by kernel_rfl) (by kernel_rfl) (by kernel_rfl) (fun _ _ _ h => h) (Or.inl ⟨by rfl, ?_⟩) hSw ?_
            · intro wz hsz
              obtain ⟨z0, z1, z2, z3, z4, z5, z6⟩ := hsz
              go_simp
            try simp [Act.put]
            refine wpAnyH_take (i := 6) (v := olv W H a n c Mb t Db Ln) rfl (by kernel_rfl) (by kernel_rfl) (by kernel_rfl) (fun _ _ _ h => h) (Or.inl ⟨by rfl, ?_⟩) hSw ?_
            · intro wz hsz
              obtain ⟨z0, z1, z2, z3, z4, z5, z6⟩ := hsz
              go_simp
            try simp [Act.put]
            refine wpAnyH_take (i := 7) (v := .int .i64 (tk : Int)) rfl (by kernel_rfl) (by kernel_rfl) (by kernel_rfl) (fun _ _ _ h => h) (Or.inl ⟨by rfl, ?_⟩) hSw ?_
            · intro wz hsz
              obtain ⟨z0, z1, z2, z3, z4, z5, z6⟩ := hsz
              go_simp
            try simp [Act.put]
            refine wpAnyH_take (i := 8) (v := .int .i64 (j : Int)) rfl (by kernel_rfl) (by kernel_rfl) (by kernel_rfl) (fun _ _ _ h => h) (Or.inl ⟨by rfl, ?_⟩) hSw ?_
            · intro wz hsz
              obtain ⟨z0, z1, z2, z3, z4, z5, z6⟩ := hsz
              go_simp
            try simp [Act.put]
            refine wpAnyH_ready (rs := [9]) (by kernel_rfl) (by simp) ?_
            refine AllReadyH.cons rfl (fun K hK => ?_) AllReadyH.nil
            go_simp
            go_wp2_with (first | (go_at_call 64; refine (kD2 _ hw0.drew).mono ?_; rintro e w6 ⟨rfl, hb6⟩) | (fail))
            have hbb := stepA hw0.drew hb6
            refine hK.out _ _ (⟨(hbO.on hbb).c0, (hbO.on hbb).c1, (hbO.on hbb).c2, (hbO.on hbb).c3, (hbO.on hbb).c4, (hbO.on hbb).c5, (hbb.cell (p := ⟨Db, tk, none⟩) hdl).trans hdc⟩) (fun hSn => ?_)
            clear hK K hSw
            have hSw := hSn
            clear hSn
            try simp [Act.put]
            obtain ⟨hR8, r0, r1⟩ := HSET.out w6 hbb
            refine wpAnyH_take (i := 10) (v := .pointer (some ⟨rb, j, none⟩)) rfl (by kernel_rfl) (by kernel_rfl) (by kernel_rfl) (fun _ _ _ h => h) (Or.inl ⟨by rfl, ?_⟩) hSw ?_
            · intro wz hsz
              obtain ⟨z0, z1, z2, z3, z4, z5, z6⟩ := hsz
              go_simp
              try (intro h9; omega)
            try simp [Act.put]
            refine wpAnyH_ready (rs := [11]) (by kernel_rfl) (by simp) ?_
            refine AllReadyH.cons rfl (fun K hK => ?_) AllReadyH.nil
            go_simp
            generalize w6.setCell ⟨rb, j, none⟩ (.int .i64 (dfV W n f R J t T tk j (D (tk + 1)))) = w8 at *
            have hO8 : Bx w8 Ob (olL W H a n c Mb t Db Ln) := by have h9 := hR8.lk.ob; rw [HLn.out] at h9; exact h9
            refine hK.out _ _ ⟨hO8.c0, hO8.c1, hO8.c2, hO8.c3, hO8.c4, hO8.c5, hR8.cell⟩ (fun hSn => ?_)
            clear hK K hSw hSn
            try simp [Act.put]
            refine wpAnyH_done (by kernel_rfl) ?_ _
            clear r0 r1 hO8 hb6 hbb HSET kD2 hR hbO y0 y1 y2 y3 y4 y5 hdc hw0 HBD
            go_wp2
            exact ⟨⟨j + 1, by omega, by go_num, hR8⟩, by simp [intOf]; omega⟩
          · have hje : j = n := by omega
            subst hje
            have hK9 := hR.done (fun q hq => HDUE.out tk q (D (tk + 1)) htk hq (fun q' hq' => hR.lk.due (tk + 1) (Nat.le_refl _) (by omega) q' hq'))
            have HK9 : Hid (∃ (B : Nat → Nat) (D : Nat → Nat → Int), Lk w3 wr W H a j c Mb t T Ob w.heap.size Db f R J B D tk tk) := ⟨_, _, hK9⟩
            clear hR hK9
            go_wp2
            obtain ⟨B9, D9, h9⟩ := HK9.out
            exact ⟨⟨b + 1, tk, B9, D9, by go_num, by omega, h9⟩, by simp [intOf]; omega⟩

end Go.Proofs.YtbndhhjgjalecaaDoor
