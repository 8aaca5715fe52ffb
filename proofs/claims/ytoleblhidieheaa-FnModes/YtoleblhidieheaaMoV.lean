/- Events taken one behind the other: the program's side. -/
import Derived.Test.YtoleblhidieheaaMoU
import Derived.Test.YtoleblhidieheaaMoR
import Derived.Defers
namespace Go.Proofs.Ytoleblhidieheaa
open Go.RowKit Go.MuLone
theorem nxM_fail {N : Nat → ByteArray} {nn : Nat} {m : Int} {l : List ByteArray} {k p : ByteArray} (h : k.toList = [102, 97, 105, 108]) : nxF l k p = addL p l ∧ nxM N nn m l k p = mFail (inS N p nn) (inL l p) m := nx_fail h
theorem nxM_mend {N : Nat → ByteArray} {nn : Nat} {m : Int} {l : List ByteArray} {k p : ByteArray} (h : k.toList = [109, 101, 110, 100]) : nxF l k p = delL p l ∧ nxM N nn m l k p = mMend (inS N p nn) (illB N nn (delL p l)) m := nx_mend h
/-- a statement whose only way out is its end -/
def onlyN (K : Act → World → Prop) : Exit → Act → World → Prop
  | .normal, a, w => K a w
  | _, _, _ => False
theorem wp_normal {P : Program} {c : Code} {Q : Exit → Act → World → Prop} {a : Act} {w : World} (h : c.wp P (onlyN (Q .normal)) a w) : c.wp P Q a w :=
  Code.wp_mono (fun e a w k => by cases e <;> first | exact k | exact absurd k id) h
theorem evb {w : World} (k p : ByteArray) : Bx (w.alloc (.cells #[.string k, .string p] 32)) w.heap.size [.string k, .string p] := bx_new (w := w) [.string k, .string p] 32 rfl
set_option maxRecDepth 20000 in
set_option maxHeartbeats 4000000 in
theorem take_any (B : Nat) (m : Int) (b : Option Addr) (nn d : Nat) (N : Nat → ByteArray) (a : Option Addr) (c : Nat) (l : List ByteArray) (kd x : ByteArray) (w : World) (hx : x.size ≤ 1048576) (hl : l.length ≤ 60) (h : Hs w B 0 m b nn d N a c l) :
    Calls Try.prog 24 #[.pointer (some ⟨B, 0, none⟩), .agg #[.string kd, .string x]] w fun e w' => e = .returned (.tuple #[]) ∧ AnsHe w w' B 0 (nxM N nn m l kd x) b nn d N (nxF l kd x) := by
  have hbt : Below w.heap.size w (w.alloc (.cells #[.string kd, .string x] 32)) := (Below.refl _ _).alloc (Nat.le_refl _) _
  have hBl0 := h.bx.lt
  have h2 := h.on hbt
  have k2 := evb (w := w) kd x
  have hB2 : Below B w (w.alloc (.cells #[.string kd, .string x] 32)) := (Below.refl B w).alloc (Nat.le_of_lt hBl0) _
  have hKB : w.heap.size ≠ B := by omega
  have h4 := h2.lock 1
  have hB4 := hB2.setCell (p := ⟨B, 0, none⟩) (Nat.le_refl _) (.int .i32 1)
  have k4 := k2.far (k := 0) (.int .i32 1) hKB
  have kL := lock_free muLib ⟨B, 0, none⟩ _ h2.at.1 (h2.bx.fz 0)
  clear hbt h h2 k2 hB2
  generalize hw2 : w.alloc (.cells #[.string kd, .string x] 32) = w2 at *
  obtain ⟨w4, hw4⟩ : ∃ w4, w4 = w2.setCell ⟨B, 0, none⟩ (.int .i32 1) := ⟨_, rfl⟩
  rw [← hw4] at h4 hB4 k4
  have HW4 : Hid (w4 = w2.setCell ⟨B, 0, none⟩ (.int .i32 1)) := hw4
  clear hw4
  have kz0 := k4.c0
  have kz1 := k4.c1
  have kzl := k4.lt
  by_cases ef : kd.toList = [102, 97, 105, 108]
  · have hn := nxM_fail (N := N) (nn := nn) (m := m) (l := l) (p := x) ef
    have kF := fail_any B 1 m b nn d N a c l x w4 hx hl h4
    rw [← hn.1, ← hn.2] at kF
    clear h4 k4
    clear hn
    go_enter_defers Try.func24, Try.ntmps24
    go_wp2_with (first | (go_at_call 37; refine kL.mono ?_; rintro e w9 ⟨rfl, hw9⟩; rw [← HW4.out] at hw9; subst hw9) | (go_at_call 39; refine kF.mono ?_; rintro e w5 ⟨rfl, ⟨a5, c5, h9⟩, hb5⟩) | fail)
    have hB9 := hB4.trans hb5
    refine leaves_cons (f := 38) (args := #[.pointer (some ⟨B, 0, none⟩)]) (by simp) (by simp [go_sem]) ?_
    refine (unlock_deferred muLib ⟨B, 0, none⟩ .returning _ h9.at.1 (h9.bx.fz 0)).mono ?_
    rintro e9 u9 w9 ⟨rfl, rfl, rfl⟩
    exact ⟨_, results_none rfl _ _ _, rfl, ⟨_, _, h9.lock 0⟩, hB9.setCell (p := ⟨B, 0, none⟩) (Nat.le_refl _) _⟩
  by_cases em : kd.toList = [109, 101, 110, 100]
  · have hn := nxM_mend (N := N) (nn := nn) (m := m) (l := l) (p := x) em
    have kF := mend_any B 1 m b nn d N a c l x w4 hl h4
    rw [← hn.2, ← hn.1] at kF
    clear h4 k4 hn
    go_enter_defers Try.func24, Try.ntmps24
    go_wp2_with (first | (go_at_call 37; refine kL.mono ?_; rintro e w9 ⟨rfl, hw9⟩; rw [← HW4.out] at hw9; subst hw9) | (go_at_call 40; refine kF.mono ?_; rintro e w5 ⟨rfl, ⟨a5, c5, h9⟩, hb5⟩) | fail)
    have hB9 := hB4.trans hb5
    refine leaves_cons (f := 38) (args := #[.pointer (some ⟨B, 0, none⟩)]) (by simp) (by simp [go_sem]) ?_
    refine (unlock_deferred muLib ⟨B, 0, none⟩ .returning _ h9.at.1 (h9.bx.fz 0)).mono ?_
    rintro e9 u9 w9 ⟨rfl, rfl, rfl⟩
    exact ⟨_, results_none rfl _ _ _, rfl, ⟨_, _, h9.lock 0⟩, hB9.setCell (p := ⟨B, 0, none⟩) (Nat.le_refl _) _⟩
  have ff : (kd.toList == [102, 97, 105, 108]) = false := beq_eq_false_iff_ne.mpr ef
  have fm : (kd.toList == [109, 101, 110, 100]) = false := beq_eq_false_iff_ne.mpr em
  by_cases eg : kd.toList = [103, 111]
  · have hn := nx_heal (N := N) (nn := nn) (m := m) (l := l) (p := x) (.inr eg)
    have kK := lacks_any B 1 m b nn d N a c l w4 h4
    obtain ⟨I, hI⟩ : ∃ I, illB N nn l = I := ⟨_, rfl⟩
    rw [hI] at kK hn
    have HN : Hid (nxF l kd x = l ∧ nxM N nn m l kd x = if I = true then m else msV m kd) := hn
    clear hn hI
    cases I with
    | true =>
      go_enter_defers Try.func24, Try.ntmps24
      go_wp2_with (first | (go_at_call 37; refine kL.mono ?_; rintro e w9 ⟨rfl, hw9⟩; rw [← HW4.out] at hw9; subst hw9) | (go_at_call 41; refine kK.mono ?_; rintro e w5 ⟨rfl, hb5⟩) | fail)
      have h9 := h4.on hb5
      have hB9 := bel_on hB4 hb5 (Nat.le_of_lt h4.bx.lt)
      refine leaves_cons (f := 38) (args := #[.pointer (some ⟨B, 0, none⟩)]) (by simp) (by simp [go_sem]) ?_
      refine (unlock_deferred muLib ⟨B, 0, none⟩ .returning _ h9.at.1 (h9.bx.fz 0)).mono ?_
      rintro e9 u9 w9 ⟨rfl, rfl, rfl⟩
      exact ⟨_, results_none rfl _ _ _, rfl, by rw [HN.out.1, HN.out.2]; exact ⟨⟨_, _, h9.lock 0⟩, hB9.setCell (p := ⟨B, 0, none⟩) (Nat.le_refl _) _⟩⟩
    | false =>
      go_enter_defers Try.func24, Try.ntmps24
      go_upto_region 12 with (first | (go_at_call 37; refine kL.mono ?_; rintro e w9 ⟨rfl, hw9⟩; rw [← HW4.out] at hw9; subst hw9) | (go_at_call 41; refine kK.mono ?_; rintro e w5 ⟨rfl, hb5⟩) | fail)
      replace k4 := k4.on hb5
      replace hB4 := bel_on hB4 hb5 (Nat.le_of_lt h4.bx.lt)
      replace h4 := h4.on hb5
      clear kz0 kz1 kzl HW4 kK hb5
      obtain ⟨w7, hw7⟩ : ∃ x, x = w5 := ⟨_, rfl⟩
      subst hw7
      have hdr : Below w7.heap.size w7 w7.drew := (Below.refl _ _).drew
      have h5 := h4.on hdr
      have hB5 := bel_on hB4 hdr (Nat.le_of_lt h4.bx.lt)
      have k5 := k4.on hdr
      have kM := iStep m kd w7.drew
      obtain ⟨c0, c1, c2, c3, c4_⟩ := h5.at
      have f2 := h5.bx.fz 2
      have hBl := h5.bx.lt
      have kk5 := k5.c0
      refine wp_normal ?_
      refine wp_region_held (S := (fun w' => w'.cell? ⟨w.heap.size, 0, none⟩ = some (.string kd) ∧ w'.cell? ⟨w.heap.size, 1, none⟩ = some (.string x))) (by kernel_rfl) ?_
      change wpAnyH _ _ _ _ _ _ _ _ (World.drew _)
      have hSw := (⟨k5.c0, k5.c1⟩ : _ ∧ _)
      refine wpAnyH_take (i := 0) (v := .pointer (some ⟨B, 0, none⟩)) rfl (by kernel_rfl) (by kernel_rfl) (by kernel_rfl) (fun _ _ _ h => h) (Or.inl ⟨by rfl, ?_⟩) hSw ?_
      · intro wz hsz
        obtain ⟨hk8, hk9⟩ := hsz
        go_simp
      try simp [Act.put]
      refine wpAnyH_take (i := 1) (v := .pointer (some ⟨B, 0, none⟩)) rfl (by kernel_rfl) (by kernel_rfl) (by kernel_rfl) (fun _ _ _ h => h) (Or.inl ⟨by rfl, ?_⟩) hSw ?_
      · intro wz hsz
        obtain ⟨hk8, hk9⟩ := hsz
        go_simp
      try simp [Act.put]
      refine wpAnyH_take (i := 2) (v := .pointer (some ⟨B, 0, none⟩)) rfl (by kernel_rfl) (by kernel_rfl) (by kernel_rfl) (fun _ _ _ h => h) (Or.inl ⟨by rfl, ?_⟩) hSw ?_
      · intro wz hsz
        obtain ⟨hk8, hk9⟩ := hsz
        go_simp
      try simp [Act.put]
      refine wpAnyH_take (i := 3) (v := .pointer (some ⟨B, 2, none⟩)) rfl (by kernel_rfl) (by kernel_rfl) (by kernel_rfl) (fun _ _ _ h => h) (Or.inl ⟨by rfl, ?_⟩) hSw ?_
      · intro wz hsz
        obtain ⟨hk8, hk9⟩ := hsz
        go_simp
      try simp [Act.put]
      refine wpAnyH_take (i := 5) (v := .pointer (some ⟨w.heap.size, 0, none⟩)) rfl (by kernel_rfl) (by kernel_rfl) (by kernel_rfl) (fun _ _ _ h => h) (Or.inl ⟨by rfl, ?_⟩) hSw ?_
      · intro wz hsz
        obtain ⟨hk8, hk9⟩ := hsz
        go_simp
      try simp [Act.put]
      refine wpAnyH_take (i := 6) (v := .string kd) rfl (by kernel_rfl) (by kernel_rfl) (by kernel_rfl) (fun _ _ _ h => h) (Or.inl ⟨by rfl, ?_⟩) hSw ?_
      · intro wz hsz
        obtain ⟨hk8, hk9⟩ := hsz
        go_simp
      try simp [Act.put]
      refine wpAnyH_ready (rs := [4]) (by kernel_rfl) (by simp) ?_
      refine AllReadyH.cons rfl (fun K9 hK => ?_) AllReadyH.nil
      go_simp
      refine hK.out _ _ (hSw) (fun hSn => ?_)
      clear hK K9 hSw
      have hSw := hSn
      clear hSn
      try simp [Act.put]
      refine wpAnyH_ready (rs := [7]) (by kernel_rfl) (by simp) ?_
      refine AllReadyH.cons rfl (fun K9 hK => ?_) AllReadyH.nil
      go_simp
      go_at_call 10
      refine kM.mono ?_
      rintro e9 w9 ⟨rfl, hw9⟩
      have hs' := hw9.symm
      clear hw9
      subst hs'
      refine hK.out _ _ (hSw) (fun hSn => ?_)
      clear hK K9 hSw
      have hSw := hSn
      clear hSn
      try simp [Act.put]
      refine wpAnyH_take (i := 8) (v := .pointer (some ⟨B, 0, none⟩)) rfl (by kernel_rfl) (by kernel_rfl) (by kernel_rfl) (fun _ _ _ h => h) (Or.inl ⟨by rfl, ?_⟩) hSw ?_
      · intro wz hsz
        obtain ⟨hk8, hk9⟩ := hsz
        go_simp
      try simp [Act.put]
      refine wpAnyH_take (i := 9) (v := .pointer (some ⟨B, 2, none⟩)) rfl (by kernel_rfl) (by kernel_rfl) (by kernel_rfl) (fun _ _ _ h => h) (Or.inl ⟨by rfl, ?_⟩) hSw ?_
      · intro wz hsz
        obtain ⟨hk8, hk9⟩ := hsz
        go_simp
      try simp [Act.put]
      refine wpAnyH_ready (rs := [10]) (by kernel_rfl) (by simp) ?_
      refine AllReadyH.cons rfl (fun K9 hK => ?_) AllReadyH.nil
      go_simp
      refine hK.out _ _ (⟨(k5.far (.int .i64 (msV m kd)) hKB).c0, (k5.far (.int .i64 (msV m kd)) hKB).c1⟩) (fun hSn => ?_)
      clear hK K9 hSw
      have hSw := hSn
      clear hSn
      try simp [Act.put]
      refine wpAnyH_done (by kernel_rfl) ?_ _
      simp only [onlyN]
      have h9 := h5.mode (msV m kd)
      have hB9 : Below B w _ := hB5.setCell (p := ⟨B, 2, none⟩) (Nat.le_refl _) (.int .i64 (msV m kd))
      clear h5 hB5 k5 kM c0 c1 c2 c3 c4_ f2 kk5 hSw h4 hB4 k4
      go_wp2_with fail
      refine leaves_cons (f := 38) (args := #[.pointer (some ⟨B, 0, none⟩)]) (by simp) (by simp [go_sem]) ?_
      refine (unlock_deferred muLib ⟨B, 0, none⟩ .returning _ h9.at.1 (h9.bx.fz 0)).mono ?_
      rintro e9 u9 w9 ⟨rfl, rfl, rfl⟩
      exact ⟨_, results_none rfl _ _ _, rfl, by rw [HN.out.1, HN.out.2]; exact ⟨⟨_, _, h9.lock 0⟩, hB9.setCell (p := ⟨B, 0, none⟩) (Nat.le_refl _) _⟩⟩
  by_cases eh : kd.toList = [104, 101, 97, 108]
  · have hn := nx_heal (N := N) (nn := nn) (m := m) (l := l) (p := x) (.inl eh)
    have kK := lacks_any B 1 m b nn d N a c l w4 h4
    obtain ⟨I, hI⟩ : ∃ I, illB N nn l = I := ⟨_, rfl⟩
    rw [hI] at kK hn
    have HN : Hid (nxF l kd x = l ∧ nxM N nn m l kd x = if I = true then m else msV m kd) := hn
    clear hn hI
    cases I with
    | true =>
      go_enter_defers Try.func24, Try.ntmps24
      go_wp2_with (first | (go_at_call 37; refine kL.mono ?_; rintro e w9 ⟨rfl, hw9⟩; rw [← HW4.out] at hw9; subst hw9) | (go_at_call 41; refine kK.mono ?_; rintro e w5 ⟨rfl, hb5⟩) | fail)
      have h9 := h4.on hb5
      have hB9 := bel_on hB4 hb5 (Nat.le_of_lt h4.bx.lt)
      refine leaves_cons (f := 38) (args := #[.pointer (some ⟨B, 0, none⟩)]) (by simp) (by simp [go_sem]) ?_
      refine (unlock_deferred muLib ⟨B, 0, none⟩ .returning _ h9.at.1 (h9.bx.fz 0)).mono ?_
      rintro e9 u9 w9 ⟨rfl, rfl, rfl⟩
      exact ⟨_, results_none rfl _ _ _, rfl, by rw [HN.out.1, HN.out.2]; exact ⟨⟨_, _, h9.lock 0⟩, hB9.setCell (p := ⟨B, 0, none⟩) (Nat.le_refl _) _⟩⟩
    | false =>
      go_enter_defers Try.func24, Try.ntmps24
      go_upto_region 12 with (first | (go_at_call 37; refine kL.mono ?_; rintro e w9 ⟨rfl, hw9⟩; rw [← HW4.out] at hw9; subst hw9) | (go_at_call 41; refine kK.mono ?_; rintro e w5 ⟨rfl, hb5⟩) | fail)
      replace k4 := k4.on hb5
      replace hB4 := bel_on hB4 hb5 (Nat.le_of_lt h4.bx.lt)
      replace h4 := h4.on hb5
      clear kz0 kz1 kzl HW4 kK hb5
      obtain ⟨w7, hw7⟩ : ∃ x, x = w5 := ⟨_, rfl⟩
      subst hw7
      have hdr : Below w7.heap.size w7 w7.drew := (Below.refl _ _).drew
      have h5 := h4.on hdr
      have hB5 := bel_on hB4 hdr (Nat.le_of_lt h4.bx.lt)
      have k5 := k4.on hdr
      have kM := iStep m kd w7.drew
      obtain ⟨c0, c1, c2, c3, c4_⟩ := h5.at
      have f2 := h5.bx.fz 2
      have hBl := h5.bx.lt
      have kk5 := k5.c0
      refine wp_normal ?_
      refine wp_region_held (S := (fun w' => w'.cell? ⟨w.heap.size, 0, none⟩ = some (.string kd) ∧ w'.cell? ⟨w.heap.size, 1, none⟩ = some (.string x))) (by kernel_rfl) ?_
      change wpAnyH _ _ _ _ _ _ _ _ (World.drew _)
      have hSw := (⟨k5.c0, k5.c1⟩ : _ ∧ _)
      refine wpAnyH_take (i := 0) (v := .pointer (some ⟨B, 0, none⟩)) rfl (by kernel_rfl) (by kernel_rfl) (by kernel_rfl) (fun _ _ _ h => h) (Or.inl ⟨by rfl, ?_⟩) hSw ?_
      · intro wz hsz
        obtain ⟨hk8, hk9⟩ := hsz
        go_simp
      try simp [Act.put]
      refine wpAnyH_take (i := 1) (v := .pointer (some ⟨B, 0, none⟩)) rfl (by kernel_rfl) (by kernel_rfl) (by kernel_rfl) (fun _ _ _ h => h) (Or.inl ⟨by rfl, ?_⟩) hSw ?_
      · intro wz hsz
        obtain ⟨hk8, hk9⟩ := hsz
        go_simp
      try simp [Act.put]
      refine wpAnyH_take (i := 2) (v := .pointer (some ⟨B, 0, none⟩)) rfl (by kernel_rfl) (by kernel_rfl) (by kernel_rfl) (fun _ _ _ h => h) (Or.inl ⟨by rfl, ?_⟩) hSw ?_
      · intro wz hsz
        obtain ⟨hk8, hk9⟩ := hsz
        go_simp
      try simp [Act.put]
      refine wpAnyH_take (i := 3) (v := .pointer (some ⟨B, 2, none⟩)) rfl (by kernel_rfl) (by kernel_rfl) (by kernel_rfl) (fun _ _ _ h => h) (Or.inl ⟨by rfl, ?_⟩) hSw ?_
      · intro wz hsz
        obtain ⟨hk8, hk9⟩ := hsz
        go_simp
      try simp [Act.put]
      refine wpAnyH_take (i := 5) (v := .pointer (some ⟨w.heap.size, 0, none⟩)) rfl (by kernel_rfl) (by kernel_rfl) (by kernel_rfl) (fun _ _ _ h => h) (Or.inl ⟨by rfl, ?_⟩) hSw ?_
      · intro wz hsz
        obtain ⟨hk8, hk9⟩ := hsz
        go_simp
      try simp [Act.put]
      refine wpAnyH_take (i := 6) (v := .string kd) rfl (by kernel_rfl) (by kernel_rfl) (by kernel_rfl) (fun _ _ _ h => h) (Or.inl ⟨by rfl, ?_⟩) hSw ?_
      · intro wz hsz
        obtain ⟨hk8, hk9⟩ := hsz
        go_simp
      try simp [Act.put]
      refine wpAnyH_ready (rs := [4]) (by kernel_rfl) (by simp) ?_
      refine AllReadyH.cons rfl (fun K9 hK => ?_) AllReadyH.nil
      go_simp
      refine hK.out _ _ (hSw) (fun hSn => ?_)
      clear hK K9 hSw
      have hSw := hSn
      clear hSn
      try simp [Act.put]
      refine wpAnyH_ready (rs := [7]) (by kernel_rfl) (by simp) ?_
      refine AllReadyH.cons rfl (fun K9 hK => ?_) AllReadyH.nil
      go_simp
      go_at_call 10
      refine kM.mono ?_
      rintro e9 w9 ⟨rfl, hw9⟩
      have hs' := hw9.symm
      clear hw9
      subst hs'
      refine hK.out _ _ (hSw) (fun hSn => ?_)
      clear hK K9 hSw
      have hSw := hSn
      clear hSn
      try simp [Act.put]
      refine wpAnyH_take (i := 8) (v := .pointer (some ⟨B, 0, none⟩)) rfl (by kernel_rfl) (by kernel_rfl) (by kernel_rfl) (fun _ _ _ h => h) (Or.inl ⟨by rfl, ?_⟩) hSw ?_
      · intro wz hsz
        obtain ⟨hk8, hk9⟩ := hsz
        go_simp
      try simp [Act.put]
      refine wpAnyH_take (i := 9) (v := .pointer (some ⟨B, 2, none⟩)) rfl (by kernel_rfl) (by kernel_rfl) (by kernel_rfl) (fun _ _ _ h => h) (Or.inl ⟨by rfl, ?_⟩) hSw ?_
      · intro wz hsz
        obtain ⟨hk8, hk9⟩ := hsz
        go_simp
      try simp [Act.put]
      refine wpAnyH_ready (rs := [10]) (by kernel_rfl) (by simp) ?_
      refine AllReadyH.cons rfl (fun K9 hK => ?_) AllReadyH.nil
      go_simp
      refine hK.out _ _ (⟨(k5.far (.int .i64 (msV m kd)) hKB).c0, (k5.far (.int .i64 (msV m kd)) hKB).c1⟩) (fun hSn => ?_)
      clear hK K9 hSw
      have hSw := hSn
      clear hSn
      try simp [Act.put]
      refine wpAnyH_done (by kernel_rfl) ?_ _
      simp only [onlyN]
      have h9 := h5.mode (msV m kd)
      have hB9 : Below B w _ := hB5.setCell (p := ⟨B, 2, none⟩) (Nat.le_refl _) (.int .i64 (msV m kd))
      clear h5 hB5 k5 kM c0 c1 c2 c3 c4_ f2 kk5 hSw h4 hB4 k4
      go_wp2_with fail
      refine leaves_cons (f := 38) (args := #[.pointer (some ⟨B, 0, none⟩)]) (by simp) (by simp [go_sem]) ?_
      refine (unlock_deferred muLib ⟨B, 0, none⟩ .returning _ h9.at.1 (h9.bx.fz 0)).mono ?_
      rintro e9 u9 w9 ⟨rfl, rfl, rfl⟩
      exact ⟨_, results_none rfl _ _ _, rfl, by rw [HN.out.1, HN.out.2]; exact ⟨⟨_, _, h9.lock 0⟩, hB9.setCell (p := ⟨B, 0, none⟩) (Nat.le_refl _) _⟩⟩
  have fg : (kd.toList == [103, 111]) = false := beq_eq_false_iff_ne.mpr eg
  have fh : (kd.toList == [104, 101, 97, 108]) = false := beq_eq_false_iff_ne.mpr eh
  have hn := nx_else (N := N) (nn := nn) (m := m) (l := l) (p := x) ef em eh eg
  have HN : Hid (nxF l kd x = l ∧ nxM N nn m l kd x = msV m kd) := hn
  clear hn
  go_enter_defers Try.func24, Try.ntmps24
  go_upto_region 4 with (first | (go_at_call 37; refine kL.mono ?_; rintro e w9 ⟨rfl, hw9⟩; rw [← HW4.out] at hw9; subst hw9) | fail)
  clear kz0 kz1 kzl HW4
  obtain ⟨w7, hw7⟩ : ∃ x, x = w9 := ⟨_, rfl⟩
  subst hw7
  have hdr : Below w7.heap.size w7 w7.drew := (Below.refl _ _).drew
  have h5 := h4.on hdr
  have hB5 := bel_on hB4 hdr (Nat.le_of_lt h4.bx.lt)
  have k5 := k4.on hdr
  have kM := iStep m kd w7.drew
  obtain ⟨c0, c1, c2, c3, c4_⟩ := h5.at
  have f2 := h5.bx.fz 2
  have hBl := h5.bx.lt
  have kk5 := k5.c0
  refine wp_normal ?_
  refine wp_region_held (S := (fun w' => w'.cell? ⟨w.heap.size, 0, none⟩ = some (.string kd) ∧ w'.cell? ⟨w.heap.size, 1, none⟩ = some (.string x))) (by kernel_rfl) ?_
  change wpAnyH _ _ _ _ _ _ _ _ (World.drew _)
  have hSw := (⟨k5.c0, k5.c1⟩ : _ ∧ _)
  refine wpAnyH_take (i := 0) (v := .pointer (some ⟨B, 0, none⟩)) rfl (by kernel_rfl) (by kernel_rfl) (by kernel_rfl) (fun _ _ _ h => h) (Or.inl ⟨by rfl, ?_⟩) hSw ?_
  · intro wz hsz
    obtain ⟨hk8, hk9⟩ := hsz
    go_simp
  try simp [Act.put]
  refine wpAnyH_take (i := 1) (v := .pointer (some ⟨B, 0, none⟩)) rfl (by kernel_rfl) (by kernel_rfl) (by kernel_rfl) (fun _ _ _ h => h) (Or.inl ⟨by rfl, ?_⟩) hSw ?_
  · intro wz hsz
    obtain ⟨hk8, hk9⟩ := hsz
    go_simp
  try simp [Act.put]
  refine wpAnyH_take (i := 2) (v := .pointer (some ⟨B, 0, none⟩)) rfl (by kernel_rfl) (by kernel_rfl) (by kernel_rfl) (fun _ _ _ h => h) (Or.inl ⟨by rfl, ?_⟩) hSw ?_
  · intro wz hsz
    obtain ⟨hk8, hk9⟩ := hsz
    go_simp
  try simp [Act.put]
  refine wpAnyH_take (i := 3) (v := .pointer (some ⟨B, 2, none⟩)) rfl (by kernel_rfl) (by kernel_rfl) (by kernel_rfl) (fun _ _ _ h => h) (Or.inl ⟨by rfl, ?_⟩) hSw ?_
  · intro wz hsz
    obtain ⟨hk8, hk9⟩ := hsz
    go_simp
  try simp [Act.put]
  refine wpAnyH_take (i := 5) (v := .pointer (some ⟨w.heap.size, 0, none⟩)) rfl (by kernel_rfl) (by kernel_rfl) (by kernel_rfl) (fun _ _ _ h => h) (Or.inl ⟨by rfl, ?_⟩) hSw ?_
  · intro wz hsz
    obtain ⟨hk8, hk9⟩ := hsz
    go_simp
  try simp [Act.put]
  refine wpAnyH_take (i := 6) (v := .string kd) rfl (by kernel_rfl) (by kernel_rfl) (by kernel_rfl) (fun _ _ _ h => h) (Or.inl ⟨by rfl, ?_⟩) hSw ?_
  · intro wz hsz
    obtain ⟨hk8, hk9⟩ := hsz
    go_simp
  try simp [Act.put]
  refine wpAnyH_ready (rs := [4]) (by kernel_rfl) (by simp) ?_
  refine AllReadyH.cons rfl (fun K9 hK => ?_) AllReadyH.nil
  go_simp
  refine hK.out _ _ (hSw) (fun hSn => ?_)
  clear hK K9 hSw
  have hSw := hSn
  clear hSn
  try simp [Act.put]
  refine wpAnyH_ready (rs := [7]) (by kernel_rfl) (by simp) ?_
  refine AllReadyH.cons rfl (fun K9 hK => ?_) AllReadyH.nil
  go_simp
  go_at_call 10
  refine kM.mono ?_
  rintro e9 w9 ⟨rfl, hw9⟩
  have hs' := hw9.symm
  clear hw9
  subst hs'
  refine hK.out _ _ (hSw) (fun hSn => ?_)
  clear hK K9 hSw
  have hSw := hSn
  clear hSn
  try simp [Act.put]
  refine wpAnyH_take (i := 8) (v := .pointer (some ⟨B, 0, none⟩)) rfl (by kernel_rfl) (by kernel_rfl) (by kernel_rfl) (fun _ _ _ h => h) (Or.inl ⟨by rfl, ?_⟩) hSw ?_
  · intro wz hsz
    obtain ⟨hk8, hk9⟩ := hsz
    go_simp
  try simp [Act.put]
  refine wpAnyH_take (i := 9) (v := .pointer (some ⟨B, 2, none⟩)) rfl (by kernel_rfl) (by kernel_rfl) (by kernel_rfl) (fun _ _ _ h => h) (Or.inl ⟨by rfl, ?_⟩) hSw ?_
  · intro wz hsz
    obtain ⟨hk8, hk9⟩ := hsz
    go_simp
  try simp [Act.put]
  refine wpAnyH_ready (rs := [10]) (by kernel_rfl) (by simp) ?_
  refine AllReadyH.cons rfl (fun K9 hK => ?_) AllReadyH.nil
  go_simp
  refine hK.out _ _ (⟨(k5.far (.int .i64 (msV m kd)) hKB).c0, (k5.far (.int .i64 (msV m kd)) hKB).c1⟩) (fun hSn => ?_)
  clear hK K9 hSw
  have hSw := hSn
  clear hSn
  try simp [Act.put]
  refine wpAnyH_done (by kernel_rfl) ?_ _
  simp only [onlyN]
  have h9 := h5.mode (msV m kd)
  have hB9 : Below B w _ := hB5.setCell (p := ⟨B, 2, none⟩) (Nat.le_refl _) (.int .i64 (msV m kd))
  clear h5 hB5 k5 kM c0 c1 c2 c3 c4_ f2 kk5 hSw h4 hB4 k4
  go_wp2_with fail
  refine leaves_cons (f := 38) (args := #[.pointer (some ⟨B, 0, none⟩)]) (by simp) (by simp [go_sem]) ?_
  refine (unlock_deferred muLib ⟨B, 0, none⟩ .returning _ h9.at.1 (h9.bx.fz 0)).mono ?_
  rintro e9 u9 w9 ⟨rfl, rfl, rfl⟩
  exact ⟨_, results_none rfl _ _ _, rfl, by rw [HN.out.1, HN.out.2]; exact ⟨⟨_, _, h9.lock 0⟩, hB9.setCell (p := ⟨B, 0, none⟩) (Nat.le_refl _) _⟩⟩
set_option maxHeartbeats 2000000 in
theorem tell_any (B : Nat) (m : Int) (b : Option Addr) (nn d : Nat) (N : Nat → ByteArray) (a : Option Addr) (c : Nat) (l : List ByteArray) (w : World) (h : Hs w B 0 m b nn d N a c l) :
    Calls Try.prog 25 #[.pointer (some ⟨B, 0, none⟩)] w fun e w' => e = .returned (.tuple #[.int .i64 m, .slice a l.length c]) ∧ Hs w' B 0 m b nn d N a c l ∧ Below B w w' := by
  have h4 := h.lock 1
  have hB4 : Below B w (w.setCell ⟨B, 0, none⟩ (.int .i32 1)) := (Below.refl B w).setCell (p := ⟨B, 0, none⟩) (Nat.le_refl _) (.int .i32 1)
  have kL := lock_free muLib ⟨B, 0, none⟩ _ h.at.1 (h.bx.fz 0)
  have hBl := h4.bx.lt
  clear h
  obtain ⟨w4, hw4⟩ : ∃ w4, w4 = w.setCell ⟨B, 0, none⟩ (.int .i32 1) := ⟨_, rfl⟩
  rw [← hw4] at h4 hB4 hBl
  have HW4 : Hid (w4 = w.setCell ⟨B, 0, none⟩ (.int .i32 1)) := hw4
  clear hw4
  obtain ⟨c0, c1, c2, c3, c4_⟩ := h4.at
  go_enter_defers Try.func25, Try.ntmps25
  go_upto_region 3 with (first | (go_at_call 37; refine kL.mono ?_; rintro e w9 ⟨rfl, hw9⟩; rw [← HW4.out] at hw9; subst hw9) | fail)
  go_quiet (fail)
  go_wp2_with fail
  have h9 := h4.on (below_dr (Below.refl _ _) nq)
  have hB9 := below_dr hB4 nq
  refine leaves_cons (f := 38) (args := #[.pointer (some ⟨B, 0, none⟩)]) (by simp) (by simp [go_sem]) ?_
  refine (unlock_deferred muLib ⟨B, 0, none⟩ .returning _ h9.at.1 (h9.bx.fz 0)).mono ?_
  rintro e9 u9 w9 ⟨rfl, rfl, rfl⟩
  exact ⟨_, results_tmp2 rfl _ _ _, rfl, h9.lock 0, hB9.setCell (p := ⟨B, 0, none⟩) (Nat.le_refl _) _⟩
end Go.Proofs.Ytoleblhidieheaa
