/- Which of the two openings below one comes first. -/
import Derived.Test.YtfciecoigfnnhaaQWyHs
import Derived.Test.YtfciecoigfnnhaaQWyTlC
import Derived.BigQuiet
import Derived.Deep.RegionHeld
import Derived.Deep.RegionHeld3
import Derived.Deep.CutRange
import Derived.Deep.Cut
namespace Go.Proofs.Ytfciecoigfnnhaa
open Go.RowKit

set_option maxHeartbeats 4000000 in
set_option maxRecDepth 20000 in
theorem first_any (base Sb m i : Nat) (E : Nat → Og) (w : World) (h : Hs w base Sb m E) (hi : i < m) :
    Calls Try.prog 101 #[.pointer (some ⟨Sb, 5, none⟩), .int .i64 (i : Int)] w fun e w' => e = .returned (.int .i64 (fcO m E i : Int)) ∧ Below w.heap.size w w' := by
  obtain ⟨v, c5, hO⟩ := h.v
  obtain ⟨g, cap, rfl, hg0, hcap, hP⟩ := hO.get (by omega)
  have hm := h.ok
  have hs : Sb < w.heap.size := Nat.lt_of_lt_of_le h.sb h.le
  obtain ⟨c, hc⟩ : ∃ c, c = 2 * i + 1 := ⟨_, rfl⟩
  have ec : Hid (2 * (i : Int) + 1 = (c : Int)) := (by omega : _ = _)
  have hcm : c ≤ 2 * 1048576 := by have := h.ok; omega
  have i0 : (0 : Int) ≤ (i : Int) := by omega
  have c0 : (0 : Int) ≤ (c : Int) := by omega
  by_cases hlt : c + 1 < m
  · have hfc : fcO m E i = if ko (E (c + 1)) < ko (E c) then c + 1 else c := by
      unfold fcO
      rw [← hc]
      simp only [hlt, true_and]
    have hx := h.all (c + 1) hlt
    have hy := h.all c (by omega)
    have kc0 := fun w => tcmp_any (E (c + 1)).a (E (c + 1)).b (E c).a (E c).b w ⟨hx.1, by have := hx.2.1; omega⟩ ⟨hx.2.2.1, by have := hx.2.2.2; omega⟩ ⟨hy.1, by have := hy.2.1; omega⟩ ⟨hy.2.2.1, by have := hy.2.2.2; omega⟩
    have ka := fun w => ahead_any (E (c + 1)) (E c) w hx hy kc0
    have x0 := hP.c ((c + 1) * 3) (by omega)
    have x1 := hP.c ((c + 1) * 3 + 1) (by omega)
    have x2 := hP.c ((c + 1) * 3 + 2) (by omega)
    have y0 := hP.c (c * 3) (by omega)
    have y1 := hP.c (c * 3 + 1) (by omega)
    have y2 := hP.c (c * 3 + 2) (by omega)
    rw [f3_0] at x0 y0
    rw [f3_1] at x1 y1
    rw [f3_2] at x2 y2
    have hmt := mtO (E (c + 1))
    have hPl := hP.lt
    have HFC : Hid _ := hfc
    have j1 : (c : Int) + 1 < (m : Int) := by omega
    have j2 : (c : Int) < (m : Int) := by omega
    have j3 : (0 : Int) ≤ (c : Int) + 1 := by omega
    have j4 : ((c : Int) + 1).toNat = c + 1 := by omega
    clear kc0 hP hO h hx hy hfc hc
    generalize hb : decide (ko (E (c + 1)) < ko (E c)) = b at ka
    have hb2 : Hid (decide (ko (E (c + 1)) < ko (E c)) = b) := hb
    clear hb
    generalize E (c + 1) = X at *
    generalize E c = Y at *
    have hw0 := Below.refl w.heap.size w
    go_enter Try.func101, Try.ntmps101
    go_upto_region 2 with fail
    rw [ec.out]
    go_cut [35] from 9 to 35 (fun s wx => s = .bool b ∧ Below w.heap.size w wx)
    case first =>
      refine wp_region_held (S := fun w' => w'.cell? ⟨Sb, 5, none⟩ = some (.slice (some ⟨g, 0, none⟩) m cap) ∧ w'.cell? ⟨g, (c + 1) * 3, none⟩ = some (.int .i64 X.p) ∧ w'.cell? ⟨g, (c + 1) * 3 + 1, none⟩ = some (.int .i64 X.a) ∧ w'.cell? ⟨g, (c + 1) * 3 + 2, none⟩ = some (.int .i64 X.b) ∧ w'.cell? ⟨g, c * 3, none⟩ = some (.int .i64 Y.p) ∧ w'.cell? ⟨g, c * 3 + 1, none⟩ = some (.int .i64 Y.a) ∧ w'.cell? ⟨g, c * 3 + 2, none⟩ = some (.int .i64 Y.b)) (by kernel_rfl) ?_
      change wpAnyH _ _ _ _ _ _ _ _ (World.drew _)
      have hSw := (⟨(Below.cell (p := ⟨Sb, 5, none⟩) hw0.drew hs).trans c5, (Below.cell (p := ⟨g, (c + 1) * 3, none⟩) hw0.drew hPl).trans x0, (Below.cell (p := ⟨g, (c + 1) * 3 + 1, none⟩) hw0.drew hPl).trans x1, (Below.cell (p := ⟨g, (c + 1) * 3 + 2, none⟩) hw0.drew hPl).trans x2, (Below.cell (p := ⟨g, c * 3, none⟩) hw0.drew hPl).trans y0, (Below.cell (p := ⟨g, c * 3 + 1, none⟩) hw0.drew hPl).trans y1, (Below.cell (p := ⟨g, c * 3 + 2, none⟩) hw0.drew hPl).trans y2⟩ : _ ∧ _ ∧ _ ∧ _ ∧ _ ∧ _ ∧ _)
      refine wpAnyH_take (i := 0) (v := .int .i64 (c : Int)) rfl (by kernel_rfl) (by kernel_rfl) (by kernel_rfl) (fun _ _ _ h => h) (Or.inl ⟨by rfl, ?_⟩) hSw ?_
      · intro wz hsz
        obtain ⟨z0, z1, z2, z3, z4, z5, z6⟩ := hsz
        go_simp
      try simp [Act.put]
      refine wpAnyH_take (i := 1) (v := .int .i64 ((c : Int) + 1)) rfl (by kernel_rfl) (by kernel_rfl) (by kernel_rfl) (fun _ _ _ h => h) (Or.inl ⟨by rfl, ?_⟩) hSw ?_
      · intro wz hsz
        obtain ⟨z0, z1, z2, z3, z4, z5, z6⟩ := hsz
        go_simp
        try exact IntWalk.i64_in _ ⟨by omega, by omega⟩
      try simp [Act.put]
      refine wpAnyH_take (i := 2) (v := .pointer (some ⟨Sb, 5, none⟩)) rfl (by kernel_rfl) (by kernel_rfl) (by kernel_rfl) (fun _ _ _ h => h) (Or.inl ⟨by rfl, ?_⟩) hSw ?_
      · intro wz hsz
        obtain ⟨z0, z1, z2, z3, z4, z5, z6⟩ := hsz
        go_simp
      try simp [Act.put]
      refine wpAnyH_take (i := 3) (v := .pointer (some ⟨Sb, 5, none⟩)) rfl (by kernel_rfl) (by kernel_rfl) (by kernel_rfl) (fun _ _ _ h => h) (Or.inl ⟨by rfl, ?_⟩) hSw ?_
      · intro wz hsz
        obtain ⟨z0, z1, z2, z3, z4, z5, z6⟩ := hsz
        go_simp
      try simp [Act.put]
      refine wpAnyH_take (i := 4) (v := .pointer (some ⟨Sb, 5, none⟩)) rfl (by kernel_rfl) (by kernel_rfl) (by kernel_rfl) (fun _ _ _ h => h) (Or.inl ⟨by rfl, ?_⟩) hSw ?_
      · intro wz hsz
        obtain ⟨z0, z1, z2, z3, z4, z5, z6⟩ := hsz
        go_simp
      try simp [Act.put]
      refine wpAnyH_take (i := 5) (v := .slice (some ⟨g, 0, none⟩) m cap) rfl (by kernel_rfl) (by kernel_rfl) (by kernel_rfl) (fun _ _ _ h => h) (Or.inl ⟨by rfl, ?_⟩) hSw ?_
      · intro wz hsz
        obtain ⟨z0, z1, z2, z3, z4, z5, z6⟩ := hsz
        go_simp
      try simp [Act.put]
      refine wpAnyH_take (i := 6) (v := .int .i64 (m : Int)) rfl (by kernel_rfl) (by kernel_rfl) (by kernel_rfl) (fun _ _ _ h => h) (Or.inl ⟨by rfl, ?_⟩) hSw ?_
      · intro wz hsz
        obtain ⟨z0, z1, z2, z3, z4, z5, z6⟩ := hsz
        go_simp
      try simp [Act.put]
      refine wpAnyH_take (i := 7) (v := .bool true) rfl (by kernel_rfl) (by kernel_rfl) (by kernel_rfl) (fun _ _ _ h => h) (Or.inl ⟨by rfl, ?_⟩) hSw ?_
      · intro wz hsz
        obtain ⟨z0, z1, z2, z3, z4, z5, z6⟩ := hsz
        go_simp
        try omega
      try simp [Act.put]
      refine wpAnyH_take (i := 8) (v := .bool true) rfl (by kernel_rfl) (by kernel_rfl) (by kernel_rfl) (fun _ _ _ h => h) (Or.inl ⟨by rfl, ?_⟩) hSw ?_
      · intro wz hsz
        obtain ⟨z0, z1, z2, z3, z4, z5, z6⟩ := hsz
        go_simp
      try simp [Act.put]
      refine wpAnyH_take (i := 9) (v := .pointer (some ⟨Sb, 5, none⟩)) rfl (by kernel_rfl) (by kernel_rfl) (by kernel_rfl) (fun _ _ _ h => h) (Or.inl ⟨by rfl, ?_⟩) hSw ?_
      · intro wz hsz
        obtain ⟨z0, z1, z2, z3, z4, z5, z6⟩ := hsz
        go_simp
      try simp [Act.put]
      refine wpAnyH_take (i := 10) (v := .pointer (some ⟨Sb, 5, none⟩)) rfl (by kernel_rfl) (by kernel_rfl) (by kernel_rfl) (fun _ _ _ h => h) (Or.inl ⟨by rfl, ?_⟩) hSw ?_
      · intro wz hsz
        obtain ⟨z0, z1, z2, z3, z4, z5, z6⟩ := hsz
        go_simp
      try simp [Act.put]
      refine wpAnyH_take (i := 11) (v := .pointer (some ⟨Sb, 5, none⟩)) rfl (by kernel_rfl) (by kernel_rfl) (by kernel_rfl) (fun _ _ _ h => h) (Or.inl ⟨by rfl, ?_⟩) hSw ?_
      · intro wz hsz
        obtain ⟨z0, z1, z2, z3, z4, z5, z6⟩ := hsz
        go_simp
      try simp [Act.put]
      refine wpAnyH_take (i := 12) (v := .slice (some ⟨g, 0, none⟩) m cap) rfl (by kernel_rfl) (by kernel_rfl) (by kernel_rfl) (fun _ _ _ h => h) (Or.inl ⟨by rfl, ?_⟩) hSw ?_
      · intro wz hsz
        obtain ⟨z0, z1, z2, z3, z4, z5, z6⟩ := hsz
        go_simp
      try simp [Act.put]
      refine wpAnyH_take (i := 13) (v := .int .i64 (c : Int)) rfl (by kernel_rfl) (by kernel_rfl) (by kernel_rfl) (fun _ _ _ h => h) (Or.inl ⟨by rfl, ?_⟩) hSw ?_
      · intro wz hsz
        obtain ⟨z0, z1, z2, z3, z4, z5, z6⟩ := hsz
        go_simp
      try simp [Act.put]
      refine wpAnyH_take (i := 14) (v := .int .i64 ((c : Int) + 1)) rfl (by kernel_rfl) (by kernel_rfl) (by kernel_rfl) (fun _ _ _ h => h) (Or.inl ⟨by rfl, ?_⟩) hSw ?_
      · intro wz hsz
        obtain ⟨z0, z1, z2, z3, z4, z5, z6⟩ := hsz
        go_simp
        try exact IntWalk.i64_in _ ⟨by omega, by omega⟩
      try simp [Act.put]
      refine wpAnyH_take (i := 15) (v := .pointer (some ⟨g, (c + 1) * 3, none⟩)) rfl (by kernel_rfl) (by kernel_rfl) (by kernel_rfl) (fun _ _ _ h => h) (Or.inl ⟨by rfl, ?_⟩) hSw ?_
      · intro wz hsz
        obtain ⟨z0, z1, z2, z3, z4, z5, z6⟩ := hsz
        go_simp
        try (intro h9; omega)
      try simp [Act.put]
      refine wpAnyH_take (i := 16) (v := ov X) rfl (by kernel_rfl) (by kernel_rfl) (by kernel_rfl) (fun _ _ _ h => h) (Or.inl ⟨by rfl, ?_⟩) hSw ?_
      · intro wz hsz
        obtain ⟨z0, z1, z2, z3, z4, z5, z6⟩ := hsz
        go_simp
      try simp [Act.put]
      refine wpAnyH_take (i := 17) (v := .iface 117 (ov X)) rfl (by kernel_rfl) (by kernel_rfl) (by kernel_rfl) (fun _ _ _ h => h) (Or.inl ⟨by rfl, ?_⟩) hSw ?_
      · intro wz hsz
        obtain ⟨z0, z1, z2, z3, z4, z5, z6⟩ := hsz
        go_simp
      try simp [Act.put]
      refine wpAnyH_take (i := 18) (v := .pointer (some ⟨Sb, 5, none⟩)) rfl (by kernel_rfl) (by kernel_rfl) (by kernel_rfl) (fun _ _ _ h => h) (Or.inl ⟨by rfl, ?_⟩) hSw ?_
      · intro wz hsz
        obtain ⟨z0, z1, z2, z3, z4, z5, z6⟩ := hsz
        go_simp
      try simp [Act.put]
      refine wpAnyH_take (i := 19) (v := .pointer (some ⟨Sb, 5, none⟩)) rfl (by kernel_rfl) (by kernel_rfl) (by kernel_rfl) (fun _ _ _ h => h) (Or.inl ⟨by rfl, ?_⟩) hSw ?_
      · intro wz hsz
        obtain ⟨z0, z1, z2, z3, z4, z5, z6⟩ := hsz
        go_simp
      try simp [Act.put]
      refine wpAnyH_take (i := 20) (v := .pointer (some ⟨Sb, 5, none⟩)) rfl (by kernel_rfl) (by kernel_rfl) (by kernel_rfl) (fun _ _ _ h => h) (Or.inl ⟨by rfl, ?_⟩) hSw ?_
      · intro wz hsz
        obtain ⟨z0, z1, z2, z3, z4, z5, z6⟩ := hsz
        go_simp
      try simp [Act.put]
      refine wpAnyH_take (i := 21) (v := .slice (some ⟨g, 0, none⟩) m cap) rfl (by kernel_rfl) (by kernel_rfl) (by kernel_rfl) (fun _ _ _ h => h) (Or.inl ⟨by rfl, ?_⟩) hSw ?_
      · intro wz hsz
        obtain ⟨z0, z1, z2, z3, z4, z5, z6⟩ := hsz
        go_simp
      try simp [Act.put]
      refine wpAnyH_take (i := 22) (v := .int .i64 (c : Int)) rfl (by kernel_rfl) (by kernel_rfl) (by kernel_rfl) (fun _ _ _ h => h) (Or.inl ⟨by rfl, ?_⟩) hSw ?_
      · intro wz hsz
        obtain ⟨z0, z1, z2, z3, z4, z5, z6⟩ := hsz
        go_simp
      try simp [Act.put]
      refine wpAnyH_take (i := 23) (v := .pointer (some ⟨g, c * 3, none⟩)) rfl (by kernel_rfl) (by kernel_rfl) (by kernel_rfl) (fun _ _ _ h => h) (Or.inl ⟨by rfl, ?_⟩) hSw ?_
      · intro wz hsz
        obtain ⟨z0, z1, z2, z3, z4, z5, z6⟩ := hsz
        go_simp
        try (intro h9; omega)
      try simp [Act.put]
      refine wpAnyH_take (i := 24) (v := ov Y) rfl (by kernel_rfl) (by kernel_rfl) (by kernel_rfl) (fun _ _ _ h => h) (Or.inl ⟨by rfl, ?_⟩) hSw ?_
      · intro wz hsz
        obtain ⟨z0, z1, z2, z3, z4, z5, z6⟩ := hsz
        go_simp
      try simp [Act.put]
      refine wpAnyH_ready (rs := [25]) (by kernel_rfl) (by simp) ?_
      refine AllReadyH.cons rfl (fun K hK => ?_) AllReadyH.nil
      go_simp
      go_wp2_with (first | (go_at_call 132; refine (ka _).mono ?_; rintro e9 w6 ⟨rfl, hb6⟩; have hw1 := stepA hw0.drew hb6; clear hb6) | (fail))
      refine hK.out _ _ (⟨(Below.cell (p := ⟨Sb, 5, none⟩) hw1 hs).trans c5, (Below.cell (p := ⟨g, (c + 1) * 3, none⟩) hw1 hPl).trans x0, (Below.cell (p := ⟨g, (c + 1) * 3 + 1, none⟩) hw1 hPl).trans x1, (Below.cell (p := ⟨g, (c + 1) * 3 + 2, none⟩) hw1 hPl).trans x2, (Below.cell (p := ⟨g, c * 3, none⟩) hw1 hPl).trans y0, (Below.cell (p := ⟨g, c * 3 + 1, none⟩) hw1 hPl).trans y1, (Below.cell (p := ⟨g, c * 3 + 2, none⟩) hw1 hPl).trans y2⟩) (fun hSn => ?_)
      clear hK K hSw
      have hSw := hSn
      clear hSn
      try simp [Act.put]
      refine wpAnyH_take (i := 26) (v := .bool b) rfl (by kernel_rfl) (by kernel_rfl) (by kernel_rfl) (fun _ _ _ h => h) (Or.inl ⟨by rfl, ?_⟩) hSw ?_
      · intro wz hsz
        obtain ⟨z0, z1, z2, z3, z4, z5, z6⟩ := hsz
        go_simp
      try simp [Act.put]
      refine wpAnyH_done (by kernel_rfl) ?_ _
      go_wp2_with fail
      go_meet
      case rel => exact ⟨rfl, hw1⟩
    case rest =>
      obtain ⟨rfl, hbc⟩ := hcut
      clear ka x0 x1 x2 y0 y1 y2 hw0
      cases b with
      | false =>
        have H1 : Hid (fcO m E i = c) := (HFC.out.trans (if_neg (of_decide_eq_false hb2.out)) : _ = _)
        clear HFC hb2
        go_wp2
        go_ret
        exact ⟨by rw [H1.out]; rfl, hbc⟩
      | true =>
        have H1 : Hid (fcO m E i = c + 1) := (HFC.out.trans (if_pos (of_decide_eq_true hb2.out)) : _ = _)
        clear HFC hb2
        go_wp2
        go_ret
        exact ⟨by rw [H1.out]; rfl, hbc⟩
  · have H1 : Hid (fcO m E i = c) := (by
      unfold fcO
      rw [← hc]
      simp only [hlt, false_and, if_false] : _ = _)
    have d1 : decide ((c : Int) + 1 < (m : Int)) = false := by simp; omega
    clear hP hO h hlt hc
    go_enter Try.func101, Try.ntmps101
    go_upto_region 2 with fail
    rw [ec.out]
    go_quiet (fail)
    go_wp2
    go_ret
    exact ⟨by rw [H1.out]; rfl, below_drewN (Below.refl _ _) _⟩
end Go.Proofs.Ytfciecoigfnnhaa
