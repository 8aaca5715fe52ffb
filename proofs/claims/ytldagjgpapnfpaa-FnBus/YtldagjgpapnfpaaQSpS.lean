/- A talker that sends: what is counted, and what is first (tools/gen_sp.py). -/
import Derived.Test.YtldagjgpapnfpaaQSpB
import Derived.Deep.Cut
import Derived.Deep.RegionHeld
namespace Go.Proofs.Ytldagjgpapnfpaa
open Go.RowKit
/-- errors within their limits -/
def btI (x : Int) : Int := if x < 0 then 0 else if 255 < x then 255 else x
set_option maxHeartbeats 1000000 in
theorem btw_any (x : Int) (w : World) : Calls Try.prog 65 #[.int .i64 x, .int .i64 0, .int .i64 255] w fun e w' => e = .returned (.int .i64 (btI x)) ∧ w' = w := by
  go_enter Try.func65, Try.ntmps65
  go_wp2
  all_goals
    go_ret
    exact ⟨ret_int (by unfold btI; split at * <;> (try split) <;> omega), rfl⟩
set_option maxRecDepth 20000 in
set_option maxHeartbeats 4000000 in
theorem count_any (P : Nat) (qa : Option Addr) (qm qc : Nat) (sh er : Int) (of : Bool) (lf : Nat) (se ec : Int) (m : Int) (w : World) (hm : -1 ≤ m ∧ m ≤ 8) (he : 0 ≤ ec ∧ ec ≤ 255) (h : Spk w P qa qm qc sh er of lf se ec) :
    Calls Try.prog 49 #[.pointer (some ⟨P, 0, none⟩), .int .i64 m] w fun e w' => e = .returned (.tuple #[]) ∧ Spk w' P qa qm qc sh er of lf se (btI (ec + m)) ∧ Only P w w' := by
  have kA := atAdd P 6 ec m w (by omega) h.c6 (Bx.fz h 6)
  have D1 := h.s6 (ec + m)
  have O1 := (Only.refl P w).set 6 (.int .i64 (ec + m))
  have hl := Bx.lt h
  clear h
  go_enter Try.func49, Try.ntmps49
  go_wp2_with fail
  refine kA.mono ?_
  rintro e w2 ⟨rfl, hw2⟩
  rw [← hw2] at D1 O1
  clear hw2 kA
  have hl2 := Bx.lt D1
  go_upto_region 1 with fail
  have D2 : Spk w2.drew P qa qm qc sh er of lf se (ec + m) := Bx.on D1 (Below.refl _ _).drew
  have O2 := O1.drew
  refine wp_region_held (S := (fun w' => w'.cell? ⟨P, 0, none⟩ = some (.slice qa qm qc) ∧ w'.cell? ⟨P, 1, none⟩ = some (.int .i64 sh))) (by kernel_rfl) ?_
  change wpAnyH _ _ _ _ _ _ _ _ (World.drew _)
  have hSw := (⟨D2.c0, D2.c1⟩ : _ ∧ _)
  refine wpAnyH_take (i := 0) (v := .pointer (some ⟨P, 0, none⟩)) rfl (by kernel_rfl) (by kernel_rfl) (by kernel_rfl) (fun _ _ _ h => h) (Or.inl ⟨by rfl, ?_⟩) hSw ?_
  · intro wz hsz
    obtain ⟨hc8, hc9⟩ := hsz
    go_simp
  try simp [Act.put]
  refine wpAnyH_take (i := 1) (v := .pointer (some ⟨P, 0, none⟩)) rfl (by kernel_rfl) (by kernel_rfl) (by kernel_rfl) (fun _ _ _ h => h) (Or.inl ⟨by rfl, ?_⟩) hSw ?_
  · intro wz hsz
    obtain ⟨hc8, hc9⟩ := hsz
    go_simp
  try simp [Act.put]
  refine wpAnyH_take (i := 2) (v := .pointer (some ⟨P, 6, none⟩)) rfl (by kernel_rfl) (by kernel_rfl) (by kernel_rfl) (fun _ _ _ h => h) (Or.inl ⟨by rfl, ?_⟩) hSw ?_
  · intro wz hsz
    obtain ⟨hc8, hc9⟩ := hsz
    go_simp
  try simp [Act.put]
  refine wpAnyH_take (i := 3) (v := .int .i64 (ec + m)) rfl (by kernel_rfl) (by kernel_rfl) (by kernel_rfl) (fun _ _ _ h => h) (Or.inl ⟨by rfl, ?_⟩) hSw ?_
  · intro wz hsz
    obtain ⟨hc8, hc9⟩ := hsz
    go_simp
  try simp [Act.put]
  refine wpAnyH_ready (rs := [4]) (by kernel_rfl) (by simp) ?_
  refine AllReadyH.cons rfl (fun K9 hK => ?_) AllReadyH.nil
  go_simp
  go_at_call 65
  refine (btw_any _ _).mono ?_
  rintro e9 w3 ⟨rfl, hw3⟩
  have hs3 := hw3.symm
  clear hw3
  subst hs3
  refine hK.out _ _ (⟨D2.c0, D2.c1⟩) (fun hSn => ?_)
  clear hK K9 hSw
  have hSw := hSn
  clear hSn
  try simp [Act.put]
  refine wpAnyH_ready (rs := [5]) (by kernel_rfl) (by simp) ?_
  refine AllReadyH.cons rfl (fun K9 hK => ?_) AllReadyH.nil
  go_simp
  go_at_call 45
  refine (atStore P 6 _ (btI (ec + m)) _ D2.c6 (Bx.fz D2 6)).mono ?_
  rintro e9 w4 ⟨rfl, hw4⟩
  have hs4 := hw4.symm
  clear hw4
  subst hs4
  have D5 := D2.s6 (btI (ec + m))
  refine hK.out _ _ (⟨D5.c0, D5.c1⟩) (fun hSn => ?_)
  clear hK K9 hSw
  have hSw := hSn
  clear hSn
  try simp [Act.put]
  refine wpAnyH_done (by kernel_rfl) ?_ _
  have O5 := O2.set 6 (.int .i64 (btI (ec + m)))
  go_wp2
  go_end0
  exact ⟨rfl, D5, O5⟩
/-- what sending leaves -/
def snL (g : Bool) (lf : Nat) : Nat := if g = true then lf + 1 else lf
def snE (g : Bool) (ec : Int) : Int := if g = true then btI (ec + -1) else btI (ec + 8)
set_option maxRecDepth 20000 in
set_option maxHeartbeats 4000000 in
theorem send_any (P : Nat) (qa : Option Addr) (qm qc : Nat) (sh er : Int) (of : Bool) (lf : Nat) (se ec : Int) (g : Bool) (w : World) (hlf : lf ≤ 1000) (hse : 0 ≤ se ∧ se ≤ 1000) (he : 0 ≤ ec ∧ ec ≤ 255) (h : Spk w P qa qm qc sh er of lf se ec) :
    Calls Try.prog 31 #[.pointer (some ⟨P, 0, none⟩), .bool g] w fun e w' => e = .returned (.tuple #[]) ∧ Spk w' P qa qm qc sh er of (snL g lf) (se + 1) (snE g ec) ∧ Only P w w' := by
  have c5 := h.c5
  have f5 := Bx.fz h 5
  have hl := Bx.lt h
  have D1 := h.s5 (se + 1)
  have O1 := (Only.refl P w).set 5 (.int .i64 (se + 1))
  cases g with
  | true =>
    have D2 := D1.s4 (lf + 1)
    have O2 := O1.set 4 (.int .i64 ((lf + 1 : Nat) : Int))
    have y4 := D1.c4
    have f4 := Bx.fz D1 4
    have l4 := Bx.lt D1
    have hcast : ((lf + 1 : Nat) : Int) = (lf : Int) + 1 := by omega
    rw [hcast] at D2 O2
    clear hcast
    have kC := fun w2 hh => count_any P qa qm qc sh er of (lf + 1) (se + 1) ec (-1) w2 (by omega) he hh
    clear h
    go_enter Try.func31, Try.ntmps31
    go_wp2_with fail
    refine (kC _ D2).mono ?_
    rintro e w3 ⟨rfl, D3, O3⟩
    have O4 := O2.trans O3
    clear kC O3
    go_wp2
    go_end0
    exact ⟨rfl, D3, O4⟩
  | false =>
    have kC := fun w2 hh => count_any P qa qm qc sh er of lf (se + 1) ec 8 w2 (by omega) he hh
    clear h
    go_enter Try.func31, Try.ntmps31
    go_wp2_with fail
    refine (kC _ D1).mono ?_
    rintro e w3 ⟨rfl, D3, O3⟩
    have O4 := O1.trans O3
    clear kC O3
    go_wp2
    go_end0
    exact ⟨rfl, D3, O4⟩
set_option maxRecDepth 20000 in
set_option maxHeartbeats 4000000 in
theorem first_any (P : Nat) (qa : Option Addr) (qm qc : Nat) (sh er : Int) (of : Bool) (lf : Nat) (se ec : Int) (I : Nat → Int) (A : Nat → Option Addr) (N C : Nat → Nat) (w : World) (hlf : lf < qm) (hqm : qm ≤ 8) (h : Spk w P qa qm qc sh er of lf se ec) (hF : FrH w qa qm I A N C) :
    Calls Try.prog 30 #[.pointer (some ⟨P, 0, none⟩)] w fun e w' => e = .returned (frv (I lf) (A lf) (N lf) (C lf)) ∧ Below w.heap.size w w' := by
  have hb0 : Below w.heap.size w (w.alloc (frvO 0 none 0 0 54)) := (Below.refl _ _).alloc (Nat.le_refl _) _
  have bR := bx_new (w := w) (frvL 0 none 0 0) 54 rfl
  have D1 : Spk (w.alloc (frvO 0 none 0 0 54)) P qa qm qc sh er of lf se ec := Bx.on h hb0
  obtain ⟨b1, o1, rfl, l1, hc1⟩ := (hF.below hb0) (by omega)
  have y0 := (hc1 lf hlf).1
  have y1 := (hc1 lf hlf).2
  have c0 := D1.c0
  have c4 := D1.c4
  have hl := Bx.lt D1
  have r0 := bR.c0
  have r1 := bR.c1
  have f0 := bR.fz 0
  have f1 := bR.fz 1
  have j0 : (0 : Int) ≤ (lf : Int) := by omega
  have j1 : (lf : Int) < (qm : Int) := by omega
  clear hc1 hF h D1
  generalize I lf = X at *
  generalize A lf = Y at *
  generalize N lf = Z at *
  generalize C lf = V at *
  go_enter Try.func30, Try.ntmps30
  go_upto_region 1 with fail
  generalize hW : w.alloc (frvO 0 none 0 0 54) = W at *
  clear hW
  go_region
  all_goals
    go_wp2_with fail
    have bS := (Bx.on bR (Below.refl _ _).drew).set 0 (by simp) (.int .i64 X)
    have bT := bS.set 1 (by simp) (.slice Y Z V)
    refine ret_frv Try.results30 rfl bT.c0 bT.c1 rfl ?_
    exact ⟨rfl, (hb0.drew.setCell (p := ⟨w.heap.size, 0, none⟩) (Nat.le_refl _) _).setCell (p := ⟨w.heap.size, 1, none⟩) (Nat.le_refl _) _⟩
end Go.Proofs.Ytldagjgpapnfpaa
