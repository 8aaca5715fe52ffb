/- What a speaker is now, as a talker. -/
import Derived.Test.YtldagjgpapnfpaaQBuC
import Derived.Deep.Cut
namespace Go.Proofs.Ytldagjgpapnfpaa
open Go.RowKit
theorem ret_tkv {fn : Func} {t : Tmp} {R : Ending → World → Prop} {a : Act} {w : World} {b : Nat} {x y z u : Value} (h : fn.results = #[.cell t 51]) (hp : a.tmps.getD t undef = .pointer (some ⟨b, 0, none⟩)) (c : Bx w b [x, y, z, u]) (hd : a.defers = [])
    (hR : R (.returned (.agg #[x, y, z, u])) w) : bodyPost Try.prog fn R .ret a w := by
  refine bodyPost_ret ?_ hd hR
  have hp' : a.tmps[t]?.getD undef = .pointer (some ⟨b, 0, none⟩) := by simpa using hp
  have c3 : w.cell? ⟨b, 3, none⟩ = some u := c.c 3 (show 3 < 4 by omega)
  simp [results, h, hp', asAddr, loadVar, go_sem, c.c0, c.c1, c.c2, c3]
/-- the queue behind what has left -/
theorem FrF.rest {w : World} {a : Option Addr} {m c : Nat} {I : Nat → Int} {A : Nat → Option Addr} {N C : Nat → Nat} {S : Nat → Nat → Int} (h : FrF w a m I A N C S) (hs : Shp a m c) {k : Nat} (hk : k ≤ m) :
    (a = none ∧ m = 0 ∧ c = 0 ∧ k = 0) ∨ ∃ b o, a = some ⟨b, o, none⟩ ∧ FrF w (some ⟨b, o + k * 2, none⟩) (m - k) (fun j => I (k + j)) (fun j => A (k + j)) (fun j => N (k + j)) (fun j => C (k + j)) (fun j => S (k + j)) ∧ (m = k → FrF w (some ⟨b, o, none⟩) (m - k) (fun j => I (k + j)) (fun j => A (k + j)) (fun j => N (k + j)) (fun j => C (k + j)) (fun j => S (k + j))) := by
  obtain ⟨hc, ⟨rfl, rfl, rfl⟩ | ⟨b, o, rfl⟩⟩ := hs
  · exact .inl ⟨rfl, rfl, rfl, by omega⟩
  · refine .inr ⟨b, o, rfl, ?_, fun e => ⟨fun h1 => by omega, fun j hj => by omega, fun j hj => by omega⟩⟩
    by_cases h0 : 0 < m
    · obtain ⟨b', o', e, hF⟩ := h.drop hk h0
      cases e
      exact hF
    · exact ⟨fun h1 => by omega, fun j hj => by omega, fun j hj => by omega⟩
def AnsNw (w w' : World) (e : Ending) (m : Nat) (I : Nat → Int) (N : Nat → Nat) (S : Nat → Nat → Int) (sh ec : Int) : Prop := ∃ (a : Option Addr) (c : Nat), e = .returned (tkv a m c sh ec (ec == 255)) ∧ FrQ w' w.heap.size w'.heap.size a m I N S ∧ Shp a m c ∧ Below w.heap.size w w'
set_option maxRecDepth 20000 in
set_option maxHeartbeats 4000000 in
theorem nowW (P : Nat) (qa a2 : Option Addr) (qm qc m2 c2 : Nat) (sh er : Int) (of : Bool) (lf : Nat) (se ec : Int) (I2 : Nat → Int) (A2 : Nat → Option Addr) (N2 C2 : Nat → Nat) (S2 : Nat → Nat → Int) (w : World) (hm2 : m2 ≤ 1048576) (hN2 : ∀ j, j < m2 → N2 j ≤ 1048576) (hPw : P < w.heap.size) (h : Spk w P qa qm qc sh er of lf se ec) (hF : FrF w a2 m2 I2 A2 N2 C2 S2) (hl : lf ≤ qm) (ha2 : a2 = (if qc = lf then qa else Option.map (fun x => x.add (lf * 2)) qa)) (hm2e : m2 = qm - lf) (hc2e : c2 = qc - lf) :
    Calls Try.prog 50 #[.pointer (some ⟨P, 0, none⟩)] w fun e w' => AnsNw w w' e m2 I2 N2 S2 sh ec := by
  have hb0 : Below w.heap.size w (w.alloc (tkO none 0 0 0 0 false 51)) := (Below.refl _ _).alloc (Nat.le_refl _) _
  have bR := bx_new (w := w) (tkL none 0 0 0 0 false) 51 rfl
  have D1 : Spk (w.alloc (tkO none 0 0 0 0 false 51)) P qa qm qc sh er of lf se ec := Bx.on h hb0
  have HA2 : Hid (a2 = (if qc = lf then qa else Option.map (fun x => x.add (lf * 2)) qa)) := ha2
  have HM2 : Hid (m2 = qm - lf) := hm2e
  have HC2 : Hid (c2 = qc - lf) := hc2e
  clear ha2 hm2e hc2e
  have kF := fun w2 (hb : Below (w.alloc (tkO none 0 0 0 0 false 51)).heap.size (w.alloc (tkO none 0 0 0 0 false 51)) w2) => copyFrs a2 m2 c2 I2 A2 N2 C2 S2 w2 hm2 hN2 ((hF.below hb0).below hb)
  clear hF h hN2
  go_enter Try.func50, Try.ntmps50
  go_upto_region 1 with fail
  generalize w.alloc (tkO none 0 0 0 0 false 51) = W at *
  have hPl := Bx.lt D1
  have hRl := bR.lt
  have Dd : Spk W.drew P qa qm qc sh er of lf se ec := Bx.on D1 (Below.refl _ _).drew
  have bRd := bR.on (Below.refl _ _).drew
  refine wp_region_held (S := (fun w' => w'.cell? ⟨P, 0, none⟩ = some (.slice qa qm qc) ∧ w'.cell? ⟨P, 1, none⟩ = some (.int .i64 sh) ∧ w'.cell? ⟨P, 4, none⟩ = some (.int .i64 ((lf : Int) : Int)))) (by kernel_rfl) ?_
  change wpAnyH _ _ _ _ _ _ _ _ (World.drew _)
  have hSw := (⟨Dd.c0, Dd.c1, Dd.c4⟩ : _ ∧ _ ∧ _)
  refine wpAnyH_take (i := 0) (v := .pointer (some ⟨P, 0, none⟩)) rfl (by kernel_rfl) (by kernel_rfl) (by kernel_rfl) (fun _ _ _ h => h) (Or.inl ⟨by rfl, ?_⟩) hSw ?_
  · intro wz hsz
    obtain ⟨hc8, hc9, hc7⟩ := hsz
    go_simp
  try simp [Act.put]
  refine wpAnyH_take (i := 1) (v := .pointer (some ⟨P, 0, none⟩)) rfl (by kernel_rfl) (by kernel_rfl) (by kernel_rfl) (fun _ _ _ h => h) (Or.inl ⟨by rfl, ?_⟩) hSw ?_
  · intro wz hsz
    obtain ⟨hc8, hc9, hc7⟩ := hsz
    go_simp
  try simp [Act.put]
  refine wpAnyH_take (i := 2) (v := .pointer (some ⟨P, 0, none⟩)) rfl (by kernel_rfl) (by kernel_rfl) (by kernel_rfl) (fun _ _ _ h => h) (Or.inl ⟨by rfl, ?_⟩) hSw ?_
  · intro wz hsz
    obtain ⟨hc8, hc9, hc7⟩ := hsz
    go_simp
  try simp [Act.put]
  refine wpAnyH_take (i := 3) (v := .pointer (some ⟨P, 0, none⟩)) rfl (by kernel_rfl) (by kernel_rfl) (by kernel_rfl) (fun _ _ _ h => h) (Or.inl ⟨by rfl, ?_⟩) hSw ?_
  · intro wz hsz
    obtain ⟨hc8, hc9, hc7⟩ := hsz
    go_simp
  try simp [Act.put]
  refine wpAnyH_take (i := 4) (v := .slice qa qm qc) rfl (by kernel_rfl) (by kernel_rfl) (by kernel_rfl) (fun _ _ _ h => h) (Or.inl ⟨by rfl, ?_⟩) hSw ?_
  · intro wz hsz
    obtain ⟨hc8, hc9, hc7⟩ := hsz
    go_simp
  try simp [Act.put]
  refine wpAnyH_take (i := 5) (v := .pointer (some ⟨P, 0, none⟩)) rfl (by kernel_rfl) (by kernel_rfl) (by kernel_rfl) (fun _ _ _ h => h) (Or.inl ⟨by rfl, ?_⟩) hSw ?_
  · intro wz hsz
    obtain ⟨hc8, hc9, hc7⟩ := hsz
    go_simp
  try simp [Act.put]
  refine wpAnyH_take (i := 6) (v := .pointer (some ⟨P, 0, none⟩)) rfl (by kernel_rfl) (by kernel_rfl) (by kernel_rfl) (fun _ _ _ h => h) (Or.inl ⟨by rfl, ?_⟩) hSw ?_
  · intro wz hsz
    obtain ⟨hc8, hc9, hc7⟩ := hsz
    go_simp
  try simp [Act.put]
  refine wpAnyH_take (i := 7) (v := .pointer (some ⟨P, 4, none⟩)) rfl (by kernel_rfl) (by kernel_rfl) (by kernel_rfl) (fun _ _ _ h => h) (Or.inl ⟨by rfl, ?_⟩) hSw ?_
  · intro wz hsz
    obtain ⟨hc8, hc9, hc7⟩ := hsz
    go_simp
  try simp [Act.put]
  refine wpAnyH_take (i := 8) (v := .int .i64 ((lf : Int) : Int)) rfl (by kernel_rfl) (by kernel_rfl) (by kernel_rfl) (fun _ _ _ h => h) (Or.inl ⟨by rfl, ?_⟩) hSw ?_
  · intro wz hsz
    obtain ⟨hc8, hc9, hc7⟩ := hsz
    go_simp
  try simp [Act.put]
  refine wpAnyH_take (i := 9) (v := .slice a2 m2 c2) rfl (by kernel_rfl) (by kernel_rfl) (by kernel_rfl) (fun _ _ _ h => h) (Or.inl ⟨by rfl, ?_⟩) hSw ?_
  · intro wz hsz
    obtain ⟨hc8, hc9, hc7⟩ := hsz
    (have ha2 := HA2.out; have hm2e := HM2.out; have hc2e := HC2.out)
    go_simp
  try simp [Act.put]
  refine wpAnyH_take (i := 11) (v := .pointer (some ⟨P, 0, none⟩)) rfl (by kernel_rfl) (by kernel_rfl) (by kernel_rfl) (fun _ _ _ h => h) (Or.inl ⟨by rfl, ?_⟩) hSw ?_
  · intro wz hsz
    obtain ⟨hc8, hc9, hc7⟩ := hsz
    go_simp
  try simp [Act.put]
  refine wpAnyH_take (i := 12) (v := .pointer (some ⟨P, 0, none⟩)) rfl (by kernel_rfl) (by kernel_rfl) (by kernel_rfl) (fun _ _ _ h => h) (Or.inl ⟨by rfl, ?_⟩) hSw ?_
  · intro wz hsz
    obtain ⟨hc8, hc9, hc7⟩ := hsz
    go_simp
  try simp [Act.put]
  refine wpAnyH_take (i := 13) (v := .pointer (some ⟨P, 0, none⟩)) rfl (by kernel_rfl) (by kernel_rfl) (by kernel_rfl) (fun _ _ _ h => h) (Or.inl ⟨by rfl, ?_⟩) hSw ?_
  · intro wz hsz
    obtain ⟨hc8, hc9, hc7⟩ := hsz
    go_simp
  try simp [Act.put]
  refine wpAnyH_take (i := 14) (v := .pointer (some ⟨P, 1, none⟩)) rfl (by kernel_rfl) (by kernel_rfl) (by kernel_rfl) (fun _ _ _ h => h) (Or.inl ⟨by rfl, ?_⟩) hSw ?_
  · intro wz hsz
    obtain ⟨hc8, hc9, hc7⟩ := hsz
    go_simp
  try simp [Act.put]
  refine wpAnyH_take (i := 15) (v := .int .i64 sh) rfl (by kernel_rfl) (by kernel_rfl) (by kernel_rfl) (fun _ _ _ h => h) (Or.inl ⟨by rfl, ?_⟩) hSw ?_
  · intro wz hsz
    obtain ⟨hc8, hc9, hc7⟩ := hsz
    go_simp
  try simp [Act.put]
  refine wpAnyH_take (i := 16) (v := .pointer (some ⟨P, 0, none⟩)) rfl (by kernel_rfl) (by kernel_rfl) (by kernel_rfl) (fun _ _ _ h => h) (Or.inl ⟨by rfl, ?_⟩) hSw ?_
  · intro wz hsz
    obtain ⟨hc8, hc9, hc7⟩ := hsz
    go_simp
  try simp [Act.put]
  refine wpAnyH_take (i := 17) (v := .pointer (some ⟨P, 0, none⟩)) rfl (by kernel_rfl) (by kernel_rfl) (by kernel_rfl) (fun _ _ _ h => h) (Or.inl ⟨by rfl, ?_⟩) hSw ?_
  · intro wz hsz
    obtain ⟨hc8, hc9, hc7⟩ := hsz
    go_simp
  try simp [Act.put]
  refine wpAnyH_take (i := 18) (v := .pointer (some ⟨P, 6, none⟩)) rfl (by kernel_rfl) (by kernel_rfl) (by kernel_rfl) (fun _ _ _ h => h) (Or.inl ⟨by rfl, ?_⟩) hSw ?_
  · intro wz hsz
    obtain ⟨hc8, hc9, hc7⟩ := hsz
    go_simp
  try simp [Act.put]
  refine wpAnyH_take (i := 20) (v := .pointer (some ⟨P, 0, none⟩)) rfl (by kernel_rfl) (by kernel_rfl) (by kernel_rfl) (fun _ _ _ h => h) (Or.inl ⟨by rfl, ?_⟩) hSw ?_
  · intro wz hsz
    obtain ⟨hc8, hc9, hc7⟩ := hsz
    go_simp
  try simp [Act.put]
  refine wpAnyH_ready (rs := [10]) (by kernel_rfl) (by simp) ?_
  refine AllReadyH.cons rfl (fun K9 hK => ?_) AllReadyH.nil
  go_simp
  go_at_call 66
  refine (kF _ (Below.refl _ _).drew).mono ?_
  rintro e9 w4 ⟨a4, c4', rfl, hq4, hs4, hb4⟩
  have D4 : Spk w4 P qa qm qc sh er of lf se ec := Bx.on Dd hb4
  have bR4 := bRd.on hb4
  have hB4 := stepA hb0.drew hb4
  refine hK.out _ _ (⟨D4.c0, D4.c1, D4.c4⟩) (fun hSn => ?_)
  clear hK K9 hSw
  have hSw := hSn
  clear hSn
  try simp [Act.put]
  refine wpAnyH_ready (rs := [19]) (by kernel_rfl) (by simp) ?_
  refine AllReadyH.cons rfl (fun K9 hK => ?_) AllReadyH.nil
  go_simp
  go_at_call 67
  refine (atLoad P 6 ec w4 D4.c6).mono ?_
  rintro e9 w5 ⟨rfl, hw5⟩
  have hs5 := hw5.symm
  clear hw5
  subst hs5
  refine hK.out _ _ (⟨D4.c0, D4.c1, D4.c4⟩) (fun hSn => ?_)
  clear hK K9 hSw
  have hSw := hSn
  clear hSn
  try simp [Act.put]
  refine wpAnyH_ready (rs := [21]) (by kernel_rfl) (by simp) ?_
  refine AllReadyH.cons rfl (fun K9 hK => ?_) AllReadyH.nil
  go_simp
  go_at_call 59
  refine (off_any P qa qm qc sh er of lf se ec w4 D4).mono ?_
  rintro e9 w5 ⟨rfl, hw5⟩
  have hs5 := hw5.symm
  clear hw5
  subst hs5
  refine hK.out _ _ (⟨D4.c0, D4.c1, D4.c4⟩) (fun hSn => ?_)
  clear hK K9 hSw
  have hSw := hSn
  clear hSn
  try simp [Act.put]
  refine wpAnyH_take (i := 22) (v := tkv a4 m2 c4' sh ec (ec == 255)) rfl (by kernel_rfl) (by kernel_rfl) (by kernel_rfl) (fun _ _ _ h => h) (Or.inl ⟨by rfl, ?_⟩) hSw ?_
  · intro wz hsz
    obtain ⟨hc8, hc9, hc7⟩ := hsz
    go_simp
  try simp [Act.put]
  have r0 := bR4.c0
  have r1 := bR4.c1
  have r2 := bR4.c2
  have r3 := bR4.c3
  have g0 := bR4.fz 0
  have g1 := bR4.fz 1
  have g2 := bR4.fz 2
  have g3 := bR4.fz 3
  refine wpAnyH_ready (rs := [23]) (by kernel_rfl) (by simp) ?_
  refine AllReadyH.cons rfl (fun K9 hK => ?_) AllReadyH.nil
  go_simp
  have bE := (((bR4.set 0 (by simp) (.slice a4 m2 c4')).set 1 (by simp) (.int .i64 sh)).set 2 (by simp) (.int .i64 ec)).set 3 (by simp) (.bool (ec == 255))
  have hB5 := (((hB4.setCell (p := ⟨w.heap.size, 0, none⟩) (Nat.le_refl _) (.slice a4 m2 c4')).setCell (p := ⟨w.heap.size, 1, none⟩) (Nat.le_refl _) (.int .i64 sh)).setCell (p := ⟨w.heap.size, 2, none⟩) (Nat.le_refl _) (.int .i64 ec)).setCell (p := ⟨w.heap.size, 3, none⟩) (Nat.le_refl _) (.bool (ec == 255))
  have hWl : W.drew.heap.size = W.heap.size := rfl
  have hO := ((((Only.refl w.heap.size w4).set 0 (.slice a4 m2 c4')).set 1 (.int .i64 sh)).set 2 (.int .i64 ec)).set 3 (.bool (ec == 255))
  clear r0 r1 r2 r3 g0 g1 g2 g3
  have hq5 := hq4.turns (OnlyIn.of hO (Nat.le_refl _) (Nat.lt_succ_self _)).turns (.inr (by omega))
  have hPne : P ≠ w.heap.size := by omega
  have hfar := fun (k : Nat) => cell_same (hO.block P hPne) k
  have hsz7 : w4.heap.size = ((((w4.setCell ⟨w.heap.size, 0, none⟩ (.slice a4 m2 c4')).setCell ⟨w.heap.size, 1, none⟩ (.int .i64 sh)).setCell ⟨w.heap.size, 2, none⟩ (.int .i64 ec)).setCell ⟨w.heap.size, 3, none⟩ (.bool (ec == 255))).heap.size := hO.size.symm
  have HQ7 := hq5.wide (show w.heap.size ≤ W.drew.heap.size by omega) (Nat.le_of_eq hsz7)
  have z0 := (hfar 0).trans D4.c0
  have z1 := (hfar 1).trans D4.c1
  have z4 := (hfar 4).trans D4.c4
  clear hfar hO hq5 hsz7
  generalize (((w4.setCell ⟨w.heap.size, 0, none⟩ (.slice a4 m2 c4')).setCell ⟨w.heap.size, 1, none⟩ (.int .i64 sh)).setCell ⟨w.heap.size, 2, none⟩ (.int .i64 ec)).setCell ⟨w.heap.size, 3, none⟩ (.bool (ec == 255)) = w7 at *
  refine hK.out _ _ (⟨z0, z1, z4⟩) (fun hSn => ?_)
  clear hK K9 hSw
  have hSw := hSn
  clear hSn
  try simp [Act.put]
  refine wpAnyH_done (by kernel_rfl) ?_ _
  clear hSw
  go_wp2_with fail
  refine ret_tkv Try.results50 rfl bE rfl ?_
  exact ⟨_, _, rfl, HQ7, hs4, hB5⟩
set_option maxHeartbeats 400000 in
theorem now_any (P : Nat) (qa : Option Addr) (qm qc : Nat) (sh er : Int) (of : Bool) (lf : Nat) (se ec : Int) (I : Nat → Int) (A : Nat → Option Addr) (N C : Nat → Nat) (S : Nat → Nat → Int) (w : World) (hq : qm ≤ 1048576) (hl : lf ≤ qm) (hN : ∀ j, j < qm → N j ≤ 1048576) (h : Spk w P qa qm qc sh er of lf se ec) (hF : FrF w qa qm I A N C S) (hs : Shp qa qm qc) :
    Calls Try.prog 50 #[.pointer (some ⟨P, 0, none⟩)] w fun e w' => AnsNw w w' e (qm - lf) (fun j => I (lf + j)) (fun j => N (lf + j)) (fun j => S (lf + j)) sh ec := by
  rcases hF.rest hs hl with ⟨rfl, rfl, rfl, rfl⟩ | ⟨b, o, rfl, hF2, hF3⟩
  · exact nowW P none none 0 0 (0 - 0) (0 - 0) sh er of 0 se ec _ A _ C _ w (by omega) (fun j hj => absurd hj (by omega)) (Bx.lt h) h ⟨fun h0 => absurd h0 (by omega), fun j hj => absurd hj (by omega), fun j hj => absurd hj (by omega)⟩ (Nat.le_refl _) rfl rfl rfl
  · by_cases hz : qc = lf
    · exact nowW P _ _ qm qc (qm - lf) (qc - lf) sh er of lf se ec _ _ _ _ _ w (by omega) (fun j hj => hN (lf + j) (by omega)) (Bx.lt h) h (hF3 (by have := hs.1; omega)) hl (by rw [if_pos hz]) rfl rfl
    · exact nowW P _ _ qm qc (qm - lf) (qc - lf) sh er of lf se ec _ _ _ _ _ w (by omega) (fun j hj => hN (lf + j) (by omega)) (Bx.lt h) h hF2 hl (by rw [if_neg hz]; simp only [Option.map_some, Addr.add_lit]) rfl rfl
end Go.Proofs.Ytldagjgpapnfpaa
