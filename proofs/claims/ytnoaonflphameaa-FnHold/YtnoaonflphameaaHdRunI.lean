/- RunHold, as the program takes it. -/
import Derived.Test.YtnoaonflphameaaHdRunM
namespace Go.Proofs.Ytnoaonflphameaa
open Go.RowKit

theorem row_zero {w : World} {b n : Nat} (h : w.rowIs b 3 n (fun _ => .int .i64 0)) : IP w b n (fun _ => 0) := ⟨h.lt, fun _ hi => h.cell hi, fun j => h.frozen j⟩
/-- a list that came in, at a place, in a later world -/
theorem il_at {w wr : World} {a : Option Addr} {n : Nat} {f : Nat → Int} (h : IL w a n f) (hB : Below w.heap.size w wr) : IL wr a n f := h.below hB

theorem bx_four {w : World} {b b' : Nat} {vs : List Value} (h : Bx w b vs) (hn : b ≠ b') (x y z u : Value) : Bx ((((w.setCell ⟨b', 0, none⟩ x).setCell ⟨b', 1, none⟩ y).setCell ⟨b', 2, none⟩ z).setCell ⟨b', 3, none⟩ u) b vs :=
  (((h.far _ hn).far _ hn).far _ hn).far _ hn
theorem ip_four {w : World} {b b' n : Nat} {F : Nat → Int} (h : IP w b n F) (hn : b ≠ b') (x y z u : Value) : IP ((((w.setCell ⟨b', 0, none⟩ x).setCell ⟨b', 1, none⟩ y).setCell ⟨b', 2, none⟩ z).setCell ⟨b', 3, none⟩ u) b n F :=
  h.only (((((Only.refl b' w).set 0 x).set 1 y).set 2 z).set 3 u) hn
theorem keepRun {wr w2 : World} {b0 b1 ba oa bb ob : Nat} {l : Lp} {st : Hd} {x y : Value} (c0 : Bx wr b0 (lvs l)) (c1 : Bx wr b1 (hvs st)) (q0 : wr.cell? ⟨ba, oa, none⟩ = some x) (q1 : wr.cell? ⟨bb, ob, none⟩ = some y) (k : Below wr.heap.size wr w2) :
    w2.cell? ⟨b0, 0, none⟩ = some (.int .i64 l.P) ∧ w2.cell? ⟨b0, 1, none⟩ = some (.int .i64 l.I) ∧ w2.cell? ⟨b0, 2, none⟩ = some (.int .i64 l.D) ∧ w2.cell? ⟨b0, 3, none⟩ = some (.int .i64 l.S) ∧ w2.cell? ⟨b0, 4, none⟩ = some (.int .i64 l.M) ∧ w2.cell? ⟨b0, 5, none⟩ = some (.int .i64 l.W) ∧ w2.cell? ⟨b0, 6, none⟩ = some (.int .i64 l.L) ∧ w2.cell? ⟨b1, 0, none⟩ = some (.bool st.on) ∧ w2.cell? ⟨b1, 1, none⟩ = some (.int .i64 st.sum) ∧ w2.cell? ⟨b1, 2, none⟩ = some (.int .i64 st.last) ∧ w2.cell? ⟨b1, 3, none⟩ = some (.int .i64 st.out) ∧ w2.cell? ⟨ba, oa, none⟩ = some x ∧ w2.cell? ⟨bb, ob, none⟩ = some y := by
  obtain ⟨x0, x1, x2, x3, x4, x5, x6⟩ := loop_at (c0.on k)
  obtain ⟨y0, y1, y2, y3⟩ := hold_at (c1.on k)
  exact ⟨x0, x1, x2, x3, x4, x5, x6, y0, y1, y2, y3, (k.cell (p := ⟨ba, oa, none⟩) (World.block_lt_of_cell? _ _ q0)).trans q0, (k.cell (p := ⟨bb, ob, none⟩) (World.block_lt_of_cell? _ _ q1)).trans q1⟩

set_option maxHeartbeats 4000000 in
set_option maxRecDepth 20000 in
theorem implRun_in (l : Lp) (h : Hd) (a b : Option Addr) (n c d : Nat) (f g : Nat → Int) (w : World) (hg : goodH l h = true) (hn : n ≤ 60) (hA : IL w a n f) (hA2 : IL w b n g) (N : Nat) (H : Hd) (B : Bool)
    (HY : Hid (okN l h f g n = true → N = n ∧ H = stN l h f g n ∧ B = true)) (HN : Hid (okN l h f g n = false → N = 0 ∧ H = hd0 ∧ B = false)) :
    Calls Try.prog 13 #[lv l, hv h, .slice a n c, .slice b n d] w fun e w' => AnsR w w' N (outF l h f g) H B e := by
  obtain ⟨z0, z1, z2, hB0⟩ := boxes_lha l h w
  have hG := fun w => implGoodH l h w
  rw [hg] at hG
  have hmk := run_make_row' (P := Try.prog) 23 3 (.int .i64 0) 8 Try.underlying23 infoI rfl .i64 .i64 n (by omega) (by omega)
  have j1 : (n : Int) ≤ 60 := by omega
  go_enter Try.func13, Try.ntmps13
  go_wp2_with fail
  refine (hG _).mono ?_
  rintro e w1 ⟨rfl, hb⟩
  have b0 := z0.on hb
  have b1 := z1.on hb
  have b2 := z2.on hb
  have hB1 := stepA hB0 hb
  clear hb z0 z1 z2 hB0 hG
  have hi0 := row_zero (World.rowIs_made w1 (.int .i64 0) n 3)
  have HI : Hid (IP (w1.alloc (.cells (madeCells #[.int .i64 0] n) 3)) w1.heap.size n (fun _ => 0)) := hi0
  clear hi0
  have d0 := b0.alloc (.cells (madeCells #[.int .i64 0] n) 3)
  have d1 := b1.alloc (.cells (madeCells #[.int .i64 0] n) 3)
  have d2 := b2.alloc (.cells (madeCells #[.int .i64 0] n) 3)
  have hK : w.heap.size + 1 + 1 < w1.heap.size := b2.lt
  have hB2 : Below w.heap.size w (w1.alloc (.cells (madeCells #[.int .i64 0] n) 3)) := hB1.alloc hB1.size _
  clear b0 b1 b2 hB1
  go_wp2_with fail
  clear hmk
  generalize w1.alloc (.cells (madeCells #[.int .i64 0] n) 3) = w2 at HI d0 d1 d2 hB2 ⊢
  generalize w1.heap.size = K at HI hK ⊢
  go_loopw [37] (fun i wr => ∃ k : Nat, k ≤ n ∧ i = .int .i64 k ∧ okN l h f g k = true ∧ Bx wr w.heap.size (lvs l) ∧ Bx wr (w.heap.size + 1) (hvs (stN l h f g k)) ∧ Bx wr (w.heap.size + 1 + 1) (hvs hd0) ∧ Below w.heap.size w wr ∧ (∃ F, IP wr K n F ∧ ∀ j, j < k → F j = outF l h f g j)) (fun i _ => n - (intOf i).toNat)
  case atStart => exact ⟨0, Nat.zero_le _, rfl, rfl, d0, d1, d2, hB2, fun _ => 0, HI.out, fun j hj => absurd hj (Nat.not_lt_zero _)⟩
  case round =>
    obtain ⟨k, hk, rfl, hok, c0, c1, c2, hB, F, hP, hF⟩ := hrel
    clear HI d0 d1 d2 hB2
    by_cases hlt : k < n
    · have j3 : (k : Int) < (n : Int) := by omega
      obtain ⟨ba, oa, rfl, hba, hca⟩ := hA (by omega)
      obtain ⟨bb, ob, rfl, hbb, hcb⟩ := hA2 (by omega)
      have q0 : wr.cell? ⟨ba, oa + k, none⟩ = some (.int .i64 (f k)) := (hB.cell (p := ⟨ba, _, none⟩) hba).trans (hca k hlt)
      have q1 : wr.cell? ⟨bb, ob + k, none⟩ = some (.int .i64 (g k)) := (hB.cell (p := ⟨bb, _, none⟩) hbb).trans (hcb k hlt)
      have hS := fun w => implStep l (stN l h f g k) (f k) (g k) w
      have hsz := c2.lt
      have HOK : Hid (okN l h f g k = true) := hok
      have HFF : Hid (∀ j, j < k → F j = outF l h f g j) := hF
      clear hok hF hca hcb hA hA2
      obtain ⟨x0, x1, x2, x3, x4, x5, x6⟩ := loop_at c0
      obtain ⟨y0, y1, y2, y3⟩ := hold_at c1
      generalize hR : stepH l (stN l h f g k) (f k) (g k) = R at hS
      generalize hQ : okS l (stN l h f g k) (f k) (g k) = Q at hS
      have HR : Hid (stepH l (stN l h f g k) (f k) (g k) = R) := hR
      have HQ : Hid (okS l (stN l h f g k) (f k) (g k) = Q) := hQ
      clear hR hQ
      generalize hst : stN l h f g k = st at c1 hS y0 y1 y2 y3
      have HST : Hid (stN l h f g k = st) := hst
      clear hst
      go_upto_region 7 with fail
      have hw0 := Below.refl wr.heap.size wr
      go_cut [13, 14] from 40 to 53 (fun s13 s14 wx => ∃ gb, s13 = .pointer (some ⟨gb, 0, none⟩) ∧ wr.heap.size ≤ gb ∧ Bx wx gb (hvs R) ∧ Below wr.heap.size wr wx ∧ s14 = .bool Q)
      case first =>
        go_region_held3 (fun w' => w'.cell? ⟨w.heap.size, 0, none⟩ = some (.int .i64 l.P) ∧ w'.cell? ⟨w.heap.size, 1, none⟩ = some (.int .i64 l.I) ∧ w'.cell? ⟨w.heap.size, 2, none⟩ = some (.int .i64 l.D) ∧ w'.cell? ⟨w.heap.size, 3, none⟩ = some (.int .i64 l.S) ∧ w'.cell? ⟨w.heap.size, 4, none⟩ = some (.int .i64 l.M) ∧ w'.cell? ⟨w.heap.size, 5, none⟩ = some (.int .i64 l.W) ∧ w'.cell? ⟨w.heap.size, 6, none⟩ = some (.int .i64 l.L) ∧ w'.cell? ⟨w.heap.size + 1, 0, none⟩ = some (.bool st.on) ∧ w'.cell? ⟨w.heap.size + 1, 1, none⟩ = some (.int .i64 st.sum) ∧ w'.cell? ⟨w.heap.size + 1, 2, none⟩ = some (.int .i64 st.last) ∧ w'.cell? ⟨w.heap.size + 1, 3, none⟩ = some (.int .i64 st.out) ∧ w'.cell? ⟨ba, oa + k, none⟩ = some (.int .i64 (f k)) ∧ w'.cell? ⟨bb, ob + k, none⟩ = some (.int .i64 (g k)))
          (first | (exact keepRun c0 c1 q0 q1 hw0.drew) | (exact keepRun c0 c1 q0 q1 hw1) | (exact keepRun c0 c1 q0 q1 (hw0.alloc (Nat.le_refl _) _).drew) | (exact keepRun c0 c1 q0 q1 (hw1.alloc hw1.size _)) | (exact keepRun c0 c1 q0 q1 (below_four hw1 (Nat.le_refl _) _ _ _ _)) | (fail))
          (first | (go_at_call 15; refine (hS _).mono ?_; rintro e w3 ⟨rfl, hbn⟩; (first | (have hw1 := stepA hw0.drew hbn) | (have tk := below_al ((Below.refl _ _).drew.trans hbn); have hw1 := stepA hw0 tk; have nb := (bx_new (b := wr.heap.size) (w := wr) (hvs hd0) 36 rfl).on ((Below.refl _ _).drew.trans hbn))); clear hbn; (try (obtain ⟨m0, m1, m2, m3⟩ := hold_at nb; have f0 := nb.fz 0; have f1 := nb.fz 1; have f2 := nb.fz 2; have f3 := nb.fz 3))) | (fail))
        all_goals
          go_wp2_with fail
          go_meet
          case rel =>
            first
            | exact ⟨_, rfl, hw1.size, bx_new _ _ rfl, hw1.alloc hw1.size _, rfl⟩
            | exact ⟨_, rfl, Nat.le_refl _, nb.set4 _, below_four hw1 (Nat.le_refl _) _ _ _ _, rfl⟩
      case rest =>
        obtain ⟨gb, rfl, hgb, G, hbn, rfl⟩ := hcut
        have e0 := c0.on hbn
        have e1 := c1.on hbn
        have e2 := c2.on hbn
        have hP2 := hP.below hbn hP.lt
        have hB2 := stepA hB hbn
        have hKw := hP.lt
        clear x0 x1 x2 x3 x4 x5 x6 y0 y1 y2 y3 c0 c1 c2 hB hP hbn q0 q1 hw0 hS
        cases Q
        · obtain ⟨rfl, rfl, rfl⟩ := HN.out (okN_no hlt HQ.out)
          obtain ⟨y0, y1, y2, y3⟩ := hold_at e2
          have f0 := e2.fz 0
          have f1 := e2.fz 1
          have f2 := e2.fz 2
          have f3 := e2.fz 3
          go_wp2
          exact ret_run rfl rfl (e2.set4 hd0) rfl ⟨none, 0, rfl, lq_none _ _ _ _ _, below_four hB2 (by omega) _ _ _ _⟩
        · obtain ⟨m0, m1, m2, m3⟩ := hold_at G
          obtain ⟨y0, y1, y2, y3⟩ := hold_at e1
          have f0 := e1.fz 0
          have f1 := e1.fz 1
          have f2 := e1.fz 2
          have f3 := e1.fz 3
          have p0 := hP2.c k hlt
          have p1 := hP2.fz k
          go_upto_region 10 with fail
          go_region
          all_goals
            go_wp2
            have e3 := HR.out
            have hP3 := (ip_four hP2 (b' := w.heap.size + 1) (by omega) (.bool R.on) (.int .i64 R.sum) (.int .i64 R.last) (.int .i64 R.out)).set hlt R.out
            refine ⟨⟨k + 1, by omega, by go_num, by unfold okN; rw [HOK.out, HQ.out]; rfl, ((bx_four e0 (by omega) _ _ _ _).far _ (by omega)).on (Below.refl _ _).drew, ?_, ((bx_four e2 (by omega) _ _ _ _).far _ (by omega)).on (Below.refl _ _).drew, ((below_four hB2 (by omega) _ _ _ _).setCell (p := ⟨K, k, none⟩) (by simp; omega) _).drew, _, hP3.below (Below.refl _ _).drew hP3.lt, fun j hj => ?_⟩, by simp [intOf]; omega⟩
            · unfold stN; rw [e3]; exact ((e1.set4 R).far _ (by omega)).on (Below.refl _ _).drew
            · unfold put
              by_cases e : j = k
              · subst e; rw [if_pos rfl]; unfold outF stN; rw [e3]
              · rw [if_neg e]; exact HFF.out j (by omega)
    · have hke : k = n := by omega
      subst hke
      obtain ⟨hN1, hH1, rfl⟩ := HY.out hok
      have hN2 := hN1.symm
      subst hN2
      rw [← hH1] at c1
      clear HY HN hok hA hA2 hN1 hH1
      have HFF : Hid (∀ j, j < k → F j = outF l h f g j) := hF
      clear hF
      have hKw := hP.lt
      obtain ⟨y0, y1, y2, y3⟩ := hold_at c1
      obtain ⟨r0, r1, r2, r3⟩ := hold_at c2
      have f0 := c2.fz 0
      have f1 := c2.fz 1
      have f2 := c2.fz 2
      have f3 := c2.fz 3
      go_wp2_with fail
      go_region
      all_goals
        go_wp2
        refine ret_run rfl rfl ((c2.set4 H).on (Below.refl _ _).drew) rfl ⟨some ⟨K, 0, none⟩, k, rfl, ?_, (below_four hB (by omega) _ _ _ _).drew⟩
        have hI := ip_four hP (b' := w.heap.size + 1 + 1) (by omega) (.bool H.on) (.int .i64 H.sum) (.int .i64 H.last) (.int .i64 H.out)
        exact (lq_of (hI.below (Below.refl _ _).drew hI.lt) (by omega) hI.lt).congr HFF.out
end Go.Proofs.Ytnoaonflphameaa
