/- The law FnHold, walked. -/
import Derived.Test.YtnoaonflphameaaHdDrH
import Derived.Test.YtnoaonflphameaaHdHf
import Derived.Test.YtnoaonflphameaaHdRunS
import Derived.Deep.RegionHeld3
namespace Go.Proofs.Ytnoaonflphameaa
open Go.RowKit

/-- what stands while the steps are gone through one by one: the loop's box, the hold's, the end's, the outputs -/
structure Lh (W0 wx : World) (lo hi : Nat) (l : Lp) (hk hn : Hd) (B8 : Nat) (x : Option Addr) (n : Nat) (F : Nat → Int) : Prop where
  c3 : Bx wx W0.heap.size (lvs l)
  c4 : Bx wx (W0.heap.size + 1) (hvs hk)
  c8 : Bx wx B8 (hvs hn)
  q : LQ wx lo hi x n F
  be : Below W0.heap.size W0 wx
theorem Lh.on {W0 wx w2 : World} {lo hi : Nat} {l : Lp} {hk hn : Hd} {B8 : Nat} {x : Option Addr} {n : Nat} {F : Nat → Int} (g : Lh W0 wx lo hi l hk hn B8 x n F) (k : Below wx.heap.size wx w2) : Lh W0 w2 lo hi l hk hn B8 x n F :=
  ⟨g.c3.on k, g.c4.on k, g.c8.on k, g.q.on k, stepA g.be k⟩
theorem Lh.put {W0 wx : World} {lo hi : Nat} {l : Lp} {hk hn : Hd} {B8 : Nat} {x : Option Addr} {n : Nat} {F : Nat → Int} (g : Lh W0 wx lo hi l hk hn B8 x n F) (h2 : Hd) (h8 : W0.heap.size + 1 < B8) (hlo : W0.heap.size + 1 < lo) :
    Lh W0 ((((wx.setCell ⟨W0.heap.size + 1, 0, none⟩ (.bool h2.on)).setCell ⟨W0.heap.size + 1, 1, none⟩ (.int .i64 h2.sum)).setCell ⟨W0.heap.size + 1, 2, none⟩ (.int .i64 h2.last)).setCell ⟨W0.heap.size + 1, 3, none⟩ (.int .i64 h2.out)) lo hi l h2 hn B8 x n F :=
  ⟨bx_four g.c3 (by omega) _ _ _ _, g.c4.set4 h2, bx_four g.c8 (by omega) _ _ _ _, lq_four g.q (.inl hlo) _ _ _ _, below_four g.be (by omega) _ _ _ _⟩
theorem keep14 {wr w2 : World} {b0 b1 ba oa : Nat} {l : Lp} {st : Hd} {x : Value} (c0 : Bx wr b0 (lvs l)) (c1 : Bx wr b1 (hvs st)) (q0 : wr.cell? ⟨ba, oa, none⟩ = some x) (k : Below wr.heap.size wr w2) :
    w2.cell? ⟨b0, 0, none⟩ = some (.int .i64 l.P) ∧ w2.cell? ⟨b0, 1, none⟩ = some (.int .i64 l.I) ∧ w2.cell? ⟨b0, 2, none⟩ = some (.int .i64 l.D) ∧ w2.cell? ⟨b0, 3, none⟩ = some (.int .i64 l.S) ∧ w2.cell? ⟨b0, 4, none⟩ = some (.int .i64 l.M) ∧ w2.cell? ⟨b0, 5, none⟩ = some (.int .i64 l.W) ∧ w2.cell? ⟨b0, 6, none⟩ = some (.int .i64 l.L) ∧ w2.cell? ⟨b1, 0, none⟩ = some (.bool st.on) ∧ w2.cell? ⟨b1, 1, none⟩ = some (.int .i64 st.sum) ∧ w2.cell? ⟨b1, 2, none⟩ = some (.int .i64 st.last) ∧ w2.cell? ⟨b1, 3, none⟩ = some (.int .i64 st.out) ∧ w2.cell? ⟨ba, oa, none⟩ = some x := by
  obtain ⟨x0, x1, x2, x3, x4, x5, x6⟩ := loop_at (c0.on k)
  obtain ⟨y0, y1, y2, y3⟩ := hold_at (c1.on k)
  exact ⟨x0, x1, x2, x3, x4, x5, x6, y0, y1, y2, y3, (k.cell (p := ⟨ba, _, none⟩) (World.block_lt_of_cell? _ _ q0)).trans q0⟩
theorem keep16 {wr w2 : World} {b0 b1 b2 ba oa bb ob : Nat} {l : Lp} {st R : Hd} {x y : Value} (c0 : Bx wr b0 (lvs l)) (c1 : Bx wr b1 (hvs st)) (c2 : Bx wr b2 (hvs R)) (q0 : wr.cell? ⟨ba, oa, none⟩ = some x) (q1 : wr.cell? ⟨bb, ob, none⟩ = some y) (k : Below wr.heap.size wr w2) :
    w2.cell? ⟨b0, 0, none⟩ = some (.int .i64 l.P) ∧ w2.cell? ⟨b0, 1, none⟩ = some (.int .i64 l.I) ∧ w2.cell? ⟨b0, 2, none⟩ = some (.int .i64 l.D) ∧ w2.cell? ⟨b0, 3, none⟩ = some (.int .i64 l.S) ∧ w2.cell? ⟨b0, 4, none⟩ = some (.int .i64 l.M) ∧ w2.cell? ⟨b0, 5, none⟩ = some (.int .i64 l.W) ∧ w2.cell? ⟨b0, 6, none⟩ = some (.int .i64 l.L) ∧ w2.cell? ⟨b1, 0, none⟩ = some (.bool st.on) ∧ w2.cell? ⟨b1, 1, none⟩ = some (.int .i64 st.sum) ∧ w2.cell? ⟨b1, 2, none⟩ = some (.int .i64 st.last) ∧ w2.cell? ⟨b1, 3, none⟩ = some (.int .i64 st.out) ∧ w2.cell? ⟨b2, 0, none⟩ = some (.bool R.on) ∧ w2.cell? ⟨b2, 1, none⟩ = some (.int .i64 R.sum) ∧ w2.cell? ⟨b2, 2, none⟩ = some (.int .i64 R.last) ∧ w2.cell? ⟨b2, 3, none⟩ = some (.int .i64 R.out) ∧ w2.cell? ⟨ba, oa, none⟩ = some x ∧ w2.cell? ⟨bb, ob, none⟩ = some y := by
  obtain ⟨x0, x1, x2, x3, x4, x5, x6⟩ := loop_at (c0.on k)
  obtain ⟨y0, y1, y2, y3⟩ := hold_at (c1.on k)
  obtain ⟨z0, z1, z2, z3⟩ := hold_at (c2.on k)
  exact ⟨x0, x1, x2, x3, x4, x5, x6, y0, y1, y2, y3, z0, z1, z2, z3, (k.cell (p := ⟨ba, _, none⟩) (World.block_lt_of_cell? _ _ q0)).trans q0, (k.cell (p := ⟨bb, _, none⟩) (World.block_lt_of_cell? _ _ q1)).trans q1⟩

set_option maxHeartbeats 8000000 in
set_option maxRecDepth 20000 in
theorem fnHold_in (a : Option Addr) (len cap : Nat) (w : World) (hl : len ≤ 1048576) (hb : 0 < len → ∃ b off, a = some ⟨b, off, none⟩ ∧ b < w.heap.size ∧ ∀ i, i < len → ∃ v : Int, w.cell? ⟨b, off + i, none⟩ = some (.int .u8 v) ∧ 0 ≤ v ∧ v ≤ 255) :
    Calls Try.prog 4 #[.slice a len cap] w fun e w' => e = .returned (.bool true) ∧ Below w.heap.size w w' := by
  have hD := drawHold a len cap w hl hb
  have j1 : (len : Int) ≤ 1048576 := by omega
  clear hb
  go_enter Try.func4, Try.ntmps4
  go_wp2_with fail
  refine hD.mono ?_
  rintro e W0 ⟨l, h, xw, n, cw, f, xs, m, cs, g, rfl, hX, hY, hn, hm, hB1⟩
  clear hD
  have h1 := fun w (hx : IL w xw n f) (hy : IL w xs m g) => implRun l h xw xs n cw m cs f g w hx hy
  have h2 := fun w (hx : IL w xw n f) (hy : IL w xs m g) => specRun l h xw xs n cw m cs f g w hx hy
  generalize hrb : runB l h n m f g = rb at h1 h2
  generalize hrn : runN l h n m f g = rn at h1 h2
  generalize hrh : runH l h n m f g = rh at h1 h2
  have HRB : Hid (runB l h n m f g = rb) := hrb
  have HRN : Hid (runN l h n m f g = rn) := hrn
  have HRH : Hid (runH l h n m f g = rh) := hrh
  clear hrb hrn hrh
  go_upto_region 4 with fail
  have hA : Below W0.heap.size W0 ((W0.alloc (lvo l)).alloc (hvo h)) := ((Below.refl _ _).alloc (Nat.le_refl _) _).alloc (by simp) _
  have b3 : Bx ((W0.alloc (lvo l)).alloc (hvo h)) W0.heap.size (lvs l) := (bx_new (b := W0.heap.size) (w := W0) (lvs l) 34 rfl).alloc _
  have b4 : Bx ((W0.alloc (lvo l)).alloc (hvo h)) (W0.heap.size + 1) (hvs h) := bx_new _ _ (by simp only [size_al])
  generalize (W0.alloc (lvo l)).alloc (hvo h) = w1 at hA b3 b4 ⊢
  obtain ⟨x0, x1, x2, x3, x4, x5, x6⟩ := loop_at b3
  obtain ⟨y0, y1, y2, y3⟩ := hold_at b4
  go_wp2_with fail
  refine (h1 _ (hX.below hA) (hY.below hA)).mono ?_
  rintro e w2 ⟨xo, co, rfl, hq, hb2⟩
  have hlo : W0.heap.size + 1 < w1.heap.size := b4.lt
  have hz2 := hb2.size
  go_upto_region 5 with fail
  have hA2 := (Below.refl w2.heap.size w2).alloc (Nat.le_refl _) (hvo rh)
  have G2 : Lh W0 (w2.alloc (hvo rh)) w1.heap.size w2.heap.size l h rh w2.heap.size xo rn (outF l h f g) := ⟨(b3.on hb2).on hA2, (b4.on hb2).on hA2, bx_new _ _ rfl, hq.on hA2, stepA (stepA hA hb2) hA2⟩
  have h8 : W0.heap.size + 1 < w2.heap.size := by omega
  clear x0 x1 x2 x3 x4 x5 x6 y0 y1 y2 y3 hq hb2 b3 b4 hA hA2 h1 hz2
  generalize w2.alloc (hvo rh) = w3 at G2 ⊢
  generalize w2.heap.size = B8 at G2 h8 ⊢
  generalize w1.heap.size = lo at G2 hlo
  obtain ⟨x0, x1, x2, x3, x4, x5, x6⟩ := loop_at G2.c3
  obtain ⟨y0, y1, y2, y3⟩ := hold_at G2.c4
  go_wp2_with fail
  refine (h2 _ (hX.below G2.be) (hY.below G2.be)).mono ?_
  rintro e w4 ⟨xp, cp, rfl, -, hb4⟩
  go_upto_region 6 with fail
  have hA4 := (Below.refl w4.heap.size w4).alloc (Nat.le_refl _) (hvo rh)
  have G4 := (G2.on hb4).on hA4
  clear x0 x1 x2 x3 x4 x5 x6 y0 y1 y2 y3 hb4 hA4 h2 G2
  generalize w4.alloc (hvo rh) = w5 at G4 ⊢
  generalize w4.heap.size = B11
  cases rb with
  | false =>
    go_wp2
    go_ret
    exact ⟨rfl, hB1.trans (G4.be.mono hB1.size)⟩
  | true =>
    have hrb := HRB.out
    have e1 : rn = n := by have e2 := HRN.out; unfold runN at e2; rw [hrb, if_pos rfl] at e2; exact e2.symm
    have e3 : rh = stN l h f g n := by have e2 := HRH.out; unfold runH at e2; rw [hrb, if_pos rfl] at e2; exact e2.symm
    have hrb2 := hrb
    unfold runB at hrb2
    simp only [Bool.and_eq_true, decide_eq_true_eq] at hrb2
    obtain ⟨⟨⟨hg, hn60⟩, hmn⟩, hok⟩ := hrb2
    subst hmn
    subst e1
    have HOK : Hid (okN l h f g rn = true) := hok
    clear HRN HRB hrb hok HRH
    have HE : Hid (rh = stN l h f g rn) := e3
    have H0 : Hid (stN l h f g 0 = h) := rfl
    clear e3
    go_wp2_with fail
    go_loopw [51] (fun i wr => ∃ k : Nat, k ≤ rn ∧ i = .int .i64 k ∧ Lh W0 wr lo B8 l (stN l h f g k) rh B8 xo rn (outF l h f g)) (fun i _ => rn - (intOf i).toNat)
    case atStart => exact ⟨0, Nat.zero_le _, rfl, by rw [H0.out]; exact G4⟩
    case round =>
      obtain ⟨k, hk, rfl, G⟩ := hrel
      clear G4
      by_cases hlt : k < rn
      · have j3 : (k : Int) < (rn : Int) := by omega
        obtain ⟨ba, oa, rfl, hba, hca⟩ := hX (by omega)
        obtain ⟨bb, ob, rfl, hbb, hcb⟩ := hY (by omega)
        obtain ⟨bo, rfl, hbo, hbo2, hpo⟩ := G.q (by omega)
        have q0 : wr.cell? ⟨ba, oa + k, none⟩ = some (.int .i64 (f k)) := (G.be.cell (p := ⟨ba, _, none⟩) hba).trans (hca k hlt)
        have q1 : wr.cell? ⟨bb, ob + k, none⟩ = some (.int .i64 (g k)) := (G.be.cell (p := ⟨bb, _, none⟩) hbb).trans (hcb k hlt)
        have q2 : wr.cell? ⟨bo, k, none⟩ = some (.int .i64 (outF l h f g k)) := hpo.c k hlt
        have hok1 := okN_le (k + 1) hlt HOK.out
        unfold okN at hok1
        have hokS := (Bool.and_eq_true_iff.1 hok1).2
        obtain ⟨-, hfk, hgk⟩ := okS_p hokS
        have hgood := good_step hokS
        have hS := fun w => implStep l (stN l h f g k) (f k) (g k) w
        rw [hokS] at hS
        have hGd := fun w => specGoodH l (stepH l (stN l h f g k) (f k) (g k)) w
        rw [hgood] at hGd
        have hFi := fun w => holdFine_any l (stN l h f g k) (f k) (g k) w hokS
        have ex : stepH l (stN l h f g k) (f k) (g k) = nextH l (stN l h f g k) (f k - g k) := by unfold stepH; rw [hokS, if_pos rfl]
        rw [← ex] at hFi
        have eo : outF l h f g k = (stepH l (stN l h f g k) (f k) (g k)).out := rfl
        rw [eo] at q2
        have en : stN l h f g (k + 1) = stepH l (stN l h f g k) (f k) (g k) := rfl
        have HN : Hid (stN l h f g (k + 1) = stepH l (stN l h f g k) (f k) (g k)) := en
        clear ex eo en hok1 hokS hgood hca hcb hX hY hpo
        generalize stepH l (stN l h f g k) (f k) (g k) = R at hS hGd hFi q2 HN
        generalize stN l h f g k = st at G hS hFi
        generalize f k = fk at q0 hS hFi hfk
        generalize g k = gk at q1 hS hFi hgk
        have c0 := G.c3
        have c1 := G.c4
        obtain ⟨x0, x1, x2, x3, x4, x5, x6⟩ := loop_at c0
        obtain ⟨y0, y1, y2, y3⟩ := hold_at c1
        go_upto_region 13 with fail
        have hw0 := Below.refl wr.heap.size wr
        go_cut [14, 15] from 54 to 67 (fun s13 s14 wx => ∃ gb, s13 = .pointer (some ⟨gb, 0, none⟩) ∧ wr.heap.size ≤ gb ∧ Bx wx gb (hvs R) ∧ Below wr.heap.size wr wx ∧ s14 = .bool true)
        case first =>
          go_region_held3 (fun w' => w'.cell? ⟨W0.heap.size, 0, none⟩ = some (.int .i64 l.P) ∧ w'.cell? ⟨W0.heap.size, 1, none⟩ = some (.int .i64 l.I) ∧ w'.cell? ⟨W0.heap.size, 2, none⟩ = some (.int .i64 l.D) ∧ w'.cell? ⟨W0.heap.size, 3, none⟩ = some (.int .i64 l.S) ∧ w'.cell? ⟨W0.heap.size, 4, none⟩ = some (.int .i64 l.M) ∧ w'.cell? ⟨W0.heap.size, 5, none⟩ = some (.int .i64 l.W) ∧ w'.cell? ⟨W0.heap.size, 6, none⟩ = some (.int .i64 l.L) ∧ w'.cell? ⟨W0.heap.size + 1, 0, none⟩ = some (.bool st.on) ∧ w'.cell? ⟨W0.heap.size + 1, 1, none⟩ = some (.int .i64 st.sum) ∧ w'.cell? ⟨W0.heap.size + 1, 2, none⟩ = some (.int .i64 st.last) ∧ w'.cell? ⟨W0.heap.size + 1, 3, none⟩ = some (.int .i64 st.out) ∧ w'.cell? ⟨ba, oa + k, none⟩ = some (.int .i64 fk) ∧ w'.cell? ⟨bb, ob + k, none⟩ = some (.int .i64 gk))
            (first | (exact keepRun c0 c1 q0 q1 hw0.drew) | (exact keepRun c0 c1 q0 q1 hw1) | (exact keepRun c0 c1 q0 q1 (hw0.alloc (Nat.le_refl _) _).drew) | (exact keepRun c0 c1 q0 q1 (hw1.alloc hw1.size _)) | (exact keepRun c0 c1 q0 q1 (below_four hw1 (Nat.le_refl _) _ _ _ _)) | (fail))
            (first | (go_at_call 15; refine (hS _).mono ?_; rintro e w6 ⟨rfl, hbn⟩; (first | (have hw1 := stepA hw0.drew hbn) | (have tk := below_al ((Below.refl _ _).drew.trans hbn); have hw1 := stepA hw0 tk; have nb := (bx_new (b := wr.heap.size) (w := wr) (hvs hd0) 36 rfl).on ((Below.refl _ _).drew.trans hbn))); clear hbn; (try (obtain ⟨m0, m1, m2, m3⟩ := hold_at nb; have f0 := nb.fz 0; have f1 := nb.fz 1; have f2 := nb.fz 2; have f3 := nb.fz 3))) | (fail))
          all_goals
            go_wp2_with fail
            go_meet
            case rel =>
              first
              | exact ⟨_, rfl, hw1.size, bx_new _ _ rfl, hw1.alloc hw1.size _, rfl⟩
              | exact ⟨_, rfl, Nat.le_refl _, nb.set4 _, below_four hw1 (Nat.le_refl _) _ _ _ _, rfl⟩
        case rest =>
          obtain ⟨gb, rfl, hgb, cR, hbn, rfl⟩ := hcut
          have hwr : W0.heap.size + 1 < wr.heap.size := c1.lt
          have qa := (hbn.cell (p := ⟨ba, _, none⟩) (World.block_lt_of_cell? _ _ q0)).trans q0
          have qb := (hbn.cell (p := ⟨bb, _, none⟩) (World.block_lt_of_cell? _ _ q1)).trans q1
          have qo := (hbn.cell (p := ⟨bo, _, none⟩) (World.block_lt_of_cell? _ _ q2)).trans q2
          have G6 := G.on hbn
          clear G c0 c1 x0 x1 x2 x3 x4 x5 x6 y0 y1 y2 y3 q0 q1 q2 hbn hS hw0
          generalize wc = w6 at cR qa qb qo G6 ⊢
          have c0 := G6.c3
          have c1 := G6.c4
          obtain ⟨x0, x1, x2, x3, x4, x5, x6⟩ := loop_at c0
          obtain ⟨z0, z1, z2, z3⟩ := hold_at cR
          have hw0 := Below.refl w6.heap.size w6
          go_upto_region 14 with fail
          go_cut [84] from 68 to 84 (fun sx wx => sx = .bool false ∧ Below w6.heap.size w6 wx)
          case first =>
            go_region_held3 (fun w' => w'.cell? ⟨W0.heap.size, 0, none⟩ = some (.int .i64 l.P) ∧ w'.cell? ⟨W0.heap.size, 1, none⟩ = some (.int .i64 l.I) ∧ w'.cell? ⟨W0.heap.size, 2, none⟩ = some (.int .i64 l.D) ∧ w'.cell? ⟨W0.heap.size, 3, none⟩ = some (.int .i64 l.S) ∧ w'.cell? ⟨W0.heap.size, 4, none⟩ = some (.int .i64 l.M) ∧ w'.cell? ⟨W0.heap.size, 5, none⟩ = some (.int .i64 l.W) ∧ w'.cell? ⟨W0.heap.size, 6, none⟩ = some (.int .i64 l.L) ∧ w'.cell? ⟨gb, 0, none⟩ = some (.bool R.on) ∧ w'.cell? ⟨gb, 1, none⟩ = some (.int .i64 R.sum) ∧ w'.cell? ⟨gb, 2, none⟩ = some (.int .i64 R.last) ∧ w'.cell? ⟨gb, 3, none⟩ = some (.int .i64 R.out) ∧ w'.cell? ⟨bo, k, none⟩ = some (.int .i64 R.out))
              (first | (exact keep14 c0 cR qo hw0.drew) | (exact keep14 c0 cR qo hw1) | (fail))
              (first | (go_at_call 16; refine (hGd _).mono ?_; rintro e w7 ⟨rfl, hbn⟩; have hw1 := stepA hw0.drew hbn; clear hbn) | (fail))
            all_goals
              go_wp2_with fail
              go_meet
              case rel => exact ⟨rfl, hw1⟩
          case rest =>
            obtain ⟨rfl, hbn⟩ := hcut
            have dR := cR.on hbn
            have qa2 := (hbn.cell (p := ⟨ba, _, none⟩) (World.block_lt_of_cell? _ _ qa)).trans qa
            have qb2 := (hbn.cell (p := ⟨bb, _, none⟩) (World.block_lt_of_cell? _ _ qb)).trans qb
            have G7 := G6.on hbn
            clear G6 c0 c1 cR x0 x1 x2 x3 x4 x5 x6 z0 z1 z2 z3 qa qb qo hbn hGd hw0
            generalize wc = w7 at dR qa2 qb2 G7 ⊢
            have c0 := G7.c3
            have c1 := G7.c4
            obtain ⟨x0, x1, x2, x3, x4, x5, x6⟩ := loop_at c0
            obtain ⟨y0, y1, y2, y3⟩ := hold_at c1
            obtain ⟨z0, z1, z2, z3⟩ := hold_at dR
            have hw0 := Below.refl w7.heap.size w7
            go_upto_region 16 with fail
            have hwk : IntKind.i64.wrap (fk - gk) = fk - gk := IntWalk.i64_in _ ⟨by omega, by omega⟩
            generalize hdd : fk - gk = dd at hwk hFi
            go_cut [98] from 85 to 98 (fun sx wx => sx = .bool false ∧ Below w7.heap.size w7 wx)
            case first =>
              go_region_held3 (fun w' => w'.cell? ⟨W0.heap.size, 0, none⟩ = some (.int .i64 l.P) ∧ w'.cell? ⟨W0.heap.size, 1, none⟩ = some (.int .i64 l.I) ∧ w'.cell? ⟨W0.heap.size, 2, none⟩ = some (.int .i64 l.D) ∧ w'.cell? ⟨W0.heap.size, 3, none⟩ = some (.int .i64 l.S) ∧ w'.cell? ⟨W0.heap.size, 4, none⟩ = some (.int .i64 l.M) ∧ w'.cell? ⟨W0.heap.size, 5, none⟩ = some (.int .i64 l.W) ∧ w'.cell? ⟨W0.heap.size, 6, none⟩ = some (.int .i64 l.L) ∧ w'.cell? ⟨W0.heap.size + 1, 0, none⟩ = some (.bool st.on) ∧ w'.cell? ⟨W0.heap.size + 1, 1, none⟩ = some (.int .i64 st.sum) ∧ w'.cell? ⟨W0.heap.size + 1, 2, none⟩ = some (.int .i64 st.last) ∧ w'.cell? ⟨W0.heap.size + 1, 3, none⟩ = some (.int .i64 st.out) ∧ w'.cell? ⟨gb, 0, none⟩ = some (.bool R.on) ∧ w'.cell? ⟨gb, 1, none⟩ = some (.int .i64 R.sum) ∧ w'.cell? ⟨gb, 2, none⟩ = some (.int .i64 R.last) ∧ w'.cell? ⟨gb, 3, none⟩ = some (.int .i64 R.out) ∧ w'.cell? ⟨ba, oa + k, none⟩ = some (.int .i64 fk) ∧ w'.cell? ⟨bb, ob + k, none⟩ = some (.int .i64 gk))
                (first | (exact keep16 c0 c1 dR qa2 qb2 hw0.drew) | (exact keep16 c0 c1 dR qa2 qb2 hw1) | (fail))
                (first | (go_at_call 17; refine (hFi _).mono ?_; rintro e w8 ⟨rfl, hbn⟩; have hw1 := stepA hw0.drew hbn; clear hbn) | (fail))
              all_goals
                go_wp2_with fail
                go_meet
                case rel => exact ⟨rfl, hw1⟩
            case rest =>
              obtain ⟨rfl, hbn⟩ := hcut
              have eR := dR.on hbn
              have G8 := G7.on hbn
              clear G7 c0 c1 dR x0 x1 x2 x3 x4 x5 x6 y0 y1 y2 y3 z0 z1 z2 z3 qa2 qb2 hbn hFi hw0
              generalize wc = w8 at eR G8 ⊢
              obtain ⟨y0, y1, y2, y3⟩ := hold_at G8.c4
              obtain ⟨z0, z1, z2, z3⟩ := hold_at eR
              have f0 := G8.c4.fz 0
              have f1 := G8.c4.fz 1
              have f2 := G8.c4.fz 2
              have f3 := G8.c4.fz 3
              go_wp2
              go_roundw
              case rel => exact ⟨k + 1, by omega, by go_num, by rw [HN.out]; exact G8.put R h8 hlo⟩
              case measure => simp [intOf]; omega
      · have hke : k = rn := by omega
        subst hke
        have he := HE.out
        rw [← he] at G
        obtain ⟨y0, y1, y2, y3⟩ := hold_at G.c4
        obtain ⟨z0, z1, z2, z3⟩ := hold_at G.c8
        have eqh := fun w => eq_hold rh rh w
        simp only [beq_self_eq_true, decide_true, Bool.and_self] at eqh
        go_wp2
        go_ret
        exact ⟨rfl, hB1.trans (G.be.mono hB1.size)⟩
set_option maxHeartbeats 400000 in
theorem fnHold_long (a : Option Addr) (len cap : Nat) (w : World) (hl : ¬ len ≤ 1048576) :
    Calls Try.prog 4 #[.slice a len cap] w fun e w' => e = .returned (.bool true) ∧ Below w.heap.size w w' := by
  have j1 : ¬ (len : Int) ≤ 1048576 := by omega
  go_enter Try.func4, Try.ntmps4
  go_wp2
  go_ret
  exact ⟨rfl, Below.refl _ _⟩
theorem fnHoldAll (a : Option Addr) (len cap : Nat) (w : World) (hb : 0 < len → ∃ b off, a = some ⟨b, off, none⟩ ∧ b < w.heap.size ∧ ∀ i, i < len → ∃ v : Int, w.cell? ⟨b, off + i, none⟩ = some (.int .u8 v) ∧ 0 ≤ v ∧ v ≤ 255) :
    Calls Try.prog 4 #[.slice a len cap] w fun e w' => e = .returned (.bool true) ∧ Below w.heap.size w w' := by
  by_cases h : len ≤ 1048576
  · exact fnHold_in a len cap w h hb
  · exact fnHold_long a len cap w h
end Go.Proofs.Ytnoaonflphameaa
