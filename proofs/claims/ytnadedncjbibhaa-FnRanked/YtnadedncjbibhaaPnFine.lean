/- Slices that are fine, as the law asks: the whole (tools/gen_pn9.py). -/
import Derived.Test.YtnadedncjbibhaaPnWait
namespace Go.Proofs.Ytnadedncjbibhaa
open Go.RowKit
set_option maxRecDepth 20000 in
set_option maxHeartbeats 8000000 in
theorem sFine (ur : Bool) (a b sa : Option Addr) (n c d m sc : Nat) (F f G : Nat → Int) (U : Nat) (w : World) (g : Gc n F) (hf : gfK f n = true) (hU : U ≤ 2000) (hm : m ≤ 2000) (hC : Cov ur n F f m G U) (h : IL w a (n * 3) F) (h2 : IL w b n f) (h3 : IL w sa (m * 3) G) :
    Calls Try.prog 12 #[.slice a n c, .slice b n d, .slice sa m sc, .int .i64 (U : Int)] w fun e w' => e = .returned (.bool true) ∧ Below w.heap.size w w' := by
  have hn6 := g.six
  have HG : Hid (Gc n F) := g
  have Hf : Hid (gfK f n = true) := hf
  have HC : Hid (Cov ur n F f m G U) := hC
  have HP : Hid (∀ t, t ≤ 2000 → Pk n F f (ruP ur n F f t) t) := pk_run ur g hf
  clear g hf hC
  have hmk := run_make_row' (P := Try.prog) 24 3 (.int .i64 0) 8 Try.underlying24 infoI rfl .i64 .i64 n (by omega) (by omega)
  have HI0 : Hid (IP (w.alloc (.cells (madeCells #[.int .i64 0] n) 3)) w.heap.size n (gtF F (ruP ur n F f 0))) := (row_zero (World.rowIs_made w (.int .i64 0) n 3)).congr fun i _ => by show (0 : Int) = 0 * _ + 0; omega
  have hB0 : Below w.heap.size w (w.alloc (.cells (madeCells #[.int .i64 0] n) 3)) := (Below.refl _ _).alloc (Nat.le_refl _) _
  go_enter Try.func12, Try.ntmps12
  go_upto_region 4 with fail
  clear hmk
  generalize w.alloc (.cells (madeCells #[.int .i64 0] n) 3) = w1 at *
  generalize hK : w.heap.size = K at HI0 ⊢
  go_loopw [10, 18] (fun tt i wr => ∃ q τ : Nat, q ≤ m ∧ τ ≤ U ∧ i = .int .i64 (q : Int) ∧ tt = .int .i64 (τ : Int) ∧ Hid (En G q τ) ∧ Hid (IP wr K n (gtF F (ruP ur n F f τ))) ∧ Below w.heap.size w wr) (fun _ i _ => m - (intOf i).toNat)
  case atStart => exact ⟨0, 0, Nat.zero_le _, Nat.zero_le _, rfl, rfl, (.inl ⟨rfl, rfl⟩ : En G 0 0), HI0, hB0⟩
  case round =>
    obtain ⟨q, τ, hq, hτ, rfl, rfl, HE, HI, hB⟩ := hrel
    clear HI0 hB0
    by_cases hlq : q < m
    · obtain ⟨gb, go_, es, gl_, x0, x1, x2⟩ := il_three (h3.below hB) hlq
      have a0 := HC.out.from_le hlq HE.out
      have a1 := HC.out.lt q hlq
      have a2 := HC.out.up q hlq
      have a3 := HC.out.wh q hlq
      have HGAP : Hid (∀ τ' : Nat, τ ≤ τ' → (τ' : Int) < G (q * 3) → whP ur n F f (ruP ur n F f τ') (τ' : Int) = -1) := fun τ' z1 z2 => HC.out.gap (Nat.le_of_lt hlq) HE.out z1 (by omega) (fun _ => z2)
      have HON : Hid (∀ τ' : Nat, G (q * 3) ≤ (τ' : Int) → (τ' : Int) < G (q * 3 + 1) → whP ur n F f (ruP ur n F f τ') (τ' : Int) = G (q * 3 + 2)) := HC.out.on q hlq
      have HEN : Hid (∀ τ' : Nat, (τ' : Int) = G (q * 3 + 1) → En G (q + 1) τ') := fun τ' z => .inr ⟨q, rfl, z⟩
      have i0 : (0 : Int) ≤ (q : Int) := by omega
      have i1 : (q : Int) < (m : Int) := by omega
      clear HE HC
      obtain ⟨A, hA⟩ : ∃ A : Nat, (A : Int) = G (q * 3) := ⟨(G (q * 3)).toNat, by omega⟩
      obtain ⟨Z, hZ⟩ : ∃ Z : Nat, (Z : Int) = G (q * 3 + 1) := ⟨(G (q * 3 + 1)).toNat, by omega⟩
      obtain ⟨j, hj⟩ : ∃ j : Nat, (j : Int) = G (q * 3 + 2) := ⟨(G (q * 3 + 2)).toNat, by omega⟩
      rw [← hA] at x0 a0 a1 HGAP HON
      rw [← hZ] at x1 a1 a2 HON HEN
      rw [← hj] at x2 a3 HON
      clear hA hZ hj
      have b0 : ¬ (A : Int) < (τ : Int) := by omega
      have b1 : ¬ (Z : Int) ≤ (A : Int) := by omega
      have b2 : ¬ (U : Int) < (Z : Int) := by omega
      have b3 : ¬ (j : Int) < 0 := by omega
      have b4 : ¬ (n : Int) ≤ (j : Int) := by omega
      have hjn : j < n := by omega
      have hbt : Below wr.heap.size wr (wr.alloc (.cells #[.int .i64 (A : Int), .int .i64 (Z : Int), .int .i64 (j : Int)] 66)) := (Below.refl _ _).alloc (Nat.le_refl _) _
      have bx := bx_new (w := wr) [.int .i64 (A : Int), .int .i64 (Z : Int), .int .i64 (j : Int)] 66 rfl
      have e0 := bx.c0
      have e1 := bx.c1
      have e2 := bx.c2
      have hI9 := HI.out.below hbt HI.out.lt
      have HI9 : Hid (IP (wr.alloc (.cells #[.int .i64 (A : Int), .int .i64 (Z : Int), .int .i64 (j : Int)] 66)) K n (gtF F (ruP ur n F f τ))) := hI9
      have hKX : K < wr.heap.size := HI.out.lt
      have hB9 := stepA hB hbt
      have HBX : Hid (Bx (wr.alloc (.cells #[.int .i64 (A : Int), .int .i64 (Z : Int), .int .i64 (j : Int)] 66)) wr.heap.size [.int .i64 (A : Int), .int .i64 (Z : Int), .int .i64 (j : Int)]) := bx
      clear HI hI9 bx hbt
      subst es
      go_upto_region 8 with fail
      clear x0 x1 x2 e0 e1 e2
      generalize hXb : wr.heap.size = Xb at HBX hKX ⊢
      generalize wr.alloc (.cells #[.int .i64 (A : Int), .int .i64 (Z : Int), .int .i64 (j : Int)] 66) = w9 at *
      go_loopw [10] (fun tt wr => ∃ t' : Nat, τ ≤ t' ∧ t' ≤ A ∧ tt = .int .i64 (t' : Int) ∧ Hid (Bx wr Xb [.int .i64 (A : Int), .int .i64 (Z : Int), .int .i64 (j : Int)]) ∧ Hid (IP wr K n (gtF F (ruP ur n F f t'))) ∧ Below w.heap.size w wr) (fun tt _ => A - (intOf tt).toNat)
      case atStart => exact ⟨τ, Nat.le_refl _, by omega, rfl, HBX, HI9, hB9⟩
      case round =>
        obtain ⟨t', t0, t1, rfl, HX, HI, hBt⟩ := hrel
        clear HBX HI9
        have e0 := HX.out.c0
        have xl := HX.out.lt
        by_cases hlt : t' < A
        · have i2 : (t' : Int) < (A : Int) := by omega
          have wn := HGAP.out t' t0 i2
          have HN : Hid (ruP ur n F f (t' + 1) = ruP ur n F f t') := ru_no (by omega)
          have kW := sWaits a b n c d K t' F f (ruP ur n F f t') t' wr HG.out Hf.out (HP.out t' (by omega)) (by omega) (wh_none wn) (h.below hBt) (h2.below hBt) HI.out
          clear wn
          go_wp2_with fail
          refine kW.mono ?_
          rintro e w7 ⟨rfl, hb7⟩
          have HX7 : Hid (Bx w7 Xb [.int .i64 (A : Int), .int .i64 (Z : Int), .int .i64 (j : Int)]) := HX.out.on hb7
          have HI7 : Hid (IP w7 K n (gtF F (ruP ur n F f (t' + 1)))) := by rw [HN.out]; exact HI.out.below hb7 HI.out.lt
          have hB7 := stepA hBt hb7
          clear kW hb7 HX HI e0 xl HN
          go_wp2
          go_roundw
          case rel => exact ⟨t' + 1, by omega, by omega, by go_num, HX7, HI7, hB7⟩
          case measure => simp [intOf]; omega
        · have e : t' = A := by omega
          subst e
          have i2 : ¬ (t' : Int) < (t' : Int) := by omega
          obtain ⟨w8, hw8⟩ : ∃ x, x = wr := ⟨wr, rfl⟩
          subst hw8
          go_upto_region 12 with fail
          clear e0 xl
          go_loopw [10] (fun tt wr => ∃ u : Nat, t' ≤ u ∧ u ≤ Z ∧ tt = .int .i64 (u : Int) ∧ Hid (Bx wr Xb [.int .i64 (t' : Int), .int .i64 (Z : Int), .int .i64 (j : Int)]) ∧ Hid (IP wr K n (gtF F (ruP ur n F f u))) ∧ Below w.heap.size w wr) (fun tt _ => Z - (intOf tt).toNat)
          case atStart => exact ⟨t', Nat.le_refl _, by omega, rfl, HX, HI, hBt⟩
          case round =>
            obtain ⟨u, u0, u1, rfl, HX2, HI2, hBu⟩ := hrel
            clear HX HI
            have e1 := HX2.out.c1
            have e2 := HX2.out.c2
            have xl := HX2.out.lt
            by_cases hlz : u < Z
            · have i3 : (u : Int) < (Z : Int) := by omega
              have wn := HON.out u (by omega) i3
              have cm := wh_came wn
              have pk := HP.out u (by omega)
              obtain ⟨c0, c1, c2, c3⟩ := cm_bd HG.out Hf.out pk (by omega) hjn
              have hq9 := gt_quo HG.out pk hjn
              have hbd := gt_bd HG.out pk hjn (by omega)
              have n1 := HG.out.n1 j hjn
              obtain ⟨cb, co_, ec, cl_, v0, v1, v2⟩ := il_three (h.below hBu) hjn
              obtain ⟨fb, fo_, eb, fl_, hc⟩ := (h2.below hBu) (by omega)
              have y0 := hc j hjn
              have z0 := HI2.out.c j hjn
              have zf := HI2.out.fz j
              have zl := HI2.out.lt
              have j0 : (0 : Int) ≤ (j : Int) := by omega
              have j1 : (j : Int) < (n : Int) := by omega
              have HI3 : Hid (∀ x, IP ((wr.drewN x).setCell ⟨K, j, none⟩ (.int .i64 (gtF F (ruP ur n F f u) j + 1))) K n (gtF F (ruP ur n F f (u + 1)))) := fun x => by
                refine ((HI2.out.below (below_dr (Below.refl _ _) x) HI2.out.lt).set hjn _).congr fun i _ => ?_
                rw [ru_yes wn]
                exact (gt_give pk hjn i).symm
              have HX3 : Hid (∀ x, Bx ((wr.drewN x).setCell ⟨K, j, none⟩ (.int .i64 (gtF F (ruP ur n F f u) j + 1))) Xb [.int .i64 (t' : Int), .int .i64 (Z : Int), .int .i64 (j : Int)]) := fun x => (HX2.out.on (below_dr (Below.refl _ _) x)).far _ (by omega)
              have hB3 : Hid (∀ x, Below w.heap.size w ((wr.drewN x).setCell ⟨K, j, none⟩ (.int .i64 (gtF F (ruP ur n F f u) j + 1)))) := fun x => (below_dr hBu x).setCell (p := ⟨K, j, none⟩) (show w.heap.size ≤ K by omega) (.int .i64 (gtF F (ruP ur n F f u) j + 1))
              unfold cmP at c0 c1 cm
              rw [← hq9] at c0 c1 c2 c3 cm
              subst ec
              subst eb
              clear hc pk wn HI2 HX2 HG Hf HP hq9
              generalize gtF F (ruP ur n F f u) j = GT at *
              generalize F (j * 3) = P at *
              generalize F (j * 3 + 1) = N at *
              generalize F (j * 3 + 2) = D at *
              generalize f j = FK at *
              have hN0 : ¬ N = 0 := by omega
              have hg0 : 0 ≤ GT := hbd.1
              have qd := quo_bd (t := GT) (p := N) hg0 n1
              have hcm' : ¬ (u : Int) < FK + GT / N * P := by omega
              go_wp2_with fail
              go_quiet (fail)
              go_wp2
              go_roundw
              case rel => exact ⟨u + 1, by omega, by omega, by go_num, HX3.out _, HI3.out _, hB3.out _⟩
              case measure => simp [intOf]; omega
            · have e : u = Z := by omega
              subst e
              have i3 : ¬ (u : Int) < (u : Int) := by omega
              have HR : Hid (En G (q + 1) u) := HEN.out u rfl
              clear HG Hf HP HON HEN HGAP
              go_wp2
              go_roundw
              case rel => exact ⟨q + 1, u, by omega, by omega, by go_num, rfl, HR, HI2, hBu⟩
              case measure => simp [intOf]; omega
    · have e : q = m := by omega
      subst e
      have i1 : ¬ (q : Int) < (q : Int) := by omega
      have HGAP : Hid (∀ τ' : Nat, τ ≤ τ' → τ' < U → whP ur n F f (ruP ur n F f τ') (τ' : Int) = -1) := fun τ' z1 z2 => HC.out.gap (Nat.le_refl _) HE.out z1 z2 (fun z => absurd z (Nat.lt_irrefl _))
      clear HC HE
      go_upto_region 18 with fail
      go_loopw [10] (fun tt wr => ∃ t' : Nat, τ ≤ t' ∧ t' ≤ U ∧ tt = .int .i64 (t' : Int) ∧ Hid (IP wr K n (gtF F (ruP ur n F f t'))) ∧ Below w.heap.size w wr) (fun tt _ => U - (intOf tt).toNat)
      case atStart => exact ⟨τ, Nat.le_refl _, hτ, rfl, HI, hB⟩
      case round =>
        obtain ⟨t', t0, t1, rfl, HI2, hBt⟩ := hrel
        clear HI
        by_cases hlt : t' < U
        · have i2 : (t' : Int) < (U : Int) := by omega
          have wn := HGAP.out t' t0 hlt
          have HN : Hid (ruP ur n F f (t' + 1) = ruP ur n F f t') := ru_no (by omega)
          have kW := sWaits a b n c d K t' F f (ruP ur n F f t') t' wr HG.out Hf.out (HP.out t' (by omega)) (by omega) (wh_none wn) (h.below hBt) (h2.below hBt) HI2.out
          clear wn
          go_wp2_with fail
          refine kW.mono ?_
          rintro e w7 ⟨rfl, hb7⟩
          have HI7 : Hid (IP w7 K n (gtF F (ruP ur n F f (t' + 1)))) := by rw [HN.out]; exact HI2.out.below hb7 HI2.out.lt
          have hB7 := stepA hBt hb7
          clear kW hb7 HI2 HN
          go_wp2
          go_roundw
          case rel => exact ⟨t' + 1, by omega, by omega, by go_num, HI7, hB7⟩
          case measure => simp [intOf]; omega
        · have e : t' = U := by omega
          subst e
          have i2 : ¬ (t' : Int) < (t' : Int) := by omega
          clear HG Hf HP HGAP
          go_wp2
          go_ret
          exact ⟨rfl, by rw [← hK]; exact hBt⟩
end Go.Proofs.Ytnadedncjbibhaa
