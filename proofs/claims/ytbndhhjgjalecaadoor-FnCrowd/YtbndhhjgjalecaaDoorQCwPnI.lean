/- The paths of a crowd, as the program plans them. -/
import Derived.Test.YtbndhhjgjalecaaDoorQCwLpI
import Derived.Test.YtbndhhjgjalecaaDoorQCwLkI
import Derived.Test.YtbndhhjgjalecaaDoorQCwPnS
import Derived.Test.YtbndhhjgjalecaaDoorQCwGotI
namespace Go.Proofs.YtbndhhjgjalecaaDoor
open Go.RowKit

theorem hid_ {p : Prop} (h : p) : Hid p := h
theorem IP.turns {w w' : World} {b L lo hi : Nat} {F : Nat → Int} (h : IP w b L F) (ht : Turns lo hi w w') (hb : hi ≤ b) : IP w' b L F := by
  have e := ht.block b h.lt (.inr hb)
  exact ⟨Nat.lt_of_lt_of_le h.lt ht.size, fun i hi => (cell_same e _).trans (h.c i hi), fun j => (frozen_same e j).trans (h.fz j)⟩
theorem Ow.turns {w w' : World} {base : Nat} {v : Value} {k L : Nat} {R : Nat → Nat → Int} {B C : Nat → Nat} {lo hi : Nat} (h : Ow w base v k L R B C) (ht : Turns lo hi w w') (hb : hi ≤ base) : Ow w' base v k L R B C := by
  refine ⟨?_, h.low, fun j hj => (h.row j hj).turns ht (Nat.le_trans hb (h.low j hj)), h.inj⟩
  obtain ⟨hl, h⟩ := h.own
  refine ⟨hl, ?_⟩
  rcases h with h | ⟨g, cap, cur, h1, h2, h3, h4⟩
  · exact .inl h
  · have hg : g < w.heap.size := (Array.getElem?_eq_some_iff.1 h3).1
    exact .inr ⟨g, cap, cur, h1, h2, (ht.block g hg (.inr (Nat.le_trans hb h2))).trans h3, h4⟩
theorem Ow.cap {w : World} {base : Nat} {a : Option Addr} {k c L : Nat} {R : Nat → Nat → Int} {B C : Nat → Nat} (h : Ow w base (.slice a k c) k L R B C) : k ≤ c := by
  obtain ⟨_, ⟨h1, h2⟩ | ⟨g, cap, cur, h1, _, _, h4, _⟩⟩ := h.own
  · omega
  · cases h1; exact h4
/-- what PlanCrowd answers, and that its rows have room -/
def AnsPk (W : Int) (n : Nat) (f : Nat → Int) (m : Nat) (g : Nat → Int) (tk : Int) (w w' : World) (e : Ending) : Prop :=
  ∃ (ok : Bool) (R : Nat → Nat → Int) (k : Nat) (v : Option Addr) (cv : Nat) (B C : Nat → Nat), PlnIs W n f m g tk ok R ∧ e = .returned (.tuple #[.slice v k cv, .bool ok]) ∧ (k = if ok = true then m else 0) ∧ Ow w' w.heap.size (.slice v k cv) k (tk.toNat + 1) R B C ∧ (∀ j, j < k → tk.toNat + 1 ≤ C j) ∧ k ≤ cv
theorem AnsPk.pn {W : Int} {n : Nat} {f : Nat → Int} {m : Nat} {g : Nat → Int} {tk : Int} {w w' : World} {e : Ending} (h : AnsPk W n f m g tk w w' e) : AnsPn W n f m g tk w w' e := by
  obtain ⟨ok, R, k, v, cv, B, C, h1, h2, h3, h4, -⟩ := h
  exact ⟨ok, R, k, v, cv, B, C, h1, h2, h3, h4⟩
theorem ansPk_no {W : Int} {n : Nat} {f : Nat → Int} {m : Nat} {g : Nat → Int} {tk : Int} (w w' : World) (h : PlnIs W n f m g tk false fun _ _ => 0) : AnsPk W n f m g tk w w' (.returned (.tuple #[.slice none 0 0, .bool false])) :=
  ⟨false, _, 0, none, 0, fun _ => 0, fun _ => 0, h, rfl, rfl, ow_nil _ _ _ _ _ _, fun _ hj => absurd hj (Nat.not_lt_zero _), Nat.le_refl _⟩
set_option maxRecDepth 20000 in
set_option maxHeartbeats 8000000 in
theorem iPlan (W : Int) (a q : Option Addr) (n c m cq : Nat) (f g : Nat → Int) (tk : Int) (w : World) (hn : n ≤ 1048576) (hm : m ≤ 1048576) (hcq : m ≤ cq) (hT : Tab w) (hf : IL w a n f) (hg : IL w q (m * 2) g) :
    Calls Tryd.prog 8 #[cel W a n c, .slice q m cq, .int .i64 tk] w fun e w' => AnsPk W n f m g tk w w' e ∧ Below w.heap.size w w' := by
  have b0 := bx_new (w := w) (celL W a n c) 25 rfl
  have hb0 : Below w.heap.size w (w.alloc (celO W a n c 25)) := (Below.refl _ _).alloc (Nat.le_refl _) _
  have kG := got_any W a q n c m cq f g (w.alloc (celO W a n c 25)) hn hm hcq (hf.below hb0) (hg.below hb0)
  have x0 := b0.c0
  have x1 := b0.c1
  by_cases hgood : gtB W n f m g = true ∧ 0 ≤ tk ∧ tk ≤ 20
  case neg =>
    have HR : Hid (PlnIs W n f m g tk false fun _ _ => 0) := .inr ⟨rfl, .inl hgood⟩
    cases hq : gtB W n f m g with
    | false =>
      rw [hq] at kG
      have kG2 : Calls Tryd.prog 35 #[cel W a n c, .slice q m cq] (w.alloc (celO W a n c 25)) fun e w' => e = .returned (.tuple #[gr 0 0 none 0 0, .bool false]) ∧ Below (w.alloc (celO W a n c 25)).heap.size (w.alloc (celO W a n c 25)) w' := kG
      clear hgood kG
      go_enter Tryd.func8, Tryd.ntmps8
      go_wp2_with fail
      refine kG2.mono ?_
      rintro e9 w1 ⟨rfl, hb1⟩
      have hB1 := stepA hb0 hb1
      go_wp2
      go_ret2
      exact ⟨ansPk_no _ _ HR.out, hB1.alloc hB1.size _⟩
    | true =>
      rw [hq] at kG
      have kG2 : Calls Tryd.prog 35 #[cel W a n c, .slice q m cq] (w.alloc (celO W a n c 25)) fun e w' => e = .returned (.tuple #[gr W (hgt W n) a n c, .bool true]) ∧ Below (w.alloc (celO W a n c 25)).heap.size (w.alloc (celO W a n c 25)) w' := kG
      clear kG
      generalize hgt W n = H at kG2
      by_cases h0 : tk < 0
      · have h0' : ¬ 0 ≤ tk := by omega
        clear hgood
        go_enter Tryd.func8, Tryd.ntmps8
        go_wp2_with fail
        refine kG2.mono ?_
        rintro e9 w1 ⟨rfl, hb1⟩
        have hB1 := stepA hb0 hb1
        go_wp2
        go_ret2
        exact ⟨ansPk_no _ _ HR.out, hB1.alloc hB1.size _⟩
      · have h20 : 20 < tk := by
          rcases Int.lt_or_le 20 tk with h | h
          · exact h
          · exact absurd ⟨hq, by omega, h⟩ hgood
        clear hgood
        go_enter Tryd.func8, Tryd.ntmps8
        go_wp2_with fail
        refine kG2.mono ?_
        rintro e9 w1 ⟨rfl, hb1⟩
        have hB1 := stepA hb0 hb1
        go_wp2
        go_ret2
        exact ⟨ansPk_no _ _ HR.out, hB1.alloc hB1.size _⟩
  case pos =>
    obtain ⟨hq, ht0, ht1⟩ := hgood
    rw [hq] at kG
    obtain ⟨T, rfl⟩ : ∃ T : Nat, tk = (T : Int) := ⟨tk.toNat, by omega⟩
    obtain ⟨hcel, hm5, htr⟩ := gtB_t hq
    have hs := (celB_parts hcel).1
    have hN := sized_le hs
    have hT20 : T ≤ 20 := by omega
    have t0 : ¬ (T : Int) < 0 := by omega
    have t1 : ¬ (20 : Int) < (T : Int) := by omega
    have HYES : Hid (∀ R, Bests W n f g R T m → PlnIs W n f m g (T : Int) true R) := fun R h => .inl ⟨rfl, ⟨hq, ht0, ht1⟩, by simpa using h⟩
    have HNO : Hid (∀ i R, i < m → Bests W n f g R T i → (∀ P, ¬ Vp W n f R i (g (i * 2)) (g (i * 2 + 1)) T P) → PlnIs W n f m g (T : Int) false fun _ _ => 0) := fun i R h1 h2 h3 => .inr ⟨rfl, .inr ⟨i, R, h1, by simpa using h2, by simpa using h3⟩⟩
    have HTR : Hid (∀ i, i < m → ∃ S E : Nat, g (i * 2) = (S : Int) ∧ g (i * 2 + 1) = (E : Int) ∧ S < n ∧ E < n ∧ f S = 0 ∧ f E = 0) := fun i hi => by
      obtain ⟨f1, f2, -⟩ := trB_at htr i hi
      have h1 := frB_t f1
      have h2 := frB_t f2
      exact ⟨(g (i * 2)).toNat, (g (i * 2 + 1)).toNat, by omega, by omega, by omega, by omega, h1.2.2, h2.2.2⟩
    obtain ⟨i0', hi, hzz⟩ := Option.map_eq_some_iff.1 infoII
    simp only [Prod.mk.injEq] at hzz
    obtain ⟨hz0, hz1, hz2⟩ := hzz
    have kL0 := fun R k Mb cnt E w h1 h2 h3 h4 h5 => lookTo_any W a n c f R k Mb cnt E T w hs h1 h2 (by omega) h3 h4 h5
    have kP0 := fun R k Mb cnt E Db B D S w h1 h2 h3 h4 h5 h6 h7 h8 h9 => leastPath_any W a n c f R k Mb cnt E Db T B D S w hs h1 h2 (by omega) h3 h4 h5 h6 h7 h8 h9
    unfold AnsLk at kL0
    have kG2 : Calls Tryd.prog 35 #[cel W a n c, .slice q m cq] (w.alloc (celO W a n c 25)) fun e w' => e = .returned (.tuple #[gr W (hgt W n) a n c, .bool true]) ∧ Below (w.alloc (celO W a n c 25)).heap.size (w.alloc (celO W a n c 25)) w' := kG
    clear kG
    obtain ⟨H, eH⟩ : ∃ H, hgt W n = H := ⟨_, rfl⟩
    rw [eH] at kG2
    simp only [eH] at kL0 kP0
    have HKL := hid_ kL0
    have HKP := hid_ kP0
    clear hcel htr hq ht0 ht1 eH kL0 kP0
    go_enter Tryd.func8, Tryd.ntmps8
    go_wp2_with fail
    refine kG2.mono ?_
    rintro e9 w1 ⟨rfl, hb1⟩
    have hB1 := stepA hb0 hb1
    clear kG2 x0 x1 b0 hb0 hb1
    have bG := bx_new (w := w1) (b := w1.heap.size) [.int .i64 W, .int .i64 H, .slice a n c] 68 rfl
    have hB2 := hB1.alloc hB1.size (.cells #[.int .i64 W, .int .i64 H, .slice a n c] 68)
    have hs2 : (w1.alloc (.cells #[.int .i64 W, .int .i64 H, .slice a n c] 68)).heap.size = w1.heap.size + 1 := by simp
    have hs3 : ((w1.alloc (.cells #[.int .i64 W, .int .i64 H, .slice a n c] 68)).alloc (.map #[] 0)).heap.size = w1.heap.size + 1 + 1 := by simp
    have hmm : (Instr.makeMap 72 none).run Tryd.prog (w1.alloc (.cells #[.int .i64 W, .int .i64 H, .slice a n c] 68)) = .ok (.map (some (w1.heap.size + 1))) ((w1.alloc (.cells #[.int .i64 W, .int .i64 H, .slice a n c] 68)).alloc (.map #[] 0)) := by rw [← hs2]; rfl
    have hM3 := mi_made (w1.alloc (.cells #[.int .i64 W, .int .i64 H, .slice a n c] 68)) 105 kvP okP
    rw [hs2] at hM3
    obtain ⟨w4, hmk, hown4, hgr4⟩ := run_make_own (P := Tryd.prog) ((w1.alloc (.cells #[.int .i64 W, .int .i64 H, .slice a n c] 68)).alloc (.map #[] 0)) (w1.heap.size + 1 + 1) 29 23 i0' (.slice none 0 0) 1 Tryd.underlying29 hi hz0 hz1 .i64 .i64 m (by rw [hz2]; omega) (by unfold maxLen; omega) (by omega)
    rw [hs3] at hmk hown4
    have hM4 : MS w4 (w1.heap.size + 1) 0 (fun _ => none) := MI.heap hM3 (hgr4.block _ (by omega) (by simp))
    have hB4 : Below (w1.heap.size + 1) (w1.alloc (.cells #[.int .i64 W, .int .i64 H, .slice a n c] 68)) w4 := ((Below.refl _ _).alloc (by omega) _).grown hgr4 (by omega) (fun q hq => by cases hq)
    have HO4 : Hid (Ow w4 (w1.heap.size + 1 + 1) (.slice (some ⟨w1.heap.size + 1 + 1, 0, none⟩) 0 m) 0 (T + 1) (fun _ _ => 0) (fun _ => 0) (fun _ => 0)) := ⟨hown4, fun _ hj => absurd hj (Nat.not_lt_zero _), fun _ hj => absurd hj (Nat.not_lt_zero _), fun _ _ hi => absurd hi (Nat.not_lt_zero _)⟩
    have HBG : Hid (Bx (w1.alloc (.cells #[.int .i64 W, .int .i64 H, .slice a n c] 68)) w1.heap.size [.int .i64 W, .int .i64 H, .slice a n c]) := bG
    have HM4 : Hid (MS w4 (w1.heap.size + 1) 0 (fun _ => none)) := hM4
    have HB4 : Hid (Below (w1.heap.size + 1) (w1.alloc (.cells #[.int .i64 W, .int .i64 H, .slice a n c] 68)) w4) := hB4
    have HB2 : Hid (Below w.heap.size w (w1.alloc (.cells #[.int .i64 W, .int .i64 H, .slice a n c] 68))) := hB2
    have HS2 : Hid ((w1.alloc (.cells #[.int .i64 W, .int .i64 H, .slice a n c] 68)).heap.size = w1.heap.size + 1) := hs2
    have HLO : Hid (w.heap.size ≤ w1.heap.size) := hB1.size
    clear bG hs2 hs3 hM3 hown4 hgr4 hM4 hB4 hB2 hB1
    go_wp2
    clear hmm hmk
    generalize w1.alloc (.cells #[.int .i64 W, .int .i64 H, .slice a n c] 68) = w2 at *
    obtain ⟨Gb, hGb⟩ : ∃ Gb, w1.heap.size = Gb := ⟨_, rfl⟩
    rw [hGb] at HO4 HBG HM4 HB4 HS2 HLO ⊢
    clear hGb
    obtain ⟨Mb, hMb⟩ : ∃ Mb, Gb + 1 = Mb := ⟨_, rfl⟩
    rw [hMb] at HO4 HM4 HB4 HS2 ⊢
    have HMB : Hid (Gb + 1 = Mb) := hMb
    clear hMb
    go_loopw [11, 38] (fun v i wr => ∃ (k cnt : Nat) (R : Nat → Nat → Int) (B C : Nat → Nat), i = .int .i64 (k : Int) ∧ k ≤ m ∧ cnt ≤ k * 21 ∧ Hid (Bests W n f g R T k) ∧ Hid (Ow wr (Mb + 1) v k (T + 1) R B C) ∧ Hid (MS wr Mb cnt (mR R T k)) ∧ Hid (∀ j, j < k → T + 1 ≤ C j) ∧ Hid (Below Mb w2 wr)) (fun _ i _ => m - (intOf i).toNat)
    case atStart => exact ⟨0, 0, fun _ _ => 0, fun _ => 0, fun _ => 0, rfl, Nat.zero_le _, Nat.le_refl _, fun _ hj => absurd hj (Nat.not_lt_zero _), HO4.out, MI.congr HM4.out (fun _ _ => rfl), fun _ hj => absurd hj (Nat.not_lt_zero _), HB4.out⟩
    case round =>
      obtain ⟨k, cnt, R, B, C, rfl, hk, hcnt, HBs, HO, HMs, HC, HB⟩ := hrel
      clear HO4 HM4 HB4
      obtain ⟨sa, sc, rfl⟩ := HO.out.shape
      have HBw : Hid (Below w.heap.size w wr) := HB2.out.trans (HB.out.mono (by have := HMB.out; have := HLO.out; omega))
      by_cases hlt : k < m
      case neg =>
        have hkm : k = m := by omega
        subst hkm
        have HR : Hid (PlnIs W n f k g (T : Int) true R) := HYES.out R HBs.out
        have HO2 : Hid (Ow wr w.heap.size (.slice sa k sc) k (T + 1) R B C) := HO.out.wide (by have := HMB.out; have := HLO.out; omega)
        clear HBs HO HYES HNO HTR HMs
        go_wp2
        go_ret2
        exact ⟨⟨true, R, k, sa, sc, B, C, HR.out, rfl, rfl, by simpa using HO2.out, by simpa using HC.out, HO2.out.cap⟩, HBw.out⟩
      case pos =>
        obtain ⟨S, E, eS, eE, hS, hE, hS0, hE0⟩ := HTR.out k hlt
        obtain ⟨gb, go_, rfl, gl_, y0, y1⟩ := il_two (hg.below HBw.out) hlt
        have HSN : Hid (∀ P, Bp W n f R k (S : Int) (E : Int) T P → Bests W n f g (fun i => if i = k then P else R i) T (k + 1)) := fun P hP => HBs.out.snoc (by rw [eS, eE]; exact hP)
        have HN2 : Hid ((∀ P, ¬ Vp W n f R k (S : Int) (E : Int) T P) → PlnIs W n f m g (T : Int) false fun _ _ => 0) := fun h => HNO.out k R hlt HBs.out (by rw [eS, eE]; exact h)
        have hu : Uq R T k := HBs.out.uq
        have htE : frB n f (E : Int) = true := frB_mk ⟨by omega, by omega, by simpa using hE0⟩
        rw [eS] at y0
        rw [eE] at y1
        have hbt : Below wr.heap.size wr (wr.alloc (.cells #[.int .i64 (S : Int), .int .i64 (E : Int)] 34)) := (Below.refl _ _).alloc (Nat.le_refl _) _
        have b2 : Bx (wr.alloc (.cells #[.int .i64 (S : Int), .int .i64 (E : Int)] 34)) Gb [.int .i64 W, .int .i64 H, .slice a n c] := (Bx.below HBG.out HB.out (by have := HMB.out; omega)).on hbt
        have b3 := bx_new (w := wr) [.int .i64 (S : Int), .int .i64 (E : Int)] 34 rfl
        have g0 := b2.c0
        have g1 := b2.c1
        have g2 := b2.c2
        have x2 := b3.c0
        have x3 := b3.c1
        have j0 : (0 : Int) ≤ (k : Int) := by omega
        have j1 : (k : Int) < (m : Int) := by omega
        have hbT := stepA HBw.out hbt
        have HMt : Hid (MS (wr.alloc (.cells #[.int .i64 (S : Int), .int .i64 (E : Int)] 34)) Mb cnt (mR R T k)) := MI.on HMs.out hbt
        have HOt : Hid (Ow (wr.alloc (.cells #[.int .i64 (S : Int), .int .i64 (E : Int)] 34)) (Mb + 1) (.slice sa k sc) k (T + 1) R B C) := HO.out.on hbt
        have HBt : Hid (Below Mb w2 (wr.alloc (.cells #[.int .i64 (S : Int), .int .i64 (E : Int)] 34))) := HB.out.trans (hbt.mono (by have := HMs.out.lt; omega))
        have HKw : Hid (Mb < wr.heap.size) := HMs.out.lt
        have kL := fun w6 (hb6 : Below ((wr.alloc (.cells #[.int .i64 (S : Int), .int .i64 (E : Int)] 34))).heap.size (wr.alloc (.cells #[.int .i64 (S : Int), .int .i64 (E : Int)] 34)) w6) => HKL.out R k Mb cnt (E : Int) w6 (hf.below (stepA hbT hb6)) (hT.on (stepA hbT hb6)) (MI.on HMt.out hb6) hu htE
        have kP := fun Db B6 D6 w6 (hb6 : Below ((wr.alloc (.cells #[.int .i64 (S : Int), .int .i64 (E : Int)] 34))).heap.size (wr.alloc (.cells #[.int .i64 (S : Int), .int .i64 (E : Int)] 34)) w6) h1 h2 => HKP.out R k Mb cnt (E : Int) Db B6 D6 S w6 (hf.below (stepA hbT hb6)) (hT.on (stepA hbT hb6)) (MI.on HMt.out hb6) h1 h2 hu htE hS hS0
        have HBT : Hid (Below w.heap.size w (wr.alloc (.cells #[.int .i64 (S : Int), .int .i64 (E : Int)] 34))) := hbT
        clear HO HBs HMs HBw eS eE HYES HNO hu htE hbT HKL HKP HTR HB
        have hw0 := Below.refl ((wr.alloc (.cells #[.int .i64 (S : Int), .int .i64 (E : Int)] 34))).heap.size (wr.alloc (.cells #[.int .i64 (S : Int), .int .i64 (E : Int)] 34))
        go_upto_region 9 with fail
        clear hbt
        generalize hwt : (wr.alloc (.cells #[.int .i64 (S : Int), .int .i64 (E : Int)] 34)) = wt at *
        have HWT : Hid (wr.heap.size < wt.heap.size) := by show wr.heap.size < wt.heap.size; rw [← hwt]; simp
        clear hwt
        refine wp_region_held (S := (fun w' => w'.cell? ⟨Gb, 0, none⟩ = some (.int .i64 W) ∧ w'.cell? ⟨Gb, 1, none⟩ = some (.int .i64 H) ∧ w'.cell? ⟨Gb, 2, none⟩ = some (.slice a n c) ∧ w'.cell? ⟨wr.heap.size, 0, none⟩ = some (.int .i64 (S : Int)) ∧ w'.cell? ⟨wr.heap.size, 1, none⟩ = some (.int .i64 (E : Int)))) (by kernel_rfl) ?_
        change wpAnyH _ _ _ _ _ _ _ _ (World.drew _)
        have hSw := (⟨g0, g1, g2, x2, x3⟩ : _ ∧ _ ∧ _ ∧ _ ∧ _)
        refine wpAnyH_take (i := 0) (v := gr W H a n c) rfl (by kernel_rfl) (by kernel_rfl) (by kernel_rfl) (fun _ _ _ h => h) (Or.inl ⟨by rfl, ?_⟩) hSw ?_
        · intro wz hsz
          obtain ⟨z0, z1, z2, z3, z4⟩ := hsz
          go_simp
        try simp [Act.put]
        refine wpAnyH_take (i := 1) (v := .pointer (some ⟨wr.heap.size, 1, none⟩)) rfl (by kernel_rfl) (by kernel_rfl) (by kernel_rfl) (fun _ _ _ h => h) (Or.inl ⟨by rfl, ?_⟩) hSw ?_
        · intro wz hsz
          obtain ⟨z0, z1, z2, z3, z4⟩ := hsz
          go_simp
        try simp [Act.put]
        refine wpAnyH_take (i := 2) (v := .int .i64 (E : Int)) rfl (by kernel_rfl) (by kernel_rfl) (by kernel_rfl) (fun _ _ _ h => h) (Or.inl ⟨by rfl, ?_⟩) hSw ?_
        · intro wz hsz
          obtain ⟨z0, z1, z2, z3, z4⟩ := hsz
          go_simp
        try simp [Act.put]
        refine wpAnyH_take (i := 3) (v := .int .i64 (T : Int)) rfl (by kernel_rfl) (by kernel_rfl) (by kernel_rfl) (fun _ _ _ h => h) (Or.inl ⟨by rfl, ?_⟩) hSw ?_
        · intro wz hsz
          obtain ⟨z0, z1, z2, z3, z4⟩ := hsz
          go_simp
        try simp [Act.put]
        refine wpAnyH_take (i := 4) (v := .map (some Mb)) rfl (by kernel_rfl) (by kernel_rfl) (by kernel_rfl) (fun _ _ _ h => h) (Or.inl ⟨by rfl, ?_⟩) hSw ?_
        · intro wz hsz
          obtain ⟨z0, z1, z2, z3, z4⟩ := hsz
          go_simp
        try simp [Act.put]
        refine wpAnyH_take (i := 6) (v := .pointer (some ⟨wr.heap.size, 0, none⟩)) rfl (by kernel_rfl) (by kernel_rfl) (by kernel_rfl) (fun _ _ _ h => h) (Or.inl ⟨by rfl, ?_⟩) hSw ?_
        · intro wz hsz
          obtain ⟨z0, z1, z2, z3, z4⟩ := hsz
          go_simp
        try simp [Act.put]
        refine wpAnyH_take (i := 7) (v := .int .i64 (S : Int)) rfl (by kernel_rfl) (by kernel_rfl) (by kernel_rfl) (fun _ _ _ h => h) (Or.inl ⟨by rfl, ?_⟩) hSw ?_
        · intro wz hsz
          obtain ⟨z0, z1, z2, z3, z4⟩ := hsz
          go_simp
        try simp [Act.put]
        refine wpAnyH_ready (rs := [5]) (by kernel_rfl) (by simp) ?_
        refine AllReadyH.cons rfl (fun K hK => ?_) AllReadyH.nil
        go_simp
        go_wp2_with (first | (go_at_call 36; refine (kL _ hw0.drew).mono ?_; rintro r w6 ⟨⟨Db, B6, D6, rfl, hDt, hdue⟩, hb6⟩) | (fail))
        have hbb := stepA hw0.drew hb6
        have kQ := kP Db B6 D6 w6 hbb hDt hdue
        clear hDt hdue kL kP
        refine hK.out _ _ (⟨(b2.on hbb).c0, (b2.on hbb).c1, (b2.on hbb).c2, (b3.on hbb).c0, (b3.on hbb).c1⟩) (fun hSn => ?_)
        clear hK K hSw
        have hSw := hSn
        clear hSn
        try simp [Act.put]
        refine wpAnyH_ready (rs := [8]) (by kernel_rfl) (by simp) ?_
        refine AllReadyH.cons rfl (fun K hK => ?_) AllReadyH.nil
        go_simp
        go_wp2_with fail
        refine kQ.mono ?_
        rintro r w7 ⟨⟨P, pb, pc, hBp, rfl, hlo, hpcap, hIP, hrng⟩ | ⟨hno, rfl⟩, hb7⟩
        · have hbc := stepA hbb hb7
          clear kQ
          have HB6 : Hid (Bests W n f g (fun i => if i = k then P else R i) T (k + 1)) := HSN.out P hBp
          have kT := take_any Mb cnt R T k (some ⟨pb, 0, none⟩) pc P w7 (MI.on HMt.out hbc) (by omega) (by omega) (by omega) hIP.il (fun i hi => by have := hrng i hi; omega) (fun b o e => by cases e; have := HKw.out; have := HWT.out; have := hbb.size; omega)
          have HO7 : Hid (Ow w7 (Mb + 1) (.slice sa k sc) k (T + 1) R B C) := HOt.out.on hbc
          have HB7 : Hid (Below Mb w2 w7) := HBt.out.trans (hbc.mono (by have := HKw.out; have := HWT.out; omega))
          have HNE : Hid (∀ j, j < k → B j ≠ pb) := fun j hj => by
            have := (HOt.out.row j hj).lt
            have := hbb.size
            omega
          have HNQ : Hid (∀ q, (Value.slice sa k sc).ownBlock = some q → pb ≠ q) := fun q hq => by
            have := (World.ownsRow.lt HOt.out.own q hq).2
            have := hbb.size
            omega
          have HPL : Hid (Mb + 1 ≤ pb) := by have := HKw.out; have := HWT.out; have := hbb.size; show Mb + 1 ≤ pb; omega
          have HIP : Hid (IP w7 pb (T + 1) P) := hIP
          have HC2 : Hid (∀ j, j < k + 1 → T + 1 ≤ (fun i => if i = k then pc else C i) j) := fun j hj => by
            by_cases e : j = k
            · simp [e]; omega
            · simp only [e, if_false]; exact HC.out j (by omega)
          refine hK.out _ _ (⟨(b2.on hbc).c0, (b2.on hbc).c1, (b2.on hbc).c2, (b3.on hbc).c0, (b3.on hbc).c1⟩) (fun hSn => ?_)
          clear hK K hSw
          have hSw := hSn
          clear hSn
          try simp [Act.put]
          refine wpAnyH_take (i := 9) (v := .tuple #[.slice (some ⟨pb, 0, none⟩) (T + 1) pc, .bool true]) rfl (by kernel_rfl) (by kernel_rfl) (by kernel_rfl) (fun _ _ _ h => h) (Or.inl ⟨by rfl, ?_⟩) hSw ?_
          · intro wz hsz
            obtain ⟨z0, z1, z2, z3, z4⟩ := hsz
            go_simp
          try simp [Act.put]
          refine wpAnyH_take (i := 10) (v := .slice (some ⟨pb, 0, none⟩) (T + 1) pc) rfl (by kernel_rfl) (by kernel_rfl) (by kernel_rfl) (fun _ _ _ h => h) (Or.inl ⟨by rfl, ?_⟩) hSw ?_
          · intro wz hsz
            obtain ⟨z0, z1, z2, z3, z4⟩ := hsz
            go_simp
          try simp [Act.put]
          refine wpAnyH_take (i := 11) (v := .bool true) rfl (by kernel_rfl) (by kernel_rfl) (by kernel_rfl) (fun _ _ _ h => h) (Or.inl ⟨by rfl, ?_⟩) hSw ?_
          · intro wz hsz
            obtain ⟨z0, z1, z2, z3, z4⟩ := hsz
            go_simp
          try simp [Act.put]
          refine wpAnyH_take (i := 12) (v := .slice (some ⟨pb, 0, none⟩) (T + 1) pc) rfl (by kernel_rfl) (by kernel_rfl) (by kernel_rfl) (fun _ _ _ h => h) (Or.inl ⟨by rfl, ?_⟩) hSw ?_
          · intro wz hsz
            obtain ⟨z0, z1, z2, z3, z4⟩ := hsz
            go_simp
          try simp [Act.put]
          refine wpAnyH_take (i := 13) (v := .bool true) rfl (by kernel_rfl) (by kernel_rfl) (by kernel_rfl) (fun _ _ _ h => h) (Or.inl ⟨by rfl, ?_⟩) hSw ?_
          · intro wz hsz
            obtain ⟨z0, z1, z2, z3, z4⟩ := hsz
            go_simp
          try simp [Act.put]
          refine wpAnyH_done (by kernel_rfl) ?_ _
          clear hSw hIP hrng hBp hlo g0 g1 g2 x2 x3 b2 b3 hbb hb6 hb7 hw0 y0 y1 HSN HN2 HC
          go_wp2_with fail
          refine kT.mono ?_
          rintro r w8 ⟨rfl, hM8, ht8⟩
          have HO8 : Hid (Ow w8 (Mb + 1) (.slice sa k sc) k (T + 1) R B C) := HO7.out.turns ht8 (Nat.le_refl _)
          have HI8 : Hid (IP w8 pb (T + 1) P) := HIP.out.turns ht8 HPL.out
          have hl8 := hM8.lt
          have HB8 : Hid (Below Mb w2 w8) := HB7.out.trans (ht8.below (Nat.le_refl _) (by have := HKw.out; have := HWT.out; have := hbc.size; omega))
          have HM8 : Hid (MS w8 Mb (cnt + T + 1) (mR (fun i => if i = k then P else R i) T (k + 1))) := hM8
          clear kT hM8 ht8 HO7 HIP HB7 hbc
          go_wp2_with (at_builtin; refine wpList_append_own _ rfl _ _ 29 rfl (Mb + 1) 23 i0' (.slice none 0 0) 1 24 Tryd.underlying29 hi hz0 hz1 hz2 rfl (by decide) _ _ _ rfl (World.ownsRow.alloc HO8.out.own _) ⟨w8.heap.size, 0, none⟩ 1 1 [.slice (some ⟨pb, 0, none⟩) (T + 1) pc] rfl rfl (cell_one_new _ _ _) (fun x hx => by simp at hx; subst hx; rfl) (by unfold maxLen; omega) (by omega) (by simp; omega) ?_; intro v3 w3 hown' hgrow3 _)
          have hO9 := HO8.out.app (by omega) HPL.out HI8.out HNE.out HNQ.out hown' hgrow3
          have hB9 : Below Mb w2 w3 := HB8.out.trans (((Below.refl _ _).alloc (by omega) _).grown hgrow3 (by simp; omega) (fun q hq => by have := (World.ownsRow.lt HO8.out.own q hq).1; omega))
          have hM9 : MS w3 Mb (cnt + T + 1) (mR (fun i => if i = k then P else R i) T (k + 1)) := MI.heap (MI.on HM8.out ((Below.refl _ _).alloc (Nat.le_refl _) _)) (hgrow3.block Mb (by simp; omega) (fun e => by have := (World.ownsRow.lt HO8.out.own Mb e.symm).1; omega))
          exact ⟨⟨k + 1, cnt + T + 1, _, _, _, by go_num, by omega, by omega, HB6, hO9, hM9, HC2, hB9⟩, by simp [intOf]; omega⟩
        · have hbc := stepA hbb hb7
          clear kQ
          have HR : Hid (PlnIs W n f m g (T : Int) false fun _ _ => 0) := HN2.out hno
          have HBw : Hid (Below w.heap.size w w7) := stepA HBT.out hbc
          refine hK.out _ _ (⟨(b2.on hbc).c0, (b2.on hbc).c1, (b2.on hbc).c2, (b3.on hbc).c0, (b3.on hbc).c1⟩) (fun hSn => ?_)
          clear hK K hSw
          have hSw := hSn
          clear hSn
          try simp [Act.put]
          refine wpAnyH_take (i := 9) (v := .tuple #[.slice none 0 0, .bool false]) rfl (by kernel_rfl) (by kernel_rfl) (by kernel_rfl) (fun _ _ _ h => h) (Or.inl ⟨by rfl, ?_⟩) hSw ?_
          · intro wz hsz
            obtain ⟨z0, z1, z2, z3, z4⟩ := hsz
            go_simp
          try simp [Act.put]
          refine wpAnyH_take (i := 10) (v := .slice none 0 0) rfl (by kernel_rfl) (by kernel_rfl) (by kernel_rfl) (fun _ _ _ h => h) (Or.inl ⟨by rfl, ?_⟩) hSw ?_
          · intro wz hsz
            obtain ⟨z0, z1, z2, z3, z4⟩ := hsz
            go_simp
          try simp [Act.put]
          refine wpAnyH_take (i := 11) (v := .bool false) rfl (by kernel_rfl) (by kernel_rfl) (by kernel_rfl) (fun _ _ _ h => h) (Or.inl ⟨by rfl, ?_⟩) hSw ?_
          · intro wz hsz
            obtain ⟨z0, z1, z2, z3, z4⟩ := hsz
            go_simp
          try simp [Act.put]
          refine wpAnyH_take (i := 12) (v := .slice none 0 0) rfl (by kernel_rfl) (by kernel_rfl) (by kernel_rfl) (fun _ _ _ h => h) (Or.inl ⟨by rfl, ?_⟩) hSw ?_
          · intro wz hsz
            obtain ⟨z0, z1, z2, z3, z4⟩ := hsz
            go_simp
          try simp [Act.put]
          refine wpAnyH_take (i := 13) (v := .bool false) rfl (by kernel_rfl) (by kernel_rfl) (by kernel_rfl) (fun _ _ _ h => h) (Or.inl ⟨by rfl, ?_⟩) hSw ?_
          · intro wz hsz
            obtain ⟨z0, z1, z2, z3, z4⟩ := hsz
            go_simp
          try simp [Act.put]
          refine wpAnyH_done (by kernel_rfl) ?_ _
          clear hSw hno g0 g1 g2 x2 x3 b2 b3 hbb hb6 hb7 hw0 y0 y1 HSN HN2 HC
          go_wp2
          go_ret2
          exact ⟨ansPk_no _ _ HR.out, HBw.out⟩
end Go.Proofs.YtbndhhjgjalecaaDoor
