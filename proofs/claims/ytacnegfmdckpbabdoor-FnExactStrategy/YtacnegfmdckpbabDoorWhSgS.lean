/- The plan, as the model makes it. -/
import Derived.Test.YtacnegfmdckpbabDoorWhRkS
import Derived.Test.YtacnegfmdckpbabDoorWhSgI
namespace Go.Proofs.YtacnegfmdckpbabDoor
open Go.RowKit
theorem ansPb_ip {w w' : World} {b N c : Nat} {l : List Int} {V : Option (List Int)} (h : IP w' b N (gl l)) (hN : l.length = N) (hb : w.heap.size ≤ b) (hV : V = some l) : AnsPb w w' (.returned (.tuple #[.slice (some ⟨b, 0, none⟩) N c, .bool true])) V := by
  subst hV hN; exact ⟨_, c, rfl, lq_of h hb h.lt⟩
set_option maxRecDepth 200000 in
set_option maxHeartbeats 16000000 in
theorem sStrategy (a : Option Addr) (n c : Nat) (b : Option Addr) (m d : Nat) (x : Option Addr) (p q : Nat) (f : Nat → ByteArray) (g : Nat → Bool) (K : Nat → Nat) (R : Nat → Nat → Int) (ra : Option Addr) (rn rc : Nat) (re : Nat → ByteArray) (aa : Option Addr) (an ac : Nat) (av : Nat → ByteArray) (w : World)
    (hn : n ≤ 1048576) (hm : m ≤ 1048576) (hp : p ≤ 1048576) (hf : ∀ i, i < n → (f i).size ≤ 1048576) (hK : ∀ i, i < p → K i ≤ 1048576) (hrn : rn ≤ 1048576) (han : an ≤ 1048576) (hrc : rn ≤ rc) (hac : an ≤ ac) (hre : ∀ i, i < rn → (re i).size ≤ 1048576) (hav : ∀ i, i < an → (av i).size ≤ 1048576)
    (h : BD w a n f b m g x p K R) (hr : SL w ra rn re) (ha : SL w aa an av) :
    Calls Tryd.prog 8 #[bdv a n c b m d x p q, wsv ra rn rc aa an ac] w fun e w' => AnsPb w w' e (stV n f m g p K R rn re an av) ∧ Below w.heap.size w w' := by
  have hb1 : Below w.heap.size w (w.alloc (bdO a n c b m d x p q 34)) := (Below.refl _ _).alloc (Nat.le_refl _) _
  have hb2 : Below w.heap.size w ((w.alloc (bdO a n c b m d x p q 34)).alloc (wsO ra rn rc aa an ac 36)) := hb1.alloc (by simp) _
  have bA := (bx_new (w := w) (bdL a n c b m d x p q) 34 rfl).alloc (wsO ra rn rc aa an ac 36)
  have bW := (bx_new (w := w.alloc (bdO a n c b m d x p q 34)) (b := w.heap.size + 1) [.slice ra rn rc, .slice aa an ac] 36 (by simp))
  have hsz : ((w.alloc (bdO a n c b m d x p q 34)).alloc (wsO ra rn rc aa an ac 36)).heap.size = w.heap.size + 2 := by simp
  have kG := fun w2 h => sGoodBoard a n c b m d x p q f g K R w2 hn hm hp hf hK h
  have kW := fun w2 h1 h2 => sGood ra aa rn rc an ac re av w2 hrn han hrc hac hre hav h1 h2
  have HV : Hid (stV n f m g p K R rn re an av = if bwB n f m p K R rn re an av = true then some (fnL (stF n (knF f rn re an av) rn g K R) n) else none) := (rfl : stV n f m g p K R rn re an av = _)
  obtain ⟨V, HE⟩ : ∃ V, Hid (stV n f m g p K R rn re an av = V) := ⟨_, (rfl : stV n f m g p K R rn re an av = _)⟩
  rw [HE.out] at HV
  have x0 := bA.c0
  have x1 := bA.c1
  have x2 := bA.c2
  clear hb1
  cases hG : gbB n f m p K R with
  | false =>
    rw [hG] at kG
    have HN : Hid (V = none) := by
      show V = none
      rw [HV.out, if_neg (by unfold bwB; rw [hG]; simp)]
    go_enter Tryd.func8, Tryd.ntmps8
    go_wp2_with fail
    refine (kG _ (h.below hb2)).mono ?_
    rintro e w3 ⟨rfl, hb3⟩
    have hB3 := stepA hb2 hb3
    clear kG kW HV bA bW x0 x1 x2
    go_wp2
    go_ret2
    exact ⟨ansPb_none (HE.out.trans HN.out), hB3⟩
  | true =>
    rw [hG] at kG
    obtain ⟨g1, g2, rfl, rfl, _⟩ := gbB_parts hG
    have hR : OnB p K R := fun i hi j hj => gbB_row hG hi hj
    cases hW : (namB re rn && namB av an) with
    | false =>
      rw [hW] at kW
      have HN : Hid (V = none) := by
        show V = none
        rw [HV.out, if_neg (by unfold bwB; rw [hG, hW]; simp)]
      go_enter Tryd.func8, Tryd.ntmps8
      go_wp2_with fail
      refine (kG _ (h.below hb2)).mono ?_
      rintro e w3 ⟨rfl, hb3⟩
      have hB3 := stepA hb2 hb3
      have bW3 := bW.on hb3
      have x3 := bW3.c0
      have x4 := bW3.c1
      clear kG HV bA bW x0 x1 x2
      go_wp2_with fail
      refine (kW _ (hr.below hB3) (ha.below hB3)).mono ?_
      rintro e w4 ⟨rfl, hb4⟩
      have hB4 := stepA hB3 hb4
      clear kW bW3 x3 x4
      go_wp2
      go_ret2
      exact ⟨ansPb_none (HE.out.trans HN.out), hB4⟩
    | true =>
      rw [hW] at kW
      have HN : Hid (V = some (fnL (stF p (knF f rn re an av) rn g K R) p)) := by
        show V = _
        rw [HV.out, if_pos (by unfold bwB; rw [hG, hW]; rfl)]
      have kL := fun w2 h1 h2 h3 => sRanks a p c b d x q f g K R ra rn rc re aa an ac av w2 g1 g2 hK hR hrn han h1 h2 h3
      have HSf : Hid (∀ i, stF p (knF f rn re an av) rn g K R i = if g i = true ∧ 0 ≤ rkV p (knF f rn re an av) rn g K R i ∧ ¬ (0 < rn ∧ rkV p (knF f rn re an av) rn g K R i = 0) then spK (rkV p (knF f rn re an av) rn g K R) (R i) (K i) else -1) := fun i => rfl
      have HR : Hid (OnB p K R) := hR
      have HK : Hid (∀ i, i < p → K i ≤ 1048576) := hK
      have hmk := fun w => run_make_row' (P := Tryd.prog) 31 3 (.int .i64 0) 8 Tryd.underlying31 infoI rfl .i64 .i64 p (by omega) (by omega) w
      clear hR HV hG hW hK
      generalize knF f rn re an av = kn at *
      go_enter Tryd.func8, Tryd.ntmps8
      go_wp2_with fail
      refine (kG _ (h.below hb2)).mono ?_
      rintro e w3 ⟨rfl, hb3⟩
      have hB3 := stepA hb2 hb3
      have bW3 := bW.on hb3
      have bA3 := bA.on hb3
      have x3 := bW3.c0
      have x4 := bW3.c1
      have hs3 := hb3.size
      clear kG bA bW x0 x1 x2 hb3 hb2
      go_wp2_with fail
      refine (kW _ (hr.below hB3) (ha.below hB3)).mono ?_
      rintro e w4 ⟨rfl, hb4⟩
      have hB4 := stepA hB3 hb4
      have bW4 := bW3.on hb4
      have bA4 := bA3.on hb4
      have x5 := bA4.c0
      have x6 := bA4.c1
      have x7 := bA4.c2
      have x8 := bW4.c0
      have x9 := bW4.c1
      have hs4 := hb4.size
      clear kW bW3 bA3 x3 x4 hb4 hB3
      go_wp2_with fail
      refine (kL _ (h.below hB4) (hr.below hB4) (ha.below hB4)).mono ?_
      rintro e w5 ⟨hA5, hb5⟩
      obtain ⟨lb, lc, rfl, e1, e2, hIP⟩ := hA5
      have hB5 := stepA hB4 hb5
      have bW5 := bW4.on hb5
      have bA5 := bA4.on hb5
      have hs5 := hb5.size
      have hlt5 := hIP.lt
      clear kL bW4 bA4 x5 x6 x7 x8 x9 hb5 hB4
      have hb6 : Below w5.heap.size w5 (w5.alloc (.cells (madeCells #[.int .i64 0] p) 3)) := (Below.refl _ _).alloc (Nat.le_refl _) _
      have hB6 := stepA hB5 hb6
      have HIP : Hid (IP (w5.alloc (.cells (madeCells #[.int .i64 0] p) 3)) lb p (rkV p kn rn g K R)) := hIP.below hb6 hlt5
      have HBA : Hid (Bx (w5.alloc (.cells (madeCells #[.int .i64 0] p) 3)) w.heap.size (bdL a p c b p d x p q)) := bA5.on hb6
      have HBW : Hid (Bx (w5.alloc (.cells (madeCells #[.int .i64 0] p) 3)) (w.heap.size + 1) [.slice ra rn rc, .slice aa an ac]) := bW5.on hb6
      have HO0 : Hid (∃ F, IP (w5.alloc (.cells (madeCells #[.int .i64 0] p) 3)) w5.heap.size p F ∧ ∀ j, j < 0 → F j = stF p kn rn g K R j) := ⟨_, row_ip (F := fun _ => 0) (World.rowIs_made w5 (.int .i64 0) p 3), fun j hj => absurd hj (Nat.not_lt_zero _)⟩
      clear hIP bA5 bW5 hb6 hB5
      go_wp2_with fail
      generalize w5.alloc (.cells (madeCells #[.int .i64 0] p) 3) = W6 at HO0 HIP HBA HBW hB6 ⊢
      clear hmk
      go_loopw [27] (fun k wr => ∃ i : Nat, i ≤ p ∧ k = .int .i64 (i : Int) ∧ Hid (∃ F, IP wr w5.heap.size p F ∧ ∀ j, j < i → F j = stF p kn rn g K R j) ∧ Hid (IP wr lb p (rkV p kn rn g K R)) ∧ Hid (Bx wr w.heap.size (bdL a p c b p d x p q)) ∧ Hid (Bx wr (w.heap.size + 1) [.slice ra rn rc, .slice aa an ac]) ∧ Below w.heap.size w wr) (fun k _ => p - (intOf k).toNat)
      case atStart => exact ⟨0, Nat.zero_le _, rfl, HO0, HIP, HBA, HBW, hB6⟩
      case round =>
        obtain ⟨i, hip, rfl, HO, HI, HA, HW, hB⟩ := hrel
        clear HO0 HIP HBA HBW hB6
        by_cases hlt : i < p
        · obtain ⟨F, hIO, hF⟩ := HO.out
          clear HO
          have k0 : (0 : Int) ≤ (i : Int) := by omega
          have k1 : (i : Int) < (p : Int) := by omega
          have z1 := hIO.c i hlt
          have z2 := hIO.lt
          have z3 := hIO.fz i
          have HIs : Hid (IP (wr.setCell ⟨w5.heap.size, i, none⟩ (.int .i64 (-1))) w5.heap.size p (put F i (-1))) := hIO.set hlt (-1)
          have HFs : Hid (∀ X j, j < i → put F i X j = stF p kn rn g K R j) := fun X j hj => by unfold put; rw [if_neg (by omega)]; exact hF j hj
          have HI2 : Hid (IP (wr.setCell ⟨w5.heap.size, i, none⟩ (.int .i64 (-1))) lb p (rkV p kn rn g K R)) := HI.out.only ((Only.refl w5.heap.size wr).set i (.int .i64 (-1))) (by omega)
          have HA2 : Hid (Bx (wr.setCell ⟨w5.heap.size, i, none⟩ (.int .i64 (-1))) w.heap.size (bdL a p c b p d x p q)) := HA.out.far (b' := w5.heap.size) (k := i) (.int .i64 (-1)) (by omega)
          have HW2 : Hid (Bx (wr.setCell ⟨w5.heap.size, i, none⟩ (.int .i64 (-1))) (w.heap.size + 1) [.slice ra rn rc, .slice aa an ac]) := HW.out.far (b' := w5.heap.size) (k := i) (.int .i64 (-1)) (by omega)
          have hBs := hB.setCell (p := ⟨w5.heap.size, i, none⟩) (by simp <;> omega) (.int .i64 (-1))
          obtain ⟨mb, mo, emb, ml, hc2⟩ := (h.mi.below hBs) (by omega)
          have y2 := hc2 i hlt
          have y4 := HI2.out.c i hlt
          have HSfi : Hid (stF p kn rn g K R i = if g i = true ∧ 0 ≤ rkV p kn rn g K R i ∧ ¬ (0 < rn ∧ rkV p kn rn g K R i = 0) then spK (rkV p kn rn g K R) (R i) (K i) else -1) := HSf.out i
          subst emb
          have u1 := HA2.out.c1
          have u3 := HW2.out.c0
          have HDone : Hid (stF p kn rn g K R i = -1 → ∃ F, IP (wr.setCell ⟨w5.heap.size, i, none⟩ (.int .i64 (-1))) w5.heap.size p F ∧ ∀ j, j < i + 1 → F j = stF p kn rn g K R j) := fun h9 => ⟨_, HIs.out, fun j hj => by
            by_cases e : j = i
            · subst e; unfold put; rw [if_pos rfl, h9]
            · exact HFs.out (-1) j (by omega)⟩
          clear HI HA HW hc2 hF hIO
          generalize hV : rkV p kn rn g K R i = Vi at *
          generalize g i = G at *
          by_cases hgo : G = true ∧ 0 ≤ Vi ∧ ¬ (0 < rn ∧ Vi = 0)
          · have HSg : Hid (stF p kn rn g K R i = spK (rkV p kn rn g K R) (R i) (K i)) := by
              show stF p kn rn g K R i = _
              rw [HSfi.out, if_pos hgo]
            obtain ⟨rfl, v0, hnr⟩ := hgo
            have v1 : ¬ Vi < 0 := by omega
            obtain ⟨A, C, hA⟩ := h.nx
            obtain ⟨xb, xo, exb, xl, hc3⟩ := (hA.below hBs).out (by omega)
            have y3 := hc3 i hlt
            have HRow : Hid (∀ w2, Below w.heap.size w w2 → IL w2 (A i) (K i) (R i)) := fun w2 h2 => (hA.below h2).row i hlt
            have hKi := HK.out i hlt
            have HRi : Hid (∀ t, t < K i → 0 ≤ R i t ∧ R i t < (p : Int)) := HR.out i hlt
            have u2 := HA2.out.c2
            subst exb
            have HSp0 : Hid (∃ F, IP (wr.setCell ⟨w5.heap.size, i, none⟩ (.int .i64 (-1))) w5.heap.size p F ∧ (∀ j, j < i → F j = stF p kn rn g K R j) ∧ F i = spK (rkV p kn rn g K R) (R i) 0) := ⟨_, HIs.out, fun j hj => HFs.out (-1) j hj, by unfold put; rw [if_pos rfl]; rfl⟩
            clear HSfi HDone hc3 hA hV HIs HFs
            generalize A i = Z at *
            generalize C i = Y at *
            generalize K i = M at *
            generalize R i = Fr at *
            have hcond : (¬ 0 < rn ∧ ¬ (0 : Int) < (rn : Int)) ∨ (0 < rn ∧ (0 : Int) < (rn : Int) ∧ (Vi == 0) = false) := by
              by_cases hr0 : 0 < rn
              · exact .inr ⟨hr0, by omega, by
                  cases e : (Vi == 0) with
                  | false => rfl
                  | true => exact absurd ⟨hr0, eq_of_beq e⟩ hnr⟩
              · exact .inl ⟨hr0, by omega⟩
            clear hnr
            rcases hcond with ⟨_, r2⟩ | ⟨_, r2, r3⟩
            all_goals
              go_wp2_with fail
              clear z1 z2 z3 y2 y4 u1 u2 u3 y3 hB
              generalize wr.setCell ⟨w5.heap.size, i, none⟩ (.int .i64 (-1)) = w9 at *
              go_loopw [65] (fun k wr => ∃ t : Nat, t ≤ M ∧ k = .int .i64 (t : Int) ∧ Hid (∃ F, IP wr w5.heap.size p F ∧ (∀ j, j < i → F j = stF p kn rn g K R j) ∧ F i = spK (rkV p kn rn g K R) Fr t) ∧ Hid (IP wr lb p (rkV p kn rn g K R)) ∧ Hid (Bx wr w.heap.size (bdL a p c (some ⟨mb, mo, none⟩) p d (some ⟨xb, xo, none⟩) p q)) ∧ Hid (Bx wr (w.heap.size + 1) [.slice ra rn rc, .slice aa an ac]) ∧ Below w.heap.size w wr) (fun k _ => M - (intOf k).toNat)
              case atStart => exact ⟨0, Nat.zero_le _, rfl, HSp0, HI2, HA2, HW2, hBs⟩
              case round =>
                obtain ⟨t, ht, rfl, HO3, HI3, HA3, HW3, hB3⟩ := hrel
                clear HSp0 HI2 HA2 HW2 hBs
                by_cases hltt : t < M
                · obtain ⟨F3, hIO3, hF3, hFi⟩ := HO3.out
                  clear HO3
                  obtain ⟨fb, fo, rfl, fl, hc5⟩ := (HRow.out _ hB3) (by omega)
                  have z4 := hc5 t hltt
                  have hFr := HRi.out t hltt
                  have f0 := hFr.1
                  have f1 := hFr.2
                  have z5 := HI3.out.c (Fr t).toNat (by omega)
                  have z6 := hIO3.c i hlt
                  have z7 := hIO3.lt
                  have z8 := hIO3.fz i
                  rw [hFi] at z6
                  have hsp := spK_in (N := rkV p kn rn g K R) (n := p) t fun j hj => HRi.out j (by omega)
                  have q0 : (0 : Int) ≤ (t : Int) := by omega
                  have q1 : (t : Int) < (M : Int) := by omega
                  have HStep : Hid (spK (rkV p kn rn g K R) Fr (t + 1) = if 0 ≤ rkV p kn rn g K R (Fr t).toNat ∧ (spK (rkV p kn rn g K R) Fr t < 0 ∨ rkV p kn rn g K R (Fr t).toNat < rkV p kn rn g K R (spK (rkV p kn rn g K R) Fr t).toNat) then Fr t else spK (rkV p kn rn g K R) Fr t) := (rfl : spK (rkV p kn rn g K R) Fr (t + 1) = _)
                  have HCell : Hid (∀ y, y < p → wr.cell? ⟨lb, y, none⟩ = some (.int .i64 (rkV p kn rn g K R y))) := fun y hy => HI3.out.c y hy
                  have HSk : Hid (spK (rkV p kn rn g K R) Fr (t + 1) = spK (rkV p kn rn g K R) Fr t → ∀ w2, IP w2 w5.heap.size p F3 → ∃ F, IP w2 w5.heap.size p F ∧ (∀ j, j < i → F j = stF p kn rn g K R j) ∧ F i = spK (rkV p kn rn g K R) Fr (t + 1)) := fun h9 w2 h8 => ⟨F3, h8, hF3, hFi.trans h9.symm⟩
                  have HSt : Hid (spK (rkV p kn rn g K R) Fr (t + 1) = Fr t → ∀ w2, IP w2 w5.heap.size p F3 → ∃ F, IP (w2.setCell ⟨w5.heap.size, i, none⟩ (.int .i64 (Fr t))) w5.heap.size p F ∧ (∀ j, j < i → F j = stF p kn rn g K R j) ∧ F i = spK (rkV p kn rn g K R) Fr (t + 1)) := fun h9 w2 h8 => ⟨put F3 i (Fr t), h8.set hlt (Fr t), fun j hj => by unfold put; rw [if_neg (by omega)]; exact hF3 j hj, by unfold put; rw [if_pos rfl, h9]⟩
                  have HIO3 : Hid (IP wr w5.heap.size p F3) := hIO3
                  have HBl : Hid (Below w.heap.size w wr) := hB3
                  obtain ⟨wb, hwb⟩ : ∃ wb, wb = wr := ⟨wr, rfl⟩
                  subst hwb
                  have hdr : ∀ nq, Below wb.heap.size wb (wb.drewN nq) := fun nq => below_dr (Below.refl _ _) nq
                  have HDr : Hid (∀ nq, IP (wb.drewN nq) w5.heap.size p F3 ∧ IP (wb.drewN nq) lb p (rkV p kn rn g K R) ∧ Bx (wb.drewN nq) w.heap.size (bdL a p c (some ⟨mb, mo, none⟩) p d (some ⟨xb, xo, none⟩) p q) ∧ Bx (wb.drewN nq) (w.heap.size + 1) [.slice ra rn rc, .slice aa an ac] ∧ Below w.heap.size w (wb.drewN nq)) := fun nq => ⟨HIO3.out.below (hdr nq) HIO3.out.lt, HI3.out.below (hdr nq) HI3.out.lt, HA3.out.on (hdr nq), HW3.out.on (hdr nq), below_dr hB3 nq⟩
                  clear hc5 hFr hFi hF3 hIO3 HIO3 HI3 HA3 HW3 hB3 HBl hdr
                  generalize hQ : spK (rkV p kn rn g K R) Fr t = Q at *
                  generalize hX : Fr t = X at *
                  by_cases c0 : 0 ≤ rkV p kn rn g K R X.toNat
                  · have d0 : decide (0 ≤ rkV p kn rn g K R X.toNat) = true := decide_eq_true c0
                    by_cases c1 : Q < 0
                    · have d1 : decide (Q < 0) = true := decide_eq_true c1
                      have hst : spK (rkV p kn rn g K R) Fr (t + 1) = X := by rw [HStep.out, if_pos ⟨c0, .inl c1⟩]
                      have HSt2 : Hid (∀ w2, IP w2 w5.heap.size p F3 → ∃ F, IP (w2.setCell ⟨w5.heap.size, i, none⟩ (.int .i64 X)) w5.heap.size p F ∧ (∀ j, j < i → F j = stF p kn rn g K R j) ∧ F i = spK (rkV p kn rn g K R) Fr (t + 1)) := HSt.out hst
                      clear HStep HSk HSt hst HCell hsp hQ hX
                      generalize rkV p kn rn g K R X.toNat = RX at *
                      go_wp2_with fail
                      go_quiet (fail)
                      obtain ⟨i1, i2, i3, i4, i6⟩ := HDr.out nq
                      have j1 := i1.c i hlt
                      have j2 := i1.lt
                      have j3 := i1.fz i
                      have HO9 : Hid (∃ F, IP ((wb.drewN nq).setCell ⟨w5.heap.size, i, none⟩ (.int .i64 X)) w5.heap.size p F ∧ (∀ j, j < i → F j = stF p kn rn g K R j) ∧ F i = spK (rkV p kn rn g K R) Fr (t + 1)) := HSt2.out _ i1
                      have HI9 : Hid (IP ((wb.drewN nq).setCell ⟨w5.heap.size, i, none⟩ (.int .i64 X)) lb p (rkV p kn rn g K R)) := i2.only ((Only.refl w5.heap.size _).set i (.int .i64 X)) (by omega)
                      have HA9 : Hid (Bx ((wb.drewN nq).setCell ⟨w5.heap.size, i, none⟩ (.int .i64 X)) w.heap.size (bdL a p c (some ⟨mb, mo, none⟩) p d (some ⟨xb, xo, none⟩) p q)) := i3.far (b' := w5.heap.size) (k := i) (.int .i64 X) (by omega)
                      have HW9 : Hid (Bx ((wb.drewN nq).setCell ⟨w5.heap.size, i, none⟩ (.int .i64 X)) (w.heap.size + 1) [.slice ra rn rc, .slice aa an ac]) := i4.far (b' := w5.heap.size) (k := i) (.int .i64 X) (by omega)
                      have hB9 := i6.setCell (p := ⟨w5.heap.size, i, none⟩) (by simp <;> omega) (.int .i64 X)
                      clear HDr HSt2 i1 i2 i3 i4 i6 z4 z5 z6 z7 z8
                      go_wp2
                      exact ⟨⟨t + 1, by omega, by go_num, HO9, HI9, HA9, HW9, hB9⟩, by simp [intOf]; omega⟩
                    · have d1 : decide (Q < 0) = false := decide_eq_false c1
                      have q2 : 0 ≤ Q := by omega
                      have q3 : Q < (p : Int) := by omega
                      have z9 := HCell.out Q.toNat (by omega)
                      by_cases c2 : rkV p kn rn g K R X.toNat < rkV p kn rn g K R Q.toNat
                      · have d2 : decide (rkV p kn rn g K R X.toNat < rkV p kn rn g K R Q.toNat) = true := decide_eq_true c2
                        have hst : spK (rkV p kn rn g K R) Fr (t + 1) = X := by rw [HStep.out, if_pos ⟨c0, .inr c2⟩]
                        have HSt2 : Hid (∀ w2, IP w2 w5.heap.size p F3 → ∃ F, IP (w2.setCell ⟨w5.heap.size, i, none⟩ (.int .i64 X)) w5.heap.size p F ∧ (∀ j, j < i → F j = stF p kn rn g K R j) ∧ F i = spK (rkV p kn rn g K R) Fr (t + 1)) := HSt.out hst
                        clear HStep HSk HSt hst HCell hsp hQ hX
                        generalize rkV p kn rn g K R X.toNat = RX at *
                        generalize rkV p kn rn g K R Q.toNat = RQ at *
                        go_wp2_with fail
                        go_quiet (fail)
                        obtain ⟨i1, i2, i3, i4, i6⟩ := HDr.out nq
                        have j1 := i1.c i hlt
                        have j2 := i1.lt
                        have j3 := i1.fz i
                        have HO9 : Hid (∃ F, IP ((wb.drewN nq).setCell ⟨w5.heap.size, i, none⟩ (.int .i64 X)) w5.heap.size p F ∧ (∀ j, j < i → F j = stF p kn rn g K R j) ∧ F i = spK (rkV p kn rn g K R) Fr (t + 1)) := HSt2.out _ i1
                        have HI9 : Hid (IP ((wb.drewN nq).setCell ⟨w5.heap.size, i, none⟩ (.int .i64 X)) lb p (rkV p kn rn g K R)) := i2.only ((Only.refl w5.heap.size _).set i (.int .i64 X)) (by omega)
                        have HA9 : Hid (Bx ((wb.drewN nq).setCell ⟨w5.heap.size, i, none⟩ (.int .i64 X)) w.heap.size (bdL a p c (some ⟨mb, mo, none⟩) p d (some ⟨xb, xo, none⟩) p q)) := i3.far (b' := w5.heap.size) (k := i) (.int .i64 X) (by omega)
                        have HW9 : Hid (Bx ((wb.drewN nq).setCell ⟨w5.heap.size, i, none⟩ (.int .i64 X)) (w.heap.size + 1) [.slice ra rn rc, .slice aa an ac]) := i4.far (b' := w5.heap.size) (k := i) (.int .i64 X) (by omega)
                        have hB9 := i6.setCell (p := ⟨w5.heap.size, i, none⟩) (by simp <;> omega) (.int .i64 X)
                        clear HDr HSt2 i1 i2 i3 i4 i6 z4 z5 z6 z7 z8 z9
                        go_wp2
                        exact ⟨⟨t + 1, by omega, by go_num, HO9, HI9, HA9, HW9, hB9⟩, by simp [intOf]; omega⟩
                      · have d2 : decide (rkV p kn rn g K R X.toNat < rkV p kn rn g K R Q.toNat) = false := decide_eq_false c2
                        have hst : spK (rkV p kn rn g K R) Fr (t + 1) = Q := by rw [HStep.out, if_neg (by rintro ⟨_, h9 | h9⟩; exact c1 h9; exact c2 h9)]
                        have HSk2 : Hid (∀ w2, IP w2 w5.heap.size p F3 → ∃ F, IP w2 w5.heap.size p F ∧ (∀ j, j < i → F j = stF p kn rn g K R j) ∧ F i = spK (rkV p kn rn g K R) Fr (t + 1)) := HSk.out hst
                        clear HStep HSk HSt hst HCell hsp hQ hX
                        generalize rkV p kn rn g K R X.toNat = RX at *
                        generalize rkV p kn rn g K R Q.toNat = RQ at *
                        go_wp2_with fail
                        go_quiet (fail)
                        obtain ⟨i1, i2, i3, i4, i6⟩ := HDr.out nq
                        have HO9 : Hid (∃ F, IP (wb.drewN nq) w5.heap.size p F ∧ (∀ j, j < i → F j = stF p kn rn g K R j) ∧ F i = spK (rkV p kn rn g K R) Fr (t + 1)) := HSk2.out _ i1
                        clear HDr HSk2 z4 z5 z6 z7 z8 z9
                        go_wp2
                        exact ⟨⟨t + 1, by omega, by go_num, HO9, i2, i3, i4, i6⟩, by simp [intOf]; omega⟩
                  · have d0 : decide (0 ≤ rkV p kn rn g K R X.toNat) = false := decide_eq_false c0
                    have hst : spK (rkV p kn rn g K R) Fr (t + 1) = Q := by rw [HStep.out, if_neg (fun h9 => c0 h9.1)]
                    have HSk2 : Hid (∀ w2, IP w2 w5.heap.size p F3 → ∃ F, IP w2 w5.heap.size p F ∧ (∀ j, j < i → F j = stF p kn rn g K R j) ∧ F i = spK (rkV p kn rn g K R) Fr (t + 1)) := HSk.out hst
                    clear HStep HSk HSt hst HCell hsp hQ hX
                    generalize rkV p kn rn g K R X.toNat = RX at *
                    go_wp2_with fail
                    go_quiet (fail)
                    obtain ⟨i1, i2, i3, i4, i6⟩ := HDr.out nq
                    have HO9 : Hid (∃ F, IP (wb.drewN nq) w5.heap.size p F ∧ (∀ j, j < i → F j = stF p kn rn g K R j) ∧ F i = spK (rkV p kn rn g K R) Fr (t + 1)) := HSk2.out _ i1
                    clear HDr HSk2 z4 z5 z6 z7 z8
                    go_wp2
                    exact ⟨⟨t + 1, by omega, by go_num, HO9, i2, i3, i4, i6⟩, by simp [intOf]; omega⟩
                · have htM : t = M := by omega
                  subst htM
                  have HO9 : Hid (∃ F, IP wr w5.heap.size p F ∧ ∀ j, j < i + 1 → F j = stF p kn rn g K R j) := by
                    obtain ⟨F, h1, h2, h3⟩ := HO3.out
                    exact ⟨F, h1, fun j hj => by
                      by_cases e : j = i
                      · subst e; rw [h3, HSg.out]
                      · exact h2 j (by omega)⟩
                  clear HO3 HSg HRow HRi
                  go_wp2
                  exact ⟨⟨i + 1, by omega, by go_num, HO9, HI3, HA3, HW3, hB3⟩, by simp [intOf]; omega⟩
          · have HO9 : Hid (∃ F, IP (wr.setCell ⟨w5.heap.size, i, none⟩ (.int .i64 (-1))) w5.heap.size p F ∧ ∀ j, j < i + 1 → F j = stF p kn rn g K R j) := HDone.out (by rw [HSfi.out, if_neg hgo])
            have hsplit : G = false ∨ (G = true ∧ decide (Vi < 0) = true) ∨ (G = true ∧ decide (Vi < 0) = false ∧ 0 < rn ∧ (0 : Int) < (rn : Int) ∧ (Vi == 0) = true) := by
              cases G with
              | false => exact .inl rfl
              | true =>
                by_cases h1 : Vi < 0
                · exact .inr (.inl ⟨rfl, decide_eq_true h1⟩)
                · by_cases h2 : 0 < rn ∧ Vi = 0
                  · exact .inr (.inr ⟨rfl, decide_eq_false h1, h2.1, by omega, by rw [h2.2]; rfl⟩)
                  · exact absurd ⟨rfl, by omega, h2⟩ hgo
            clear hgo HDone HSfi hV HIs HFs
            rcases hsplit with rfl | ⟨rfl, v1⟩ | ⟨rfl, v1, v2, v4, v3⟩
            all_goals
              go_wp2
              exact ⟨⟨i + 1, by omega, by go_num, HO9, HI2, HA2, HW2, hBs⟩, by simp [intOf]; omega⟩
        · have hpi : i = p := by omega
          subst hpi
          have HF : Hid (IP wr w5.heap.size i (gl (fnL (stF i kn rn g K R) i))) := by
            obtain ⟨F, h1, h2⟩ := HO.out
            exact h1.congr fun j hj => (h2 j hj).trans (fnL_get _ hj).symm
          clear HO HI HA HW HSf HR HK
          go_wp2
          go_ret2
          exact ⟨ansPb_ip HF.out (fnL_len _ _) (by omega) (HE.out.trans HN.out), hB⟩
end Go.Proofs.YtacnegfmdckpbabDoor
