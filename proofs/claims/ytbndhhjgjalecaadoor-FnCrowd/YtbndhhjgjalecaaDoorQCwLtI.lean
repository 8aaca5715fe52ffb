/- The least ticks from a cell to a cell, as the program tells it. -/
import Derived.Test.YtbndhhjgjalecaaDoorQCwRsI
import Derived.Test.YtbndhhjgjalecaaDoorQCwKi
import Derived.Test.YtbndhhjgjalecaaDoorQCwLfI
namespace Go.Proofs.YtbndhhjgjalecaaDoor
open Go.RowKit Go.ChangeMaps

/-- how far each node is, as the map tells it -/
def mF (N : Nat) (F : Nat → Int) (x : Int) : Option Int := if 0 ≤ x ∧ x < (N : Int) ∧ 0 ≤ F x.toNat then some (F x.toNat) else none
abbrev kvI : Int → Value := fun x => .int .i64 x
abbrev okI : Int → Prop := fun x => (Lit.int .i64 x).wf = true
abbrev SsI := Sst (κ := Int) 3 kvI okI 1
theorem wf_sm {x : Int} (h0 : -1000000 ≤ x) (h1 : x ≤ 1000000) : (Lit.int .i64 x).wf = true := WalkArith.wf_i64 (by omega)
/-- what stands ahead of a round -/
def LsR (Nb : Nat → Nat → Prop) (N S E : Nat) (w0 : World) (Mb g : Nat) (v : Value) (wr : World) : Prop :=
  ∃ (F T : Nat → Int) (i nq : Nat), N ≤ g + i ∧ Bf N Nb S F T (i + nq) i (fun _ => False) ∧ (∀ j, j < i → T j ≠ (E : Int)) ∧ SsI w0 wr Mb (i + nq) (mF N F) v nq (fun j => T (i + j))
/-- what stands while the neighbours l of number i are looked at -/
def LsN (Nb : Nat → Nat → Prop) (N S E : Nat) (w0 : World) (Mb i P : Nat) (l : List Int) (lo hi : Nat) (a' : Option Addr) (v : Value) (j : Nat) (wr : World) : Prop :=
  ∃ (F T : Nat → Int) (nq : Nat), Bf N Nb S F T (i + (nq + 1)) i (SnL l j) ∧ T i = (P : Int) ∧ (∀ j, j < i + 1 → T j ≠ (E : Int)) ∧ SsI w0 wr Mb (i + (nq + 1)) (mF N F) v (nq + 1) (fun j => T (i + j)) ∧ LQ wr lo hi a' l.length (gl l) ∧ Bn lo hi v ∧ hi ≤ wr.heap.size
theorem mF_some {N : Nat} {F : Nat → Int} {u : Nat} (hu : u < N) (h : 0 ≤ F u) : mF N F (u : Int) = some (F u) := by
  unfold mF; rw [Int.toNat_natCast, if_pos ⟨by omega, by omega, h⟩]
theorem mF_none {N : Nat} {F : Nat → Int} {u : Nat} (h : F u < 0) : mF N F (u : Int) = none := by
  unfold mF; rw [Int.toNat_natCast, if_neg (fun e => by omega)]
theorem mF_put {N : Nat} {F : Nat → Int} {u : Nat} {d : Int} (hd : 0 ≤ d) (hu : u < N) : mF N (put F u d) (u : Int) = some d ∧ ∀ y, y ≠ (u : Int) → mF N (put F u d) y = mF N F y := by
  refine ⟨?_, fun y hy => ?_⟩
  · have e : put F u d u = d := by simp [put]
    rw [mF_some hu (by rw [e]; exact hd), e]
  · unfold mF
    by_cases h : 0 ≤ y
    · have e : put F u d y.toNat = F y.toNat := by
        have : y.toNat ≠ u := by omega
        simp [put, this]
      rw [e]
    · rw [if_neg (fun e => h e.1), if_neg (fun e => h e.1)]
set_option maxRecDepth 20000 in
set_option maxHeartbeats 4000000 in
theorem least_int (W : Int) (a : Option Addr) (n c : Nat) (f : Nat → Int) (S E : Nat) (w : World) (hf : IL w a n f) (hs : sizedB W n = true) (hS : S < n) (hE : E < n) (hT : Tab w) :
    Calls Tryd.prog 46 #[.int .i64 (S : Int), .int .i64 (E : Int), .func (.func 47) #[gr W (hgt W n) a n c] #[]] w fun e w' => AnsDi (Stp W n f) S E e ∧ Below w.heap.size w w' := by
  obtain ⟨i0, hi, hzz⟩ := Option.map_eq_some_iff.1 infoI
  simp only [Prod.mk.injEq] at hzz
  obtain ⟨hz0, hz1, hz2⟩ := hzz
  have hn := sized_le hs
  have hNN : Hid (∀ u v, u < n → Stp W n f u v → v < n) := fun u v hu h => h.lt hs hu
  obtain ⟨w1, hrun1, hM1, ht1⟩ := (mi_made w 3 kvI okI).store kkI (by omega) (x := (S : Int)) (wf_sm (by omega) (by omega)) (v := 0) (by decide) (M' := mF n (put (fun _ => -1) S 0)) (mF_put (by omega) hS).1 (fun y hy => by
    rw [(mF_put (by omega) hS).2 y hy]; unfold mF; exact if_neg (fun e => by have h9 : (0 : Int) ≤ -1 := e.2.2; omega))
  have hrun1 : (Instr.mapUpdate 117 (.map (some w.heap.size)) (.int .i64 (S : Int)) (.int .i64 0)).run Tryd.prog (w.alloc (.map #[] 0)) = .ok () w1 := hrun1
  have hmm : (Instr.makeMap 117 none).run Tryd.prog w = .ok (.map (some w.heap.size)) (w.alloc (.map #[] 0)) := rfl
  have hBm : Below w.heap.size w (w.alloc (.map #[] 0)) := (Below.refl _ _).alloc (Nat.le_refl _) _
  have hB1 : Below w.heap.size w w1 := hBm.trans ((turned_turns ht1).below (Nat.le_refl _) (by simp))
  have hlt1 := hM1.lt
  have hq0 : Qi (w1.alloc (.cells #[.int .i64 (S : Int)] 3)) w1.heap.size 1 (.slice (some ⟨w1.heap.size, 0, none⟩) 1 1) 1 (fun _ => (S : Int)) := by
    have h9 := own_lit1 w1 w1.heap.size (S : Int) (fun _ => (S : Int)) rfl (Nat.le_refl _)
    exact qi_of_row (e := 3) (G := fun _ => (S : Int)) h9 (by omega)
  have hal : Below w1.heap.size w1 (w1.alloc (.cells #[.int .i64 (S : Int)] 3)) := (Below.refl _ _).alloc (Nat.le_refl _) _
  have hL0 : LsR (Stp W n f) n S E w1 w.heap.size n (.slice (some ⟨w1.heap.size, 0, none⟩) 1 1) (w1.alloc (.cells #[.int .i64 (S : Int)] 3)) :=
    ⟨_, fun _ => (S : Int), 0, 1, by omega, bf_start hS _ rfl, fun j hj => absurd hj (Nat.not_lt_zero _), ⟨hM1.on hal, hq0, turns_of hal, hlt1⟩⟩
  have HL0 : Hid (LsR (Stp W n f) n S E w1 w.heap.size n (.slice (some ⟨w1.heap.size, 0, none⟩) 1 1) (w1.alloc (.cells #[.int .i64 (S : Int)] 3))) := hL0
  have hf1 := hf.below hB1
  have hT1 := hT.on hB1
  clear hL0 hq0 hal hM1 ht1 hBm
  go_enter Tryd.func46, Tryd.ntmps46
  go_wp2
  clear hrun1 hmm
  go_loopg [8] n (fun g v wr => LsR (Stp W n f) n S E w1 w.heap.size g v wr)
  case atStart => exact HL0.out
  case round =>
    obtain ⟨F, T, i, nq, hgi, hBf, hne, hSs⟩ := hrel
    clear HL0
    have HBf : Hid (Bf n (Stp W n f) S F T (i + nq) i (fun _ => False)) := hBf
    have HNE : Hid (∀ j, j < i → T j ≠ (E : Int)) := hne
    have hLn := hBf.le
    have hBel := hSs.below (B := w.heap.size) (Nat.le_refl _)
    have hBW : Below w.heap.size w wr := hB1.trans hBel
    have hfr : IL wr a n f := hf.below hBW
    have hTr := hT.on hBW
    cases nq with
    | zero =>
      obtain ⟨g0, off0, cap0, rfl, -, -, -, -⟩ := hSs.q.shape
      have HR : Hid (AnsDi (Stp W n f) S E (.returned (.int .i64 (-1)))) := ⟨-1, rfl, (HBf.out : Bf n (Stp W n f) S F T (i + 0) i (fun _ => False)).never hNN.out hE HNE.out⟩
      clear hBf hne hSs hfr hTr
      go_wp2
      go_ret
      exact ⟨HR.out, hBW⟩
    | succ nq =>
      obtain ⟨t0, t1, t2⟩ := hBf.inT i (by omega)
      obtain ⟨P, hP⟩ : ∃ P : Nat, T i = (P : Int) := ⟨(T i).toNat, by omega⟩
      have hPn : P < n := by omega
      have hFP : 0 ≤ F P := by rw [hP, Int.toNat_natCast] at t2; exact t2
      have hFb : F P ≤ 1000 := by
        have := hBf.bnd i (by omega)
        rw [hP, Int.toNat_natCast] at this; omega
      have hlk := hSs.map.at kkI (x := (P : Int)) (wf_sm (by omega) (by omega))
      rw [mF_some hPn hFP] at hlk
      have hlk : (Instr.lookup 117 (.map (some w.heap.size)) (.int .i64 (P : Int)) false).run Tryd.prog wr = .ok (.int .i64 (F P)) wr := hlk
      obtain ⟨g0, off0, cap0, rfl, hg1, hg2, hcap, hcells⟩ := hSs.q.shape
      have z0 := hcells 0 (by omega)
      simp only [Nat.add_zero] at z0
      rw [hP] at z0
      have j1 : (0 : Int) < ((nq + 1 : Nat) : Int) := by omega
      have HSs : Hid (SsI w1 wr w.heap.size (i + (nq + 1)) (mF n F) (.slice (some ⟨g0, off0, none⟩) (nq + 1) cap0) (nq + 1) (fun j => T (i + j))) := hSs
      have HP : Hid (T i = (P : Int)) := hP
      have hsz := hSs.size
      have HE1 : Hid (P = E → AnsDi (Stp W n f) S E (.returned (.int .i64 (F P)))) := fun e => ⟨F P, rfl, by
        have := (HBf.out : Bf n (Stp W n f) S F T (i + (nq + 1)) i (fun _ => False)).early (by omega) hNN.out HP.out
        rw [← e]; exact this⟩
      have kN := later_any W a n c f P wr hfr hs hPn hTr
      have hB0 := HBf.out
      clear hBf hne hSs hcells hP t0 t1 t2
      cases r : ((P : Int) == (E : Int)) with
      | true =>
        have hPE : P = E := by simp at r; omega
        have HR := HE1.out hPE
        have HR2 : Hid (AnsDi (Stp W n f) S E (.returned (.int .i64 (F P)))) := HR
        clear HR HE1 hPE kN hB0
        generalize F P = d at *
        go_wp2
        go_ret
        exact ⟨HR2.out, hBW⟩
      | false =>
        have hPE : P ≠ E := by simp at r; omega
        have HNE2 : Hid (∀ j, j < i + 1 → T j ≠ (E : Int)) := fun j hj => by
          by_cases e : j = i
          · subst e; rw [HP.out]; omega
          · exact HNE.out j (by omega)
        have hlen := nbL_len W n f P
        have HGet : Hid (∀ k, k < (nbL W n f P).length → ∃ q : Nat, gl (nbL W n f P) k = (q : Int) ∧ Stp W n f P q) := fun k hk => nbL_get hk
        have HAll : Hid (∀ q, Stp W n f P q → ∃ k, k < (nbL W n f P).length ∧ gl (nbL W n f P) k = (q : Int)) := fun q hq => nbL_all hq
        clear HE1 hPE hlk
        generalize nbL W n f P = l at kN hlen HGet HAll
        go_wp2_with fail
        refine kN.mono ?_
        rintro e w2 ⟨⟨a', c', rfl, hLQ⟩, hb2⟩
        clear kN z0
        have hS2 := (HSs.out : SsI w1 wr w.heap.size (i + (nq + 1)) (mF n F) (.slice (some ⟨g0, off0, none⟩) (nq + 1) cap0) (nq + 1) (fun j => T (i + j))).on hb2
        have hbn := (HSs.out : SsI w1 wr w.heap.size (i + (nq + 1)) (mF n F) (.slice (some ⟨g0, off0, none⟩) (nq + 1) cap0) (nq + 1) (fun j => T (i + j))).bn wr.heap.size w2.heap.size (Nat.le_refl _)
        have HN0 : Hid (LsN (Stp W n f) n S E w1 w.heap.size i P l wr.heap.size w2.heap.size a' (.slice (some ⟨g0, off0, none⟩) (nq + 1) cap0) 0 w2) :=
          ⟨F, T, nq, hB0.weak (fun u h => by obtain ⟨p, hp, _⟩ := h; omega), HP.out, HNE2.out, hS2, hLQ, hbn, Nat.le_refl _⟩
        obtain ⟨lo, hlo⟩ : ∃ lo, lo = wr.heap.size := ⟨_, rfl⟩
        obtain ⟨hi_, hhi⟩ : ∃ hi_, hi_ = w2.heap.size := ⟨_, rfl⟩
        rw [← hlo, ← hhi] at HN0
        have hloM : w.heap.size + 1 ≤ lo := by omega
        clear hS2 hbn hLQ hb2 hB0 HSs HBf hlo hhi hfr hTr hBW hBel hsz hFP hFb
        go_wp2
        go_loopw [8, 37] (fun v r wx => ∃ j : Nat, j ≤ l.length ∧ r = .int .i64 (j : Int) ∧ LsN (Stp W n f) n S E w1 w.heap.size i P l lo hi_ a' v j wx) (fun _ r _ => l.length - (intOf r).toNat)
        case atStart => exact ⟨0, Nat.zero_le _, rfl, HN0.out⟩
        case round =>
          obtain ⟨j, hj, rfl, F, T, nq, hBf, hTi, hnE, hSs, hLQ, hbn, hhi⟩ := hrel
          clear HN0
          have hsz := hSs.size
          have hLn := hBf.le
          obtain ⟨g0, off0, cap0, rfl, hg1, hg2, hcap, hcells⟩ := hSs.q.shape
          by_cases hlt : j < l.length
          · obtain ⟨q, hq, hst⟩ := HGet.out j hlt
            have hqn : q < n := hNN.out P q hPn hst
            obtain ⟨lb, rfl, hl1, hl2, hIP⟩ := hLQ (by omega)
            have y0 := hIP.c j hlt
            rw [hq] at y0
            have j0 : (0 : Int) ≤ (j : Int) := by omega
            have j2 : (j : Int) < (l.length : Int) := by omega
            have hlk := hSs.map.look kkI (x := (q : Int)) (wf_sm (by omega) (by omega))
            have h0P : 0 ≤ F P := by have := (hBf.inT i (by omega)).2.2; rw [hTi, Int.toNat_natCast] at this; exact this
            have hbP : F P ≤ 1000 := by have := hBf.bnd i (by omega); rw [hTi, Int.toNat_natCast] at this; omega
            have HSN : Hid (SnL l (j + 1) = fun u => SnL l j u ∨ u = q) := by
              show SnL l (j + 1) = fun u => SnL l j u ∨ u = q
              funext u
              refine propext ⟨?_, ?_⟩
              · rintro ⟨p, hp, e⟩
                by_cases e2 : p = j
                · subst e2; rw [hq] at e; exact .inr (by omega)
                · exact .inl ⟨p, by omega, e⟩
              · rintro (⟨p, hp, e⟩ | e)
                · exact ⟨p, by omega, e⟩
                · exact ⟨j, by omega, by rw [hq, e]⟩
            by_cases hF : 0 ≤ F q
            · have HN2 : Hid (LsN (Stp W n f) n S E w1 w.heap.size i P l lo hi_ (some ⟨lb, 0, none⟩) (.slice (some ⟨g0, off0, none⟩) (nq + 1) cap0) (j + 1) wr) :=
                ⟨F, T, nq, by rw [HSN.out]; exact hBf.skip (by omega) hqn hF, hTi, hnE, hSs, hLQ, hbn, hhi⟩
              rw [mF_some hqn hF] at hlk
              have hlk : (Instr.lookup 117 (.map (some w.heap.size)) (.int .i64 (q : Int)) true).run Tryd.prog wr = .ok (.tuple #[.int .i64 (F q), .bool true]) wr := hlk
              clear hBf hSs hcells hLQ hbn HSN hIP
              generalize F q = d at *
              go_wp2
              exact ⟨⟨j + 1, by omega, by go_num, HN2.out⟩, by simp [intOf]; omega⟩
            · have hF' : F q < 0 := by omega
              have hlk2 := hSs.map.at kkI (x := (P : Int)) (wf_sm (by omega) (by omega))
              rw [mF_some hPn h0P] at hlk2
              rw [mF_none hF'] at hlk
              have hlk : (Instr.lookup 117 (.map (some w.heap.size)) (.int .i64 (q : Int)) true).run Tryd.prog wr = .ok (.tuple #[.int .i64 0, .bool false]) wr := hlk
              have hlk2 : (Instr.lookup 117 (.map (some w.heap.size)) (.int .i64 (P : Int)) false).run Tryd.prog wr = .ok (.int .i64 (F P)) wr := hlk2
              obtain ⟨w3, hrun3, hM3, ht3⟩ := hSs.map.store kkI (by omega) (x := (q : Int)) (wf_sm (by omega) (by omega)) (v := F P + 1) (wf_sm (by omega) (by omega)) (M' := mF n (put F q (F P + 1))) (mF_put (by omega) hqn).1 (mF_put (by omega) hqn).2
              have hrun3 : (Instr.mapUpdate 117 (.map (some w.heap.size)) (.int .i64 (q : Int)) (.int .i64 (F P + 1))).run Tryd.prog wr = .ok () w3 := hrun3
              have hS3 := hSs.store ht3 hM3
              have hLQ3 := hLQ.turns (turned_turns ht3) (by have := hSs.lt; omega)
              have hsz3 := hS3.size
              have hhi3 : hi_ ≤ w3.heap.size := Nat.le_trans hhi (turned_turns ht3).size
              have hB2 := hBf.found (by omega) hqn hF' (by rw [hTi, Int.toNat_natCast]; exact hst)
              rw [hTi, Int.toNat_natCast] at hB2
              have HB2 : Hid (Bf n (Stp W n f) S (put F q (F P + 1)) (put T (i + (nq + 1)) (q : Int)) (i + (nq + 1) + 1) i (fun x => SnL l j x ∨ x = q)) := hB2
              have hq3 := hS3.q
              have hTi2 : put T (i + (nq + 1)) (q : Int) i = (P : Int) := by simp [put, hTi]
              have HT2 : Hid (put T (i + (nq + 1)) (q : Int) i = (P : Int)) := hTi2
              have hnq : nq ≤ 1000 := by omega
              have HNE3 : Hid (∀ k, k < i + 1 → put T (i + (nq + 1)) (q : Int) k ≠ (E : Int)) := fun k hk => by
                have e : put T (i + (nq + 1)) (q : Int) k = T k := if_neg (by omega)
                rw [e]; exact hnE k hk
              clear hnE
              have HS3 : Hid (SsI w1 w3 w.heap.size (i + (nq + 1) + 1) (mF n (put F q (F P + 1))) (.slice (some ⟨g0, off0, none⟩) (nq + 1) cap0) (nq + 1) (fun j => T (i + j))) := hS3
              have hal : Qi (w3.alloc (.cells #[.int .i64 (q : Int)] 3)) w1.heap.size 1 (.slice (some ⟨g0, off0, none⟩) (nq + 1) cap0) (nq + 1) (fun j => T (i + j)) := hq3.on ((Below.refl _ _).alloc (Nat.le_refl _) _)
              have b1 : w1.heap.size ≤ (w3.alloc (.cells #[.int .i64 (q : Int)] 3)).heap.size := by simp; omega
              have HLQ3 : Hid (LQ w3 lo hi_ (some ⟨lb, 0, none⟩) l.length (gl l)) := hLQ3
              have i1 : -9223372036854775808 ≤ F P + 1 := by omega
              have i2 : F P + 1 ≤ 9223372036854775807 := by omega
              clear hBf hSs hcells hLQ hM3 ht3 hS3 hLQ3 hB2 hq3 hTi2 hIP hF hF'
              generalize F P = d at *
              go_wp2_with (first | (at_builtin; refine wpList_append_qi rfl _ _ 23 rfl 3 i0 (.int .i64 0) 1 8 Tryd.underlying23 hi hz0 hz1 hz2 rfl (by decide) rfl hal b1 ⟨w3.heap.size, 0, none⟩ 1 (fun _ => (q : Int)) rfl (cell_one_new _ _ _) (by unfold maxLen; omega) (by omega) ?_; intro v' w5 hq5 hgr5 hwh5) | fail)
              have hS5 := (HS3.out : SsI w1 w3 w.heap.size (i + (nq + 1) + 1) (mF n (put F q (d + 1))) (.slice (some ⟨g0, off0, none⟩) (nq + 1) cap0) (nq + 1) (fun j => T (i + j))).app hgr5 hq5
              refine ⟨⟨j + 1, by omega, by go_num, put F q (d + 1), put T (i + (nq + 1)) (q : Int), nq + 1, by rw [HSN.out]; exact HB2.out, HT2.out, HNE3.out, hS5.congr (fun x _ => rfl) (fun k hk => ?_), lq_app HLQ3.out hbn hgr5, whr_bn hwh5 hbn (by simp; omega), Nat.le_trans hhi3 (Nat.le_trans (by simp) hgr5.size)⟩, by simp [intOf]; omega⟩
              show (if k < (nq + 1) * 1 then T (i + k) else (q : Int)) = put T (i + (nq + 1)) (q : Int) (i + k)
              unfold put
              by_cases e : k < (nq + 1) * 1
              · rw [if_pos e, if_neg (by omega)]
              · rw [if_neg e, if_pos (by omega)]
          · have hje : j = l.length := by omega
            have hrc := run_cut 23 3 i0 1 Tryd.underlying23 hi hz1 (some ⟨g0, off0, none⟩) (nq + 1) cap0 (by omega) hcap wr
            have hqc := hSs.q.cut (some ⟨g0, off0, none⟩) cap0 rfl
            obtain ⟨v2, hv2⟩ : ∃ v2, (Value.slice (if cap0 - 1 = 0 then (some ⟨g0, off0, none⟩ : Option Addr) else (some ⟨g0, off0, none⟩ : Option Addr).map (·.add (1 * 1))) nq (cap0 - 1)) = v2 := ⟨_, rfl⟩
            rw [show nq + 1 - 1 = nq from rfl, hv2] at hrc
            rw [hv2] at hqc
            have HL2 : Hid (LsR (Stp W n f) n S E w1 w.heap.size (gk - 1) v2 wr) := by
              refine ⟨F, T, i + 1, nq, ?_, ?_, ?_, ?_⟩
              · have := hBf.le; omega
              · have := hBf.next (by omega) (fun u hu => by
                  rw [hTi, Int.toNat_natCast] at hu
                  obtain ⟨k, hk, e⟩ := HAll.out u hu
                  exact ⟨k, by omega, e⟩)
                rw [show i + 1 + nq = i + (nq + 1) by omega]; exact this
              · exact hnE
              · rw [show i + 1 + nq = i + (nq + 1) by omega]
                exact (hSs.cut hqc).congr (fun x _ => rfl) (fun k _ => by show T (i + (1 + k)) = T (i + 1 + k); rw [show i + (1 + k) = i + 1 + k by omega])
            have HM : Hid (gk - 1 < gk) := by show gk - 1 < gk; have := hBf.le; omega
            clear hBf hSs hcells hLQ hbn hqc hv2
            go_wp2
            go_roundg (gk - 1)
            case measure => exact HM.out
            case rel => exact HL2.out
end Go.Proofs.YtbndhhjgjalecaaDoor
