/- When two paths meet first, as the program tells it. -/
import Derived.Test.YtbndhhjgjalecaaDoorQCwComI
namespace Go.Proofs.YtbndhhjgjalecaaDoor
open Go.RowKit

theorem keep4 {w w' : World} {b1 o1 o2 b2 o3 o4 : Nat} {x y z u : Value} (h1 : w.cell? ⟨b1, o1, none⟩ = some x) (h2 : w.cell? ⟨b1, o2, none⟩ = some y) (h3 : w.cell? ⟨b2, o3, none⟩ = some z) (h4 : w.cell? ⟨b2, o4, none⟩ = some u) (l1 : b1 < w.heap.size) (l2 : b2 < w.heap.size) (k : Below w.heap.size w w') :
    w'.cell? ⟨b1, o1, none⟩ = some x ∧ w'.cell? ⟨b1, o2, none⟩ = some y ∧ w'.cell? ⟨b2, o3, none⟩ = some z ∧ w'.cell? ⟨b2, o4, none⟩ = some u :=
  ⟨(k.cell (p := ⟨b1, _, none⟩) l1).trans h1, (k.cell (p := ⟨b1, _, none⟩) l1).trans h2, (k.cell (p := ⟨b2, _, none⟩) l2).trans h3, (k.cell (p := ⟨b2, _, none⟩) l2).trans h4⟩
theorem run_ahead (k : Nat) (ts : Array TypeId) (t : TypeId) (w : World) : (Builtin.max_ ts t #[.int .i64 ((k : Int) - 1), .int .i64 0]).run Tryd.prog w = .ok (.int .i64 ((k - 1 : Nat) : Int)) w := by
  by_cases h : 0 < k
  · have e : ((k - 1 : Nat) : Int) = (k : Int) - 1 := by omega
    rw [e]
    simp [Builtin.max_, Builtin.max2]
    intro h2; omega
  · have e : k = 0 := by omega
    subst e
    simp [Builtin.max_, Builtin.max2]
set_option maxRecDepth 20000 in
set_option maxHeartbeats 4000000 in
theorem anyMeet_any (a : Option Addr) (n c : Nat) (K : Nat → Nat) (F : Nat → Nat → Int) (k Q : Nat) (w : World) (hn : n ≤ 1048576) (hcn : n ≤ c) (hQ : ∀ i, i < n → K i = Q) (hk : k < Q) (hQm : Q ≤ 1048576) (h : RR w a n K F) :
    Calls Tryd.prog 73 #[.slice a n c, .int .i64 (k : Int)] w fun e w' => e = .returned (.bool (colM F k n)) ∧ Below w.heap.size w w' := by
  obtain ⟨A, C, hL⟩ := h
  have HC : Hid (∀ i, i < n → IL w (A i) Q (F i)) := fun i hi => by have := hL.row i hi; rw [hQ i hi] at this; exact this
  have HO : Hid (0 < n → ∃ b off, a = some ⟨b, off, none⟩ ∧ b < w.heap.size ∧ ∀ i, i < n → w.cell? ⟨b, off + i, none⟩ = some (.slice (A i) Q (C i))) := fun h0 => by
    obtain ⟨b, off, e, hb, hc⟩ := hL.out h0
    exact ⟨b, off, e, hb, fun i hi => by rw [hc i hi, hQ i hi]⟩
  have hmx := run_ahead k
  have i0 : (0 : Int) ≤ (k : Int) := by omega
  have i1 : (k : Int) < (Q : Int) := by omega
  have i2 : ((k - 1 : Nat) : Int) < (Q : Int) := by omega
  have HM : Hid (∀ i j, mtB (F i k) (F j k) (F i (k - 1)) (F j (k - 1)) = hitB (F j) k (prv (F i) k) (F i k)) := fun i j => mt_hit F k i j
  clear hL hQ
  obtain ⟨k1, hk1⟩ : ∃ k1, k1 = k - 1 := ⟨_, rfl⟩
  have hk1' : k1 < Q := by omega
  rw [← hk1] at hmx i2
  rw [← hk1] at HM
  clear hk1
  go_enter Tryd.func73, Tryd.ntmps73
  go_wp2
  go_loopw [15] (fun i wr => ∃ p : Nat, p ≤ n ∧ i = .int .i64 p ∧ colM F k p = false ∧ Below w.heap.size w wr) (fun i _ => n - (intOf i).toNat)
  case atStart => exact ⟨0, Nat.zero_le _, rfl, rfl, Below.refl _ _⟩
  case round =>
    obtain ⟨p, hp, rfl, hP, hB⟩ := hrel
    by_cases hlt : p < n
    · obtain ⟨b, off, rfl, hb, hcc⟩ := HO.out (by omega)
      have HCC : Hid (∀ i, i < n → w.cell? ⟨b, off + i, none⟩ = some (.slice (A i) Q (C i))) := hcc
      clear hcc
      have y0 := (hB.cell (p := ⟨b, off + p, none⟩) hb).trans (HCC.out p hlt)
      obtain ⟨pb, po, hpa, hpb, hpc⟩ := (HC.out p hlt) (by omega)
      rw [hpa] at y0
      have HPC : Hid (∀ i, i < Q → w.cell? ⟨pb, po + i, none⟩ = some (.int .i64 (F p i))) := hpc
      have j0 : (0 : Int) ≤ (p : Int) := by omega
      have j1 : (p : Int) < (n : Int) := by omega
      have j2 : (p : Int) ≤ (c : Int) := by omega
      have HCp : Hid (colM F k (p + 1) = (colM F k p || rowM F k p p)) := rfl
      have HUP : Hid (rowM F k p p = true → colM F k n = true) := fun h => colM_iff.2 (by
        obtain ⟨j, h1, h2⟩ := rowM_iff.1 h
        exact ⟨p, j, h1, hlt, h2⟩)
      clear hpc hpa
      obtain ⟨w8, hw8⟩ : ∃ w8, w8 = wr := ⟨wr, rfl⟩
      subst hw8
      go_wp2
      go_loopw [24] (fun i wr => ∃ j : Nat, j ≤ p ∧ i = .int .i64 j ∧ rowM F k p j = false ∧ Below w.heap.size w wr) (fun i _ => p - (intOf i).toNat)
      case atStart => exact ⟨0, Nat.zero_le _, rfl, rfl, hB⟩
      case round =>
        obtain ⟨j, hj, rfl, hJ, hB3⟩ := hrel
        by_cases hlt2 : j < p
        · have z0 := (hB3.cell (p := ⟨b, off + j, none⟩) hb).trans (HCC.out j (by omega))
          obtain ⟨qb, qo, hqa, hqb, hqc⟩ := (HC.out j (by omega)) (by omega)
          rw [hqa] at z0
          have u1 := (hB3.cell (p := ⟨pb, po + k, none⟩) hpb).trans (HPC.out k hk)
          have u2 := (hB3.cell (p := ⟨pb, po + k1, none⟩) hpb).trans (HPC.out k1 hk1')
          have u3 := (hB3.cell (p := ⟨qb, qo + k, none⟩) hqb).trans (hqc k hk)
          have u4 := (hB3.cell (p := ⟨qb, qo + k1, none⟩) hqb).trans (hqc k1 hk1')
          have l1 : pb < wr.heap.size := Nat.lt_of_lt_of_le hpb hB3.size
          have l2 : qb < wr.heap.size := Nat.lt_of_lt_of_le hqb hB3.size
          have j4 : (0 : Int) ≤ (j : Int) := by omega
          have j5 : (j : Int) < (p : Int) := by omega
          have HRJ : Hid (rowM F k p (j + 1) = (rowM F k p j || hitB (F j) k (prv (F p) k) (F p k))) := rfl
          have HRU : Hid (hitB (F j) k (prv (F p) k) (F p k) = true → colM F k n = true) := fun h => HUP.out (rowM_iff.2 ⟨j, hlt2, hit_meet.1 h⟩)
          have hw0 := Below.refl wr.heap.size wr
          have kH := fun w => meet_any (F p k) (F j k) (F p k1) (F j k1) w
          rw [HM.out p j] at kH
          clear hqc
          generalize hitB (F j) k (prv (F p) k) (F p k) = R at kH HRJ HRU
          generalize F p k = v1 at *
          generalize F p k1 = v2 at *
          generalize F j k = v3 at *
          generalize F j k1 = v4 at *
          cases R with
          | true =>
            have HR : Hid (colM F k n = true) := HRU.out rfl
            clear HRU HRJ
            go_wp2_with fail
            go_region_held3 (fun w' => w'.cell? ⟨pb, po + k, none⟩ = some (.int .i64 v1) ∧ w'.cell? ⟨pb, po + k1, none⟩ = some (.int .i64 v2) ∧ w'.cell? ⟨qb, qo + k, none⟩ = some (.int .i64 v3) ∧ w'.cell? ⟨qb, qo + k1, none⟩ = some (.int .i64 v4))
              (first | (exact keep4 u1 u2 u3 u4 l1 l2 hw0.drew) | (exact keep4 u1 u2 u3 u4 l1 l2 hw1) | (fail))
              (first | (go_at_call 79; refine (kH _).mono ?_; rintro e w9 ⟨rfl, hb9⟩; have hw1 := stepA hw0.drew hb9) | (fail))
            go_wp2
            go_ret
            exact ⟨ret_bool HR.out.symm, stepA hB3 hw1⟩
          | false =>
            have hr : rowM F k p (j + 1) = false := by rw [HRJ.out, hJ]; rfl
            have HR : Hid (rowM F k p (j + 1) = false) := hr
            clear hr HRU HRJ
            go_wp2_with fail
            go_region_held3 (fun w' => w'.cell? ⟨pb, po + k, none⟩ = some (.int .i64 v1) ∧ w'.cell? ⟨pb, po + k1, none⟩ = some (.int .i64 v2) ∧ w'.cell? ⟨qb, qo + k, none⟩ = some (.int .i64 v3) ∧ w'.cell? ⟨qb, qo + k1, none⟩ = some (.int .i64 v4))
              (first | (exact keep4 u1 u2 u3 u4 l1 l2 hw0.drew) | (exact keep4 u1 u2 u3 u4 l1 l2 hw1) | (fail))
              (first | (go_at_call 79; refine (kH _).mono ?_; rintro e w9 ⟨rfl, hb9⟩; have hw1 := stepA hw0.drew hb9) | (fail))
            go_wp2
            exact ⟨⟨j + 1, by omega, by go_num, HR.out, stepA hB3 hw1⟩, by simp [intOf]; omega⟩
        · have hjp : j = p := by omega
          subst hjp
          have hr : colM F k (j + 1) = false := by rw [HCp.out, hP, hJ]; rfl
          have HR : Hid (colM F k (j + 1) = false) := hr
          clear hr HCp HUP
          go_wp2
          exact ⟨⟨j + 1, by omega, by go_num, HR.out, hB3⟩, by simp [intOf]; omega⟩
    · have hpk : p = n := by omega
      subst hpk
      have HR : Hid (colM F k p = false) := hP
      clear hP
      go_wp2
      go_ret
      exact ⟨ret_bool HR.out.symm, hB⟩
set_option maxHeartbeats 4000000 in
theorem iFirst (a : Option Addr) (n c : Nat) (K : Nat → Nat) (F : Nat → Nat → Int) (w : World) (hn : n ≤ 1048576) (hcn : n ≤ c) (hK : ∀ i, i < n → K i ≤ 1048576) (h : RR w a n K F) :
    Calls Tryd.prog 43 #[.slice a n c] w fun e w' => e = .returned (.int .i64 (fmV n K F)) ∧ Below w.heap.size w w' := by
  have hC := comLen a n c K F w hn h
  by_cases hq : ∀ i, i < n → K i = K 0
  case neg =>
    have hr : fmV n K F = -1 := by unfold fmV; rw [if_neg (fun e => hq (eqK_at e.2.2))]
    rw [hr]
    have e : cmV n K = .tuple #[.int .i64 (if n = 0 then 0 else (K 0 : Int)), .bool false] := by unfold cmV; rw [decide_eq_false hq]
    rw [e] at hC
    generalize (if n = 0 then 0 else (K 0 : Int)) = L at hC
    clear hr e hq
    go_enter Tryd.func43, Tryd.ntmps43
    go_wp2_with fail
    refine hC.mono ?_
    rintro e w1 ⟨rfl, hb1⟩
    clear hC
    go_wp2
    go_ret
    exact ⟨rfl, hb1⟩
  case pos =>
    have e : cmV n K = .tuple #[.int .i64 (if n = 0 then 0 else (K 0 : Int)), .bool true] := by unfold cmV; rw [decide_eq_true hq]
    rw [e] at hC
    clear e
    by_cases h5 : n ≤ 5
    case neg =>
      have h5' : (5 : Int) < (n : Int) := by omega
      have hr : fmV n K F = -1 := by unfold fmV; rw [if_neg (fun e => h5 e.1)]
      rw [hr]
      generalize (if n = 0 then 0 else (K 0 : Int)) = L at hC
      clear hr hq
      go_enter Tryd.func43, Tryd.ntmps43
      go_wp2_with fail
      refine hC.mono ?_
      rintro e w1 ⟨rfl, hb1⟩
      clear hC
      go_wp2
      go_ret
      exact ⟨rfl, hb1⟩
    case pos =>
      have h5' : ¬ (5 : Int) < (n : Int) := by omega
      obtain ⟨Q, hQL, hQm, hQK⟩ : ∃ Q : Nat, (if n = 0 then 0 else (K 0 : Int)) = (Q : Int) ∧ Q ≤ 1048576 ∧ ∀ i, i < n → K i = Q := by
        by_cases h0 : n = 0
        · exact ⟨0, by simp [h0], by omega, fun i hi => by omega⟩
        · exact ⟨K 0, by simp [h0], hK 0 (by omega), hq⟩
      rw [hQL] at hC
      have HV : Hid (fmV n K F = fmI F n Q) := by
        show fmV n K F = fmI F n Q
        unfold fmV
        by_cases h0 : n = 0
        · subst h0
          simp at hQL
          have : Q = 0 := by omega
          subst this
          simp [fmI]
        · rw [if_pos ⟨h5, by omega, eqK_mk hq⟩, hQK 0 (by omega)]
      clear hQL hq
      go_enter Tryd.func43, Tryd.ntmps43
      go_wp2_with fail
      refine hC.mono ?_
      rintro e w1 ⟨rfl, hb1⟩
      clear hC
      go_wp2
      go_loopw [19] (fun i wr => ∃ m : Nat, m ≤ Q ∧ i = .int .i64 m ∧ (∀ q, q < m → colM F q n = false) ∧ Below w.heap.size w wr) (fun i _ => Q - (intOf i).toNat)
      case atStart => exact ⟨0, Nat.zero_le _, rfl, fun q hq => absurd hq (Nat.not_lt_zero _), hb1⟩
      case round =>
        obtain ⟨m, hm, rfl, hM, hB⟩ := hrel
        have HM : Hid (∀ q, q < m → colM F q n = false) := hM
        clear hM
        by_cases hlt : m < Q
        · have kA := anyMeet_any a n c K F m Q wr hn hcn hQK hlt hQm (h.below hB)
          have i0 : (0 : Int) ≤ (m : Int) := by omega
          have i1 : (m : Int) < (Q : Int) := by omega
          have HF : Hid (colM F m n = true → fmV n K F = (m : Int)) := fun h => by rw [HV.out]; exact fmI_at HM.out h hlt
          have HG : Hid (colM F m n = false → ∀ q, q < m + 1 → colM F q n = false) := fun h q hq => by
            by_cases e : q = m
            · subst e; exact h
            · exact HM.out q (by omega)
          generalize colM F m n = R at kA HF HG
          cases R with
          | true =>
            have HR : Hid (fmV n K F = (m : Int)) := HF.out rfl
            clear HF HG
            go_wp2_with (first | (go_at_call 73; refine kA.mono ?_; rintro e w9 ⟨rfl, hb9⟩) | fail)
            go_ret
            exact ⟨ret_int HR.out.symm, stepA hB hb9⟩
          | false =>
            have HR : Hid (∀ q, q < m + 1 → colM F q n = false) := HG.out rfl
            clear HF HG
            go_wp2_with (first | (go_at_call 73; refine kA.mono ?_; rintro e w9 ⟨rfl, hb9⟩) | fail)
            exact ⟨⟨m + 1, by omega, by go_num, HR.out, stepA hB hb9⟩, by simp [intOf]; omega⟩
        · have hmQ : m = Q := by omega
          subst hmQ
          have hr : fmV n K F = -1 := by rw [HV.out]; exact fmI_neg (fmI_none.2 HM.out)
          have HR : Hid (fmV n K F = -1) := hr
          clear hr
          go_wp2
          go_ret
          exact ⟨ret_int HR.out.symm, hB⟩
end Go.Proofs.YtbndhhjgjalecaaDoor
