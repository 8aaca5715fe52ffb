/- When two paths meet first, as the model tells it. -/
import Derived.Test.YtbndhhjgjalecaaDoorQCwGpM
import Derived.Test.YtbndhhjgjalecaaDoorQCwRows
namespace Go.Proofs.YtbndhhjgjalecaaDoor
open Go.RowKit

set_option maxHeartbeats 1000000 in
theorem sHits (A : Option Addr) (K c : Nat) (F : Nat → Int) (k : Nat) (a b : Int) (w : World) (hKm : K ≤ 1048576) (hk : k < K) (h : IL w A K F) :
    Calls Tryd.prog 75 #[.slice A K c, .int .i64 (k : Int), .int .i64 a, .int .i64 b] w fun e w' => e = .returned (.bool (hitB F k a b)) ∧ w' = w := by
  obtain ⟨q, off, rfl, hb, hc⟩ := h (by omega)
  have x0 := hc k hk
  have j0 : (0 : Int) ≤ (k : Int) := by omega
  have j1 : (k : Int) < (K : Int) := by omega
  cases r0 : (F k == b) with
  | true =>
    have hr : hitB F k a b = true := by simp [hitB, r0]
    rw [hr]
    clear hc hr h
    generalize F k = X at x0 r0
    go_enter Tryd.func75, Tryd.ntmps75
    go_wp2
    go_ret
    exact ⟨rfl, rfl⟩
  | false =>
    by_cases h0 : 0 < k
    · have h0' : (0 : Int) < (k : Int) := by omega
      have x1 := hc (k - 1) (by omega)
      have j2 : 0 ≤ (k : Int) - 1 := by omega
      have j3 : (k : Int) - 1 < (K : Int) := by omega
      have hr : hitB F k a b = ((F (k - 1) == b) && (F k == a)) := by simp [hitB, r0, h0]
      have HR : Hid (hitB F k a b = ((F (k - 1) == b) && (F k == a))) := hr
      clear hc hr h
      cases r1 : (F (k - 1) == b) with
      | true =>
        have hr2 : hitB F k a b = (F k == a) := by rw [HR.out, r1]; simp
        rw [hr2]
        clear HR hr2
        generalize F k = X at *
        generalize F (k - 1) = Y at *
        go_enter Tryd.func75, Tryd.ntmps75
        go_wp2
        go_ret
        exact ⟨rfl, rfl⟩
      | false =>
        have hr2 : hitB F k a b = false := by rw [HR.out, r1]; simp
        rw [hr2]
        clear HR hr2
        generalize F k = X at *
        generalize F (k - 1) = Y at *
        go_enter Tryd.func75, Tryd.ntmps75
        go_wp2
        go_ret
        exact ⟨rfl, rfl⟩
    · have hr : hitB F k a b = false := by simp [hitB, r0, h0]
      rw [hr]
      have h0' : ¬ (0 : Int) < (k : Int) := by omega
      clear hc hr h
      generalize F k = X at *
      go_enter Tryd.func75, Tryd.ntmps75
      go_wp2
      go_ret
      exact ⟨rfl, rfl⟩
theorem keepR {w w' : World} {b1 o1 b2 o2 : Nat} {x y : Value} (h1 : w.cell? ⟨b1, o1, none⟩ = some x) (h2 : w.cell? ⟨b2, o2, none⟩ = some y) (l1 : b1 < w.heap.size) (l2 : b2 < w.heap.size) (k : Below w.heap.size w w') : w'.cell? ⟨b1, o1, none⟩ = some x ∧ w'.cell? ⟨b2, o2, none⟩ = some y :=
  ⟨(k.cell (p := ⟨b1, _, none⟩) l1).trans h1, (k.cell (p := ⟨b2, _, none⟩) l2).trans h2⟩
set_option maxRecDepth 20000 in
set_option maxHeartbeats 4000000 in
theorem sFirst (a : Option Addr) (n c : Nat) (K : Nat → Nat) (F : Nat → Nat → Int) (w : World) (hn : n ≤ 1048576) (hK : ∀ i, i < n → K i ≤ 1048576) (h : RR w a n K F) :
    Calls Tryd.prog 45 #[.slice a n c] w fun e w' => e = .returned (.int .i64 (fmV n K F)) ∧ Below w.heap.size w w' := by
  obtain ⟨A, C, hL⟩ := h
  by_cases h5 : n ≤ 5
  case neg =>
    have h5' : (5 : Int) < (n : Int) := by omega
    have hr : fmV n K F = -1 := by unfold fmV; rw [if_neg (fun h => h5 h.1)]
    rw [hr]
    go_enter Tryd.func45, Tryd.ntmps45
    go_wp2
    go_ret
    exact ⟨rfl, Below.refl _ _⟩
  case pos =>
    have h5' : ¬ (5 : Int) < (n : Int) := by omega
    go_enter Tryd.func45, Tryd.ntmps45
    go_wp2
    go_loopw [15] (fun i wr => ∃ k : Nat, k ≤ n ∧ i = .int .i64 k ∧ eqK K k = true ∧ wr = w) (fun i _ => n - (intOf i).toNat)
    case atStart => exact ⟨0, Nat.zero_le _, rfl, rfl, rfl⟩
    case round =>
      obtain ⟨k, hk, rfl, hT, hw⟩ := hrel
      have hw' := hw.symm
      clear hw
      subst hw'
      by_cases hlt : k < n
      · obtain ⟨b, off, rfl, hb, hc⟩ := hL.out (by omega)
        have x0 := hc k hlt
        have x1 := hc 0 (by omega)
        simp only [Nat.add_zero] at x1
        have j0 : (0 : Int) ≤ (k : Int) := by omega
        have j1 : (k : Int) < (n : Int) := by omega
        have j2 : (0 : Int) < (n : Int) := by omega
        have HV : Hid (¬ K k = K 0 → fmV n K F = -1) := fun h => by unfold fmV; rw [if_neg (fun e => h (eqK_at e.2.2 k hlt))]
        have HE : Hid (eqK K (k + 1) = (eqK K k && (K k == K 0))) := rfl
        clear hc
        generalize K k = X at x0 HV HE
        generalize hY : K 0 = Y at x1 HV HE
        clear hY
        cases r : ((X : Int) != (Y : Int)) with
        | true =>
          have hr := HV.out (fun e => by rw [e] at r; simp at r)
          have HR : Hid (fmV n K F = -1) := hr
          clear hr HV HE
          go_wp2
          go_ret
          exact ⟨ret_int HR.out.symm, Below.refl _ _⟩
        | false =>
          have hxy : X = Y := by simp at r; omega
          have hr : eqK K (k + 1) = true := by rw [HE.out, hT, hxy]; simp
          have HR : Hid (eqK K (k + 1) = true) := hr
          clear hr HV HE hxy
          go_wp2
          exact ⟨⟨k + 1, by omega, by go_num, HR.out, trivial⟩, by simp [intOf]; omega⟩
      · have hke : k = n := by omega
        subst hke
        by_cases h0 : 0 < k
        case neg =>
          have h00 : k = 0 := by omega
          subst h00
          have hr : fmV 0 K F = -1 := by unfold fmV; rw [if_neg (fun h => by omega)]
          have HR : Hid (fmV 0 K F = -1) := hr
          clear hL hr
          go_wp2
          go_ret
          exact ⟨ret_int HR.out.symm, Below.refl _ _⟩
        case pos =>
          have h0' : (k : Int) ≠ 0 := by omega
          have h0b : ((k : Int) == 0) = false := by simpa using h0'
          have HV : Hid (fmV k K F = fmI F k (K 0)) := by unfold fmV; rw [if_pos ⟨h5, h0, hT⟩]; exact rfl
          have HQ : Hid (∀ i, i < k → K i = K 0) := eqK_at hT
          obtain ⟨b, off, rfl, hb, hc⟩ := hL.out (by omega)
          have x1 := hc 0 (by omega)
          simp only [Nat.add_zero] at x1
          have hK0 := hK 0 (by omega)
          have j2 : (0 : Int) < (k : Int) := by omega
          have HC : Hid (∀ i, i < k → w.cell? ⟨b, off + i, none⟩ = some (.slice (A i) (K 0) (C i))) := fun i hi => by rw [hc i hi, eqK_at hT i hi]
          have HI : Hid (∀ i, i < k → IL w (A i) (K 0) (F i)) := fun i hi => by have := hL.row i hi; rw [eqK_at hT i hi] at this; exact this
          clear hc hL hT HQ h0' hK
          generalize K 0 = Q at *
          go_wp2
          go_loopw [34] (fun i wr => ∃ m : Nat, m ≤ Q ∧ i = .int .i64 m ∧ (∀ q, q < m → colM F q k = false) ∧ Below w.heap.size w wr) (fun i _ => Q - (intOf i).toNat)
          case atStart => exact ⟨0, Nat.zero_le _, rfl, fun q hq => absurd hq (Nat.not_lt_zero _), Below.refl _ _⟩
          case round =>
            obtain ⟨m, hm, rfl, hM, hB⟩ := hrel
            have HM : Hid (∀ q, q < m → colM F q k = false) := hM
            clear hM
            by_cases hlt2 : m < Q
            · have HF : Hid (colM F m k = true → fmV k K F = (m : Int)) := fun h => by rw [HV.out]; exact fmI_at HM.out h hlt2
              have i0 : (0 : Int) ≤ (m : Int) := by omega
              have i1 : (m : Int) < (Q : Int) := by omega
              obtain ⟨w8, hw8⟩ : ∃ w8, w8 = wr := ⟨wr, rfl⟩
              subst hw8
              go_wp2
              go_loopw [39] (fun i wr => ∃ p : Nat, p ≤ k ∧ i = .int .i64 p ∧ colM F m p = false ∧ Below w.heap.size w wr) (fun i _ => k - (intOf i).toNat)
              case atStart => exact ⟨0, Nat.zero_le _, rfl, rfl, hB⟩
              case round =>
                obtain ⟨p, hp, rfl, hP, hB2⟩ := hrel
                by_cases hlt3 : p < k
                · have y0 := (hB2.cell (p := ⟨b, off + p, none⟩) hb).trans (HC.out p hlt3)
                  have hip := (HI.out p hlt3).below hB2
                  obtain ⟨pb, po, hpa, hpb, hpc⟩ := hip (by omega)
                  have i2 : (0 : Int) ≤ (p : Int) := by omega
                  have i3 : (p : Int) < (k : Int) := by omega
                  have HCp : Hid (colM F m (p + 1) = (colM F m p || rowM F m p p)) := rfl
                  have HUP : Hid (rowM F m p p = true → colM F m k = true) := fun h => colM_iff.2 (by
                    obtain ⟨j, h1, h2⟩ := rowM_iff.1 h
                    exact ⟨p, j, h1, hlt3, h2⟩)
                  obtain ⟨w7, hw7⟩ : ∃ w7, w7 = wr := ⟨wr, rfl⟩
                  subst hw7
                  rw [hpa] at y0
                  have HPC : Hid (∀ i, i < Q → w7.cell? ⟨pb, po + i, none⟩ = some (.int .i64 (F p i))) := hpc
                  clear hpc hip
                  go_wp2
                  go_loopw [8] (fun i wr => ∃ j : Nat, j ≤ p ∧ i = .int .i64 j ∧ rowM F m p j = false ∧ Below w7.heap.size w7 wr) (fun i _ => p - (intOf i).toNat)
                  case atStart => exact ⟨0, Nat.zero_le _, rfl, rfl, Below.refl _ _⟩
                  case round =>
                    obtain ⟨j, hj, rfl, hJ, hB3⟩ := hrel
                    by_cases hlt4 : j < p
                    · have hB9 : Below w.heap.size w wr := stepA hB2 hB3
                      have z0 := (hB9.cell (p := ⟨b, off + j, none⟩) hb).trans (HC.out j (by omega))
                      have z1 := (hB3.cell (p := ⟨pb, po + m, none⟩) hpb).trans (HPC.out m hlt2)
                      have hij := (HI.out j (by omega)).below hB9
                      have lb : b < wr.heap.size := Nat.lt_of_lt_of_le hb hB9.size
                      have lp : pb < wr.heap.size := Nat.lt_of_lt_of_le hpb hB3.size
                      have i4 : (0 : Int) ≤ (j : Int) := by omega
                      have i5 : (j : Int) < (p : Int) := by omega
                      have i6 : (j : Int) < (k : Int) := by omega
                      have HRJ : Hid (rowM F m p (j + 1) = (rowM F m p j || hitB (F j) m (prv (F p) m) (F p m))) := rfl
                      have HRU : Hid (hitB (F j) m (prv (F p) m) (F p m) = true → rowM F m p p = true) := fun h => rowM_iff.2 ⟨j, hlt4, hit_meet.1 h⟩
                      have hw0 := Below.refl wr.heap.size wr
                      have HEND : Hid (hitB (F j) m (prv (F p) m) (F p m) = true → fmV k K F = (m : Int)) := fun h => HF.out (HUP.out (HRU.out h))
                      have kH := fun w h => sHits (A j) Q (C j) (F j) m (prv (F p) m) (F p m) w hK0 hlt2 h
                      clear HRU
                      generalize hitB (F j) m (prv (F p) m) (F p m) = R at kH HRJ HEND
                      by_cases hm0 : 0 < m
                      · have hm0' : (0 : Int) < (m : Int) := by omega
                        have z2 := (hB3.cell (p := ⟨pb, po + (m - 1), none⟩) hpb).trans (HPC.out (m - 1) (by omega))
                        have hpv : prv (F p) m = F p (m - 1) := if_pos hm0
                        rw [hpv] at kH
                        have i7 : (0 : Int) ≤ (m : Int) - 1 := by omega
                        have i8 : (m : Int) - 1 < (Q : Int) := by omega
                        clear hpv
                        cases R with
                        | true =>
                          have hr := HEND.out rfl
                          have HR : Hid (fmV k K F = (m : Int)) := hr
                          clear hr HEND HRJ
                          go_wp2_with fail
                          go_region_held3 (fun w' => w'.cell? ⟨b, off + j, none⟩ = some (.slice (A j) Q (C j)) ∧ w'.cell? ⟨pb, po + m, none⟩ = some (.int .i64 (F p m)))
                            (first | (exact keepR z0 z1 lb lp hw0.drew) | (exact keepR z0 z1 lb lp hw1) | (fail))
                            (first | (go_at_call 75; refine (kH _ (hij.below hw0.drew)).mono ?_; rintro e w9 ⟨rfl, hw9⟩; have hs' := hw9.symm; clear hw9; subst hs'; have hw1 := hw0.drew) | (fail))
                          go_wp2
                          go_ret
                          exact ⟨ret_int HR.out.symm, hB9.drew⟩
                        | false =>
                          have hr : rowM F m p (j + 1) = false := by rw [HRJ.out, hJ]; rfl
                          have HR : Hid (rowM F m p (j + 1) = false) := hr
                          clear hr HEND HRJ
                          go_wp2_with fail
                          go_region_held3 (fun w' => w'.cell? ⟨b, off + j, none⟩ = some (.slice (A j) Q (C j)) ∧ w'.cell? ⟨pb, po + m, none⟩ = some (.int .i64 (F p m)))
                            (first | (exact keepR z0 z1 lb lp hw0.drew) | (exact keepR z0 z1 lb lp hw1) | (fail))
                            (first | (go_at_call 75; refine (kH _ (hij.below hw0.drew)).mono ?_; rintro e w9 ⟨rfl, hw9⟩; have hs' := hw9.symm; clear hw9; subst hs'; have hw1 := hw0.drew) | (fail))
                          go_wp2
                          exact ⟨⟨j + 1, by omega, by go_num, HR.out, hB3.drew⟩, by simp [intOf]; omega⟩
                      · have hm0' : ¬ (0 : Int) < (m : Int) := by omega
                        have hpv : prv (F p) m = F p m := if_neg hm0
                        rw [hpv] at kH
                        clear hpv
                        cases R with
                        | true =>
                          have hr := HEND.out rfl
                          have HR : Hid (fmV k K F = (m : Int)) := hr
                          clear hr HEND HRJ
                          go_wp2_with fail
                          go_region_held3 (fun w' => w'.cell? ⟨b, off + j, none⟩ = some (.slice (A j) Q (C j)) ∧ w'.cell? ⟨pb, po + m, none⟩ = some (.int .i64 (F p m)))
                            (first | (exact keepR z0 z1 lb lp hw0.drew) | (exact keepR z0 z1 lb lp hw1) | (fail))
                            (first | (go_at_call 75; refine (kH _ (hij.below hw0.drew)).mono ?_; rintro e w9 ⟨rfl, hw9⟩; have hs' := hw9.symm; clear hw9; subst hs'; have hw1 := hw0.drew) | (fail))
                          go_wp2
                          go_ret
                          exact ⟨ret_int HR.out.symm, hB9.drew⟩
                        | false =>
                          have hr : rowM F m p (j + 1) = false := by rw [HRJ.out, hJ]; rfl
                          have HR : Hid (rowM F m p (j + 1) = false) := hr
                          clear hr HEND HRJ
                          go_wp2_with fail
                          go_region_held3 (fun w' => w'.cell? ⟨b, off + j, none⟩ = some (.slice (A j) Q (C j)) ∧ w'.cell? ⟨pb, po + m, none⟩ = some (.int .i64 (F p m)))
                            (first | (exact keepR z0 z1 lb lp hw0.drew) | (exact keepR z0 z1 lb lp hw1) | (fail))
                            (first | (go_at_call 75; refine (kH _ (hij.below hw0.drew)).mono ?_; rintro e w9 ⟨rfl, hw9⟩; have hs' := hw9.symm; clear hw9; subst hs'; have hw1 := hw0.drew) | (fail))
                          go_wp2
                          exact ⟨⟨j + 1, by omega, by go_num, HR.out, hB3.drew⟩, by simp [intOf]; omega⟩
                    · have hjp : j = p := by omega
                      subst hjp
                      have hr : colM F m (j + 1) = false := by rw [HCp.out, hP, hJ]; rfl
                      have HR : Hid (colM F m (j + 1) = false) := hr
                      clear hr HCp HUP
                      go_wp2
                      exact ⟨⟨j + 1, by omega, by go_num, HR.out, stepA hB2 hB3⟩, by simp [intOf]; omega⟩
                · have hpk : p = k := by omega
                  subst hpk
                  have HR : Hid (∀ q, q < m + 1 → colM F q p = false) := fun q hq => by
                    by_cases e : q = m
                    · subst e; exact hP
                    · exact HM.out q (by omega)
                  clear hP
                  go_wp2
                  exact ⟨⟨m + 1, by omega, by go_num, HR.out, hB2⟩, by simp [intOf]; omega⟩
            · have hmQ : m = Q := by omega
              subst hmQ
              have hr : fmV k K F = -1 := by rw [HV.out]; exact fmI_neg (fmI_none.2 HM.out)
              have HR : Hid (fmV k K F = -1) := hr
              clear hr
              go_wp2
              go_ret
              exact ⟨ret_int HR.out.symm, hB⟩
end Go.Proofs.YtbndhhjgjalecaaDoor
