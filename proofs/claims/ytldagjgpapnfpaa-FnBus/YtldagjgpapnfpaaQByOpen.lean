/- The law FnBus. -/
import Derived.Test.YtldagjgpapnfpaaQBuDw
import Derived.Test.YtldagjgpapnfpaaQBuFw
import Derived.Test.YtldagjgpapnfpaaQInCore
import Derived.ProofKit
import Derived.OpenShut
import Derived.ChangeOld
import Derived.Below
import Derived.Deep.Slices
namespace Go.Proofs.Ytldagjgpapnfpaa
open Go.RowKit
/-- BusFine says yes of what RunBus told -/
theorem fine_run (va : Option Addr) (n vc : Nat) (t : Tks) (S : Nat → Nat → Nat → Int) (R W : Int) (sn : Nat) (sf : Nat → Int) (sv : Value) (a1 : Option Addr) (c1 base mid : Nat) (w : World) (hr : rbB t n R W sn = true) (hN : ∀ i, i < n → ∀ j, j < t.qm i → t.N i j ≤ 1048576) (hF : TkF w va n t S)
    (hO : OwS w base sv (runS t n W (fun r => hsB sf sn (r : Int)) R.toNat).out) (hQ : TkQ w mid w.heap.size a1 n (nwT t (runS t n W (fun r => hsB sf sn (r : Int)) R.toNat).LF (runS t n W (fun r => hsB sf sn (r : Int)) R.toNat).EC) (nwS S (runS t n W (fun r => hsB sf sn (r : Int)) R.toNat).LF)) :
    Calls Try.prog 8 #[.slice va n vc, sv, .slice a1 n c1, .int .i64 W] w fun e w' => e = .returned (.bool true) ∧ Below w.heap.size w w' := by
  obtain ⟨hn, hg, ⟨r0, r1⟩, hW, hs⟩ := rbB_t hr
  have hfa := fun i hi => tks_facts hg i hi
  have hok := run_ok t n W (fun r => hsB sf sn (r : Int)) (fun i hi => (hfa i hi).2.1) R.toNat
  have hfi := run_fine t n W (fun r => hsB sf sn (r : Int)) hW.1 (fun i hi => (hfa i hi).2) R.toNat
  generalize runS t n W (fun r => hsB sf sn (r : Int)) R.toNat = s at *
  obtain ⟨a0, c0, rfl⟩ := hO.shape
  obtain ⟨QA, QC, AA, CC, hE⟩ := hQ.tf
  have hL := hok.ln
  refine busFine va n vc t S a0 s.out.length c0 base w.heap.size _ _ _ _ a1 c1 s.LF s.EC QA QC AA CC W _ w hn hW (by omega) hF (fun i hi => (hfa i hi).1) hN (hO.sq (fun q hq => (World.ownsRow.lt hO q hq).2)) hE (fnP_of hfi (by omega) (fun i hi => (hfa i hi).2.1)) (fun i hi => ?_)
  simp only [List.take_length]
  exact ⟨hfi.at_ i hi, hfi.er i hi, hok.lf i hi⟩
set_option maxHeartbeats 2000000 in
theorem busLaw (a : Option Addr) (len cap : Nat) (w : World) (hl : len ≤ 1048576) (hb : 0 < len → ∃ b off, a = some ⟨b, off, none⟩ ∧ b < w.heap.size ∧ ∀ i, i < len → ∃ v : Int, w.cell? ⟨b, off + i, none⟩ = some (.int .u8 v) ∧ 0 ≤ v ∧ v ≤ 255) :
    Calls Try.prog 3 #[.slice a len cap] w fun e w' => e = .returned (.bool true) ∧ Below w.heap.size w w' := by
  have kD := drawBus a len cap w hl hb
  have hj : ¬ (1048576 : Int) < (len : Int) := by omega
  clear hb
  go_enter Try.func3, Try.ntmps3
  go_wp2_with fail
  refine kD.mono ?_
  rintro e w1 ⟨va, n, vc, t, S, R, W, sa, sn, sc, sf, rfl, hn7, hbd, hF, hIL, hsn, hB1⟩
  have hn1 : n ≤ 1048576 := by omega
  have hq1 : ∀ i, i < n → t.qm i ≤ 1048576 := fun i hi => by have := (hbd i hi).1; omega
  have hN1 : ∀ i, i < n → ∀ j, j < t.qm i → t.N i j ≤ 1048576 := fun i hi j hj => by have := (hbd i hi).2 j hj; omega
  clear kD hbd
  have kS := fun w2 (hb : Below w1.heap.size w1 w2) => sRun va n vc t S R W sa sn sc sf w2 (hF.below hb) hq1 hN1 (hIL.below hb)
  cases hr : rbB t n R W sn with
  | false =>
    have kI := iRun_no va n vc t R W sa sn sc w1 hn1 hq1 hF.h hr
    clear hF hIL hq1 hN1
    go_wp2_with fail
    refine kI.mono ?_
    rintro e w2 ⟨rfl, hb2⟩
    have kS2 := kS w2 hb2
    have hB2 := stepA hB1 hb2
    clear kI kS hB1 hb2
    go_wp2_with fail
    refine kS2.mono ?_
    rintro e w3 ⟨⟨-, rfl⟩ | ⟨h9, -⟩, hb3⟩
    · have hB3 := stepA hB2 hb3
      clear kS2 hB2 hb3 hr
      go_wp2
      go_ret
      exact ⟨rfl, hB3⟩
    · rw [hr] at h9
      cases h9
  | true =>
    have kI := iRun_in va n vc t S R W sa sn sc sf w1 hF hN1 hIL hr
    have kF := fun sv a1 c1 base mid w4 (hb : Below w1.heap.size w1 w4) hO hQ => fine_run va n vc t S R W sn sf sv a1 c1 base mid w4 hr hN1 (hF.below hb) hO hQ
    clear hF hIL hq1 hN1
    go_wp2_with fail
    refine kI.mono ?_
    rintro e w2 ⟨⟨sv, a1, c1, base, mid, rfl, h1, h2, h3, hO, hm, hQ, hs⟩, hb2⟩
    have kS2 := kS w2 hb2
    have hB2 := stepA hB1 hb2
    clear kI kS hB1
    go_wp2_with fail
    refine kS2.mono ?_
    rintro e w3 ⟨⟨h9, -⟩ | ⟨-, ⟨sv2, a2, c2, base2, QA, QC, AA, CC, rfl, -, -⟩⟩, hb3⟩
    · rw [hr] at h9
      cases h9
    · have hB3 := stepA hB2 hb3
      have hb13 := stepA hb2 hb3
      have hO3 := hO.on hb3
      have hQ3 := ((hQ.on hb3).wide (Nat.le_refl _) hb3.size)
      have kF3 := kF sv a1 c1 base mid w3 hb13 hO3 hQ3
      clear kS2 hB2 hb3 hb2 hb13 kF hO hQ hO3 hQ3 hr
      go_wp2_with fail
      refine kF3.mono ?_
      rintro e w4 ⟨rfl, hb4⟩
      have hB4 := stepA hB3 hb4
      clear kF3 hB3 hb4
      go_wp2
      go_ret
      exact ⟨rfl, hB4⟩
theorem busLaw_long (a : Option Addr) (len cap : Nat) (w : World) (h : 1048576 < len) :
    Calls Try.prog 3 #[.slice a len cap] w fun e w' => e = .returned (.bool true) ∧ Below w.heap.size w w' := by
  have hj : (1048576 : Int) < (len : Int) := by omega
  go_enter Try.func3, Try.ntmps3
  go_wp2
  go_ret
  exact ⟨rfl, Below.refl _ _⟩
theorem busAll (a : Option Addr) (len cap : Nat) (w : World) (hb : 0 < len → ∃ b off, a = some ⟨b, off, none⟩ ∧ b < w.heap.size ∧ ∀ i, i < len → ∃ v : Int, w.cell? ⟨b, off + i, none⟩ = some (.int .u8 v) ∧ 0 ≤ v ∧ v ≤ 255) :
    Calls Try.prog 3 #[.slice a len cap] w fun e w' => e = .returned (.bool true) ∧ Below w.heap.size w w' := by
  by_cases h : len ≤ 1048576
  · exact busLaw a len cap w h hb
  · exact busLaw_long a len cap w (by omega)
end Go.Proofs.Ytldagjgpapnfpaa

/- How a slice of bytes that came in is opened. -/
namespace Go.Proofs.Ytldagjgpapnfpaa
open Go.ChangeShapes Go.WideShapes Go.ChangeAt Go.RowKit Go.Deep

section
variable {H : Type} {enc : TypeId × Value → H} {P : Program} {w : World} {base : Nat} {held : Bool}

/-- the bytes of a slice -/
abbrev BL (w : World) (a : Option Addr) (len : Nat) : Prop := 0 < len → ∃ b off, a = some ⟨b, off, none⟩ ∧ b < w.heap.size ∧ ∀ i, i < len → ∃ v : Int, w.cell? ⟨b, off + i, none⟩ = some (.int .u8 v) ∧ 0 ≤ v ∧ v ≤ 255
theorem wf_u8 {n : Int} (h : (Lit.int .u8 n).wf = true) : 0 ≤ n ∧ n ≤ 255 := by
  have e0 : IntKind.u8.min = 0 := by decide
  have e1 : IntKind.u8.max = 255 := by decide
  simp only [Lit.wf, e0, e1, Bool.and_eq_true, decide_eq_true_eq] at h
  exact h
/-- a slice of bytes, opened -/
theorem open_bl {t e : TypeId} {fuel : Nat} {cs : List Value} {x : DataW H × List MemPlace} (ht : P.underlying t = some (.slice e)) (he : P.underlying e = some (.int .u8)) (hc : P.cellsOf e = 1)
    (h : DataW.trod enc P w base (fun _ => true) held fuel t cs = some x) :
    ∃ (a : Option Addr) (len cap : Nat), cs = [.slice a len cap] ∧ len ≤ 9223372036854775807 ∧ BL w a len := by
  rcases open_slice1 ht hc h with ⟨hcs, _⟩ | ⟨a, len, cap, m, n, V, D, Pl, hcs, _, hl, hm, hmm, _, hV⟩
  · exact ⟨none, 0, 0, hcs, by decide, fun h0 => absurd h0 (Nat.lt_irrefl _)⟩
  · simp only [if_true] at hmm
    subst hmm
    refine ⟨some a, len, m, hcs, by unfold maxLen at hm; omega, fun h0 => ?_⟩
    obtain ⟨b, off, spot⟩ := a
    have hc0 := (hV 0 (by omega)).1
    have hspot : spot = none := by simpa [Addr.add] using World.cell?_spot hc0
    subst hspot
    refine ⟨b, off, rfl, ?_, fun i hi => ?_⟩
    · have := hc0
      rw [show (⟨b, off, none⟩ : Addr).add 0 = ⟨b, off, none⟩ from rfl] at this
      exact World.block_lt_of_cell? _ _ this
    · obtain ⟨v, hv, _, hw⟩ := DataW.trod_int he (hV i (by omega)).2
      simp only [List.cons.injEq, and_true] at hv
      refine ⟨v, ?_, wf_u8 hw⟩
      rw [← hv, ← (hV i (by omega)).1]
      unfold Addr.add
      by_cases e : i = 0
      · subst e; rfl
      · simp [e]
end
end Go.Proofs.Ytldagjgpapnfpaa
