/- RunBus, as the program goes. -/
import Derived.Test.YtldagjgpapnfpaaQBuT
namespace Go.Proofs.Ytldagjgpapnfpaa
open Go.RowKit
/-- what RunBus takes -/
def rbB (t : Tks) (n : Nat) (R W : Int) (sn : Nat) : Bool := decide (n ≤ 6) && tksB t n && decide ((0 ≤ R ∧ R ≤ 40) ∧ (1 ≤ W ∧ W ≤ 20) ∧ sn ≤ 40)
theorem rbB_t {t : Tks} {n : Nat} {R W : Int} {sn : Nat} (h : rbB t n R W sn = true) : n ≤ 6 ∧ tksB t n = true ∧ (0 ≤ R ∧ R ≤ 40) ∧ (1 ≤ W ∧ W ≤ 20) ∧ sn ≤ 40 := by
  unfold rbB at h
  simp only [Bool.and_eq_true, decide_eq_true_eq] at h
  exact ⟨h.1.1, h.1.2, h.2⟩
theorem rbB_f {t : Tks} {n : Nat} {R W : Int} {sn : Nat} (h : rbB t n R W sn = false) : (decide (n ≤ 6) && tksB t n) = false ∨ (decide (n ≤ 6) && tksB t n) = true ∧ ¬ ((0 ≤ R ∧ R ≤ 40) ∧ (1 ≤ W ∧ W ≤ 20) ∧ sn ≤ 40) := by
  unfold rbB at h
  cases e : (decide (n ≤ 6) && tksB t n) with
  | false => exact .inl rfl
  | true => rw [e, Bool.true_and] at h; exact .inr ⟨rfl, of_decide_eq_false h⟩
set_option maxRecDepth 20000 in
set_option maxHeartbeats 4000000 in
theorem iRun_no (a : Option Addr) (n c : Nat) (t : Tks) (R W : Int) (sa : Option Addr) (sn sc : Nat) (w : World) (hn : n ≤ 1048576) (hq : ∀ i, i < n → t.qm i ≤ 1048576) (hT : TkH w a n t) (hr : rbB t n R W sn = false) :
    Calls Try.prog 6 #[.slice a n c, .int .i64 R, .int .i64 W, .slice sa sn sc] w fun e w' => e = .returned (.tuple #[.slice none 0 0, .slice none 0 0, .bool false]) ∧ Below w.heap.size w w' := by
  have kG := iTalkers a n c t w hn hq hT
  rcases rbB_f hr with e | ⟨e, h3⟩
  · rw [e] at kG
    clear hr hT hq e
    go_enter Try.func6, Try.ntmps6
    go_wp2_with fail
    refine kG.mono ?_
    rintro e w1 ⟨rfl, hb1⟩
    clear kG
    go_wp2
    go_ret3
    exact ⟨rfl, hb1⟩
  · rw [e] at kG
    clear hr hT hq e
    by_cases q0 : R < 0
    · clear h3
      go_enter Try.func6, Try.ntmps6
      go_wp2_with fail
      refine kG.mono ?_
      rintro e w1 ⟨rfl, hb1⟩
      clear kG
      go_wp2
      go_ret3
      exact ⟨rfl, hb1⟩
    by_cases q1 : 40 < R
    · clear h3
      go_enter Try.func6, Try.ntmps6
      go_wp2_with fail
      refine kG.mono ?_
      rintro e w1 ⟨rfl, hb1⟩
      clear kG
      go_wp2
      go_ret3
      exact ⟨rfl, hb1⟩
    by_cases q2 : W < 1
    · clear h3
      go_enter Try.func6, Try.ntmps6
      go_wp2_with fail
      refine kG.mono ?_
      rintro e w1 ⟨rfl, hb1⟩
      clear kG
      go_wp2
      go_ret3
      exact ⟨rfl, hb1⟩
    by_cases q3 : 20 < W
    · clear h3
      go_enter Try.func6, Try.ntmps6
      go_wp2_with fail
      refine kG.mono ?_
      rintro e w1 ⟨rfl, hb1⟩
      clear kG
      go_wp2
      go_ret3
      exact ⟨rfl, hb1⟩
    have q4 : (40 : Int) < (sn : Int) := by omega
    clear h3
    go_enter Try.func6, Try.ntmps6
    go_wp2_with fail
    refine kG.mono ?_
    rintro e w1 ⟨rfl, hb1⟩
    clear kG
    go_wp2
    go_ret3
    exact ⟨rfl, hb1⟩
/-- what RunBus tells -/
def AnsRun (w w' : World) (e : Ending) (n : Nat) (t : Tks) (S : Nat → Nat → Nat → Int) (s : BS) : Prop :=
  ∃ (sv : Value) (a : Option Addr) (c : Nat) (base mid : Nat), e = .returned (.tuple #[sv, .slice a n c, .bool true]) ∧ w.heap.size ≤ base ∧ w.heap.size ≤ mid ∧ mid ≤ w'.heap.size ∧ OwS w' base sv s.out ∧ (∀ q, sv.ownBlock = some q → q < mid) ∧ TkQ w' mid w'.heap.size a n (nwT t s.LF s.EC) (nwS S s.LF) ∧ Shp a n c
theorem iRun_in (a : Option Addr) (n c : Nat) (t : Tks) (S : Nat → Nat → Nat → Int) (R W : Int) (sa : Option Addr) (sn sc : Nat) (sf : Nat → Int) (w : World) (hT : TkF w a n t S) (hN : ∀ i, i < n → ∀ j, j < t.qm i → t.N i j ≤ 1048576) (hS : IL w sa sn sf) (hr : rbB t n R W sn = true) :
    Calls Try.prog 6 #[.slice a n c, .int .i64 R, .int .i64 W, .slice sa sn sc] w fun e w' => AnsRun w w' e n t S (runS t n W (fun r => hsB sf sn (r : Int)) R.toNat) ∧ Below w.heap.size w w' := by
  obtain ⟨hn, hg, ⟨r0, r1⟩, hW, hs⟩ := rbB_t hr
  obtain ⟨K, rfl⟩ := Int.eq_ofNat_of_zero_le r0
  rw [Int.toNat_natCast]
  have hok := run_ok t n W (fun r => hsB sf sn (r : Int)) (fun i hi => (tks_facts hg i hi).2.1) K
  refine (iRunG a n c t K W sa sn sc sf w hn hg (by omega) hW hs hT.h hS (fun w2 w' v => AnsTk w2 w' v n (nwT t (runS t n W (fun r => hsB sf sn (r : Int)) K).LF (runS t n W (fun r => hsB sf sn (r : Int)) K).EC) (nwS S (runS t n W (fun r => hsB sf sn (r : Int)) K).LF)) (fun base w2 x cx Pt hB hb => talkers_any base x n cx Pt t _ _ _ S a w2 hn hB (hT.below hb) (fun i hi => (tks_facts hg i hi).1) hok.lf hN)).mono ?_
  rintro e w' ⟨sv, tv, w2, base, rfl, hb, hO, ⟨ta, tc, rfl, hQ, hsh⟩, hB1, hB2⟩
  exact ⟨⟨sv, ta, tc, base, w2.heap.size, rfl, hb, hB1.size, hB2.size, hO.on hB2, fun q hq => (World.ownsRow.lt hO q hq).2, hQ, hsh⟩, stepA hB1 hB2⟩
end Go.Proofs.Ytldagjgpapnfpaa
