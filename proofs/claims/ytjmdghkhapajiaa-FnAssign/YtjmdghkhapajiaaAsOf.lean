/- Offers: a price, or none; the first than which none asks less. -/
import Derived.Test.YtjmdghkhapajiaaFkOw
import Derived.Deep.RegionWith
import Derived.BigQuiet
import Derived.Deep.Cut
namespace Go.Proofs.Ytjmdghkhapajiaa
open Go.RowKit
/-- an offer as a value -/
def ofv : Option Int → Value
  | none => .iface 74 (.agg #[])
  | some p => .iface 75 (.int .i64 p)
def ltO : Option Int → Option Int → Bool
  | some p, some q => decide (p < q)
  | some _, none => true
  | none, _ => false
def chK (O : Nat → Option Int) : Nat → Nat
  | 0 => 0
  | k + 1 => if ltO (O k) (O (chK O k)) = true then k else chK O k
theorem chK_lt (O : Nat → Option Int) : ∀ k, 0 < k → chK O k < k
  | 0, h => by omega
  | k + 1, _ => by
    unfold chK
    split
    · omega
    · by_cases e : k = 0
      · subst e; simp [chK]
      · have := chK_lt O k (by omega); omega
theorem chK_le (O : Nat → Option Int) (k n : Nat) (h : k < n) : chK O k < n := by
  by_cases e : k = 0
  · subst e; exact h
  · have := chK_lt O k (by omega); omega
theorem mtP (p : Int) (w : World) : (method 120 75 (.int .i64 p) "loop.example/g00047/impl.below").run Try.prog w = .ok (92, .int .i64 p) w := by kernel_rfl
theorem mtN (w : World) : (method 120 74 (.agg #[]) "loop.example/g00047/impl.below").run Try.prog w = .ok (91, .agg #[]) w := by kernel_rfl
theorem naP (p : Int) (w : World) : (nilAhead 215 75 (.int .i64 p) "loop.example/g00047/impl.below").run Try.prog w = .ok (some false) w := by kernel_rfl
theorem naN (w : World) : (nilAhead 215 74 (.agg #[]) "loop.example/g00047/impl.below").run Try.prog w = .ok (some false) w := by kernel_rfl
theorem as_price (v : Value) (w : World) : (Instr.typeAssert (.iface 75 v) 70 75 true).run Try.prog w = .ok (.tuple #[v, .bool true]) w := by
  simp [Instr.typeAssert, run_underlying Try.underlying75]
theorem as_none (v : Value) (w : World) : (Instr.typeAssert (.iface 74 v) 70 74 true).run Try.prog w = .ok (.tuple #[v, .bool true]) w := by
  simp [Instr.typeAssert, run_underlying Try.underlying74]
theorem no_price (v : Value) (w : World) : (Instr.typeAssert (.iface 74 v) 70 75 true).run Try.prog w = .ok (.tuple #[.int .i64 0, .bool false]) w := by
  have hz : (zeroValue 75).run Try.prog w = .ok (.int .i64 0) w := by kernel_rfl
  simp [Instr.typeAssert, run_underlying Try.underlying75, hz]
set_option maxHeartbeats 4000000 in
set_option maxRecDepth 20000 in
theorem below_pp (p q : Int) (w : World) : Calls Try.prog 92 #[.int .i64 p, ofv (some q)] w fun e w' => e = .returned (.bool (decide (p < q))) ∧ Below w.heap.size w w' := by
  have r0 := fun w => as_price (.int .i64 q) w
  unfold ofv
  go_enter Try.func92, Try.ntmps92
  go_wp2
  go_ret
  exact ⟨rfl, Below.refl _ _⟩
set_option maxHeartbeats 4000000 in
set_option maxRecDepth 20000 in
theorem below_pn (p : Int) (w : World) : Calls Try.prog 92 #[.int .i64 p, ofv none] w fun e w' => e = .returned (.bool true) ∧ Below w.heap.size w w' := by
  have r0 := fun w => no_price (.agg #[]) w
  have r1 := fun w => as_none (.agg #[]) w
  unfold ofv
  go_enter Try.func92, Try.ntmps92
  go_wp2
  go_ret
  refine ⟨rfl, ?_⟩
  repeat' (first | exact Below.refl _ _ | refine below_dr ?_ _ | refine Below.alloc ?_ (by first | omega | (simp <;> omega)) _ | refine Below.setCell ?_ (by first | omega | (simp <;> omega)) _)
set_option maxHeartbeats 4000000 in
set_option maxRecDepth 20000 in
theorem below_n (v : Value) (w : World) : Calls Try.prog 91 #[.agg #[], v] w fun e w' => e = .returned (.bool false) ∧ Below w.heap.size w w' := by
  go_enter Try.func91, Try.ntmps91
  go_wp2
  go_ret
  refine ⟨rfl, ?_⟩
  repeat' (first | exact Below.refl _ _ | refine below_dr ?_ _ | refine Below.alloc ?_ (by first | omega | (simp <;> omega)) _ | refine Below.setCell ?_ (by first | omega | (simp <;> omega)) _)
set_option maxHeartbeats 4000000 in
set_option maxRecDepth 20000 in
theorem cheap_any (a : Option Addr) (n c lo hi : Nat) (O : Nat → Option Int) (w : World) (hn : n ≤ 1048576) (h : VQ w lo hi a n (fun i => ofv (O i))) :
    Calls Try.prog 35 #[.slice a n c] w fun e w' => e = .returned (.int .i64 ((chK O n : Nat) : Int)) ∧ Below w.heap.size w w' := by
  go_enter Try.func35, Try.ntmps35
  go_wp2
  go_loopw [3, 8] (fun x i wr => ∃ k : Nat, k ≤ n ∧ i = .int .i64 (k : Int) ∧ x = .int .i64 ((chK O k : Nat) : Int) ∧ Below w.heap.size w wr) (fun _ i _ => n - (intOf i).toNat)
  case atStart => exact ⟨0, Nat.zero_le _, rfl, rfl, Below.refl _ _⟩
  case round =>
    obtain ⟨k, hk, rfl, rfl, hB⟩ := hrel
    have i0 : (0 : Int) ≤ (k : Int) := by omega
    by_cases hlt : k < n
    · have i1 : (k : Int) < (n : Int) := by omega
      obtain ⟨b, rfl, e1, e2, hP⟩ := h (by omega)
      have hcl := chK_le O k n hlt
      have x0 := (hB.cell (p := ⟨b, k, none⟩) hP.lt).trans (hP.c k hlt)
      have x1 := (hB.cell (p := ⟨b, chK O k, none⟩) hP.lt).trans (hP.c (chK O k) hcl)
      have HS : Hid (chK O (k + 1) = if ltO (O k) (O (chK O k)) = true then k else chK O k) := rfl
      generalize O k = Ok at x0 HS
      generalize O (chK O k) = Ob at x1 HS
      generalize chK O k = B at x1 HS hcl ⊢
      have i2 : (0 : Int) ≤ (B : Int) := by omega
      have i3 : (B : Int) < (n : Int) := by omega
      have hw0 := Below.refl wr.heap.size wr
      clear h hP
      cases Ok with
      | none =>
        unfold ofv at x0
        have mt := fun w => mtN w
        have na := fun w => naN w
        have HV : Hid (chK O (k + 1) = B) := HS.out.trans (if_neg (by simp [ltO]))
        clear HS
        go_upto_region 5 with fail
        go_region_with (first | (go_at_call 91; refine (below_n _ _).mono ?_; rintro e w1 ⟨rfl, hb1⟩; have hw1 := stepA hw0.drew hb1; clear hb1) | (fail))
        all_goals
          go_wp2
          exact ⟨⟨k + 1, by omega, by go_num, by rw [HV.out], stepA hB hw1⟩, by simp [intOf]; omega⟩
      | some p =>
        cases Ob with
        | none =>
          have x2 := x0
          unfold ofv at x0
          clear x2
          have mt := fun w => mtP p w
          have na := fun w => naP p w
          have HV : Hid (chK O (k + 1) = k) := HS.out.trans (if_pos rfl)
          clear HS
          go_upto_region 5 with fail
          go_region_with (first | (go_at_call 92; refine (below_pn p _).mono ?_; rintro e w1 ⟨rfl, hb1⟩; have hw1 := stepA hw0.drew hb1; clear hb1) | (fail))
          all_goals
            go_wp2
            exact ⟨⟨k + 1, by omega, by go_num, by rw [HV.out], stepA hB hw1⟩, by simp [intOf]; omega⟩
        | some q =>
          have x2 := x0
          unfold ofv at x0
          clear x2
          by_cases gl : p < q
          · have g2 : decide (p < q) = true := decide_eq_true gl
            have mt := fun w => mtP p w
            have na := fun w => naP p w
            have HV : Hid (chK O (k + 1) = k) := HS.out.trans (if_pos (by simpa [ltO] using gl))
            clear HS
            go_upto_region 5 with fail
            go_region_with (first | (go_at_call 92; refine (below_pp p q _).mono ?_; rintro e w1 ⟨rfl, hb1⟩; have hw1 := stepA hw0.drew hb1; clear hb1) | (fail))
            all_goals
              go_wp2
              exact ⟨⟨k + 1, by omega, by go_num, by rw [HV.out], stepA hB hw1⟩, by simp [intOf]; omega⟩
          · have g2 : decide (p < q) = false := decide_eq_false gl
            have mt := fun w => mtP p w
            have na := fun w => naP p w
            have HV : Hid (chK O (k + 1) = B) := HS.out.trans (if_neg (by simpa [ltO] using gl))
            clear HS
            go_upto_region 5 with fail
            go_region_with (first | (go_at_call 92; refine (below_pp p q _).mono ?_; rintro e w1 ⟨rfl, hb1⟩; have hw1 := stepA hw0.drew hb1; clear hb1) | (fail))
            all_goals
              go_wp2
              exact ⟨⟨k + 1, by omega, by go_num, by rw [HV.out], stepA hB hw1⟩, by simp [intOf]; omega⟩
    · have hke : k = n := by omega
      subst hke
      have i1 : ¬ (k : Int) < (k : Int) := by omega
      clear h
      go_wp2
      go_ret
      exact ⟨rfl, hB⟩
end Go.Proofs.Ytjmdghkhapajiaa
