/- What an assignment costs, both sides. -/
import Derived.Test.YtjmdghkhapajiaaAsWho
import Derived.Test.YtjmdghkhapajiaaAsWhoS
import Derived.BigQuiet
namespace Go.Proofs.Ytjmdghkhapajiaa
open Go.RowKit
set_option maxHeartbeats 4000000 in
set_option maxRecDepth 20000 in
theorem sCost (a : Option Addr) (n c : Nat) (K : Nat → Nat) (F : Nat → Nat → Int) (b : Option Addr) (m d : Nat) (g : Nat → Int) (w : World) (h : RR w a n K F) (h2 : IL w b m g) (hga : gaB n m K F g = true) :
    Calls Try.prog 38 #[.slice a n c, .slice b m d] w fun e w' => e = .returned (.int .i64 (csK F g n)) ∧ Below w.heap.size w w' := by
  obtain ⟨A, C, hA⟩ := h
  have ga := gaB_t hga
  have hmn2 := ga.len.symm
  subst hmn2
  have hn6 := ga.gp.hi
  have hb := Below.refl w.heap.size w
  go_enter Try.func38, Try.ntmps38
  go_wp2_with fail
  go_loopw [5, 10] (fun x i wr => ∃ k : Nat, k ≤ n ∧ i = .int .i64 (k : Int) ∧ x = .int .i64 (csK F g k) ∧ Below w.heap.size w wr) (fun _ i _ => n - (intOf i).toNat)
  case atStart => exact ⟨0, Nat.zero_le _, rfl, rfl, hb⟩
  case round =>
    obtain ⟨k, hk, rfl, rfl, hB⟩ := hrel
    clear hb
    have i0 : (0 : Int) ≤ (k : Int) := by omega
    have hc := csK_in ga.gp ga.bd k hk
    by_cases hlt : k < n
    · have i1 : (k : Int) < (n : Int) := by omega
      obtain ⟨gb, go_, rfl, gl_, x0⟩ := il_at1 (h2.below hB) (i := k) (by omega)
      obtain ⟨pb, po, rfl, pl_, y0⟩ := ll_at1 (hA.below hB) hlt
      have hg := ga.bd k hlt
      have hKk := ga.gp.len k hlt
      obtain ⟨t, ht⟩ : ∃ t : Nat, g k = (t : Int) := ⟨(g k).toNat, by omega⟩
      have htn : t < n := by omega
      have HS : Hid (csK F g (k + 1) = csK F g k + F k t) := by show csK F g k + F k (g k).toNat = csK F g k + F k t; rw [ht]; rfl
      obtain ⟨rb, ro, hAk, rl_, z0⟩ := il_at1 ((hA.below hB).row k hlt) (i := t) (by omega)
      have hf := ga.gp.bd k t hlt htn
      rw [ht] at x0
      rw [hAk, hKk] at y0
      have i3 : (0 : Int) ≤ (t : Int) := by omega
      have i4 : (t : Int) < (n : Int) := by omega
      clear ga hA h2 ht hg hAk hKk
      generalize csK F g k = X at *
      generalize F k t = Y at *
      generalize C k = Ck at *
      go_wp2
      exact ⟨⟨k + 1, by omega, by go_num, by rw [HS.out], hB⟩, by simp [intOf]; omega⟩
    · have hke : k = n := by omega
      subst hke
      have i1 : ¬ (k : Int) < (k : Int) := by omega
      go_wp2
      go_ret
      exact ⟨rfl, hB⟩
set_option maxHeartbeats 4000000 in
set_option maxRecDepth 20000 in
theorem iAssign_no (a : Option Addr) (n c : Nat) (K : Nat → Nat) (F : Nat → Nat → Int) (b : Option Addr) (m d : Nat) (g : Nat → Int) (w : World) (hn : n ≤ 1048576) (hK : ∀ i, i < n → K i ≤ 1048576) (hm : m ≤ 1048576) (h : RR w a n K F) (h2 : IL w b m g) (hga : gaB n m K F g = false) :
    Calls Try.prog 13 #[.slice a n c, .slice b m d] w fun e w' => e = .returned (.tuple #[.int .i64 0, .bool false]) ∧ Below w.heap.size w w' := by
  have kG := iGoodA a n c K F b m d g w hn hK hm h h2
  rw [hga] at kG
  go_enter Try.func13, Try.ntmps13
  go_wp2_with (first | (go_at_call 39; refine kG.mono ?_; rintro e w1 ⟨rfl, hb⟩; clear kG) | fail)
  go_ret2
  exact ⟨rfl, hb⟩
set_option maxHeartbeats 4000000 in
set_option maxRecDepth 20000 in
theorem iAssign_in (a : Option Addr) (n c : Nat) (K : Nat → Nat) (F : Nat → Nat → Int) (b : Option Addr) (m d : Nat) (g : Nat → Int) (w : World) (hn : n ≤ 1048576) (hK : ∀ i, i < n → K i ≤ 1048576) (hm : m ≤ 1048576) (h : RR w a n K F) (h2 : IL w b m g) (hga : gaB n m K F g = true) :
    Calls Try.prog 13 #[.slice a n c, .slice b m d] w fun e w' => e = .returned (.tuple #[.int .i64 (csK F g n), .bool true]) ∧ Below w.heap.size w w' := by
  have kG := iGoodA a n c K F b m d g w hn hK hm h h2
  rw [hga] at kG
  obtain ⟨A, C, hA⟩ := h
  have ga := gaB_t hga
  have hmn2 := ga.len.symm
  subst hmn2
  have hn6 := ga.gp.hi
  clear hga
  go_enter Try.func13, Try.ntmps13
  go_wp2_with (first | (go_at_call 39; refine kG.mono ?_; rintro e w1 ⟨rfl, hb⟩; clear kG) | fail)
  go_loopw [6, 15] (fun x i wr => ∃ k : Nat, k ≤ n ∧ i = .int .i64 (k : Int) ∧ x = .int .i64 (csK F g k) ∧ Below w.heap.size w wr) (fun _ i _ => n - (intOf i).toNat)
  case atStart => exact ⟨0, Nat.zero_le _, rfl, rfl, hb⟩
  case round =>
    obtain ⟨k, hk, rfl, rfl, hB⟩ := hrel
    clear hb
    have i0 : (0 : Int) ≤ (k : Int) := by omega
    have hc := csK_in ga.gp ga.bd k hk
    by_cases hlt : k < n
    · have i1 : (k : Int) < (n : Int) := by omega
      obtain ⟨gb, go_, rfl, gl_, x0⟩ := il_at1 (h2.below hB) (i := k) (by omega)
      obtain ⟨pb, po, rfl, pl_, y0⟩ := ll_at1 (hA.below hB) hlt
      have hg := ga.bd k hlt
      have hKk := ga.gp.len k hlt
      obtain ⟨t, ht⟩ : ∃ t : Nat, g k = (t : Int) := ⟨(g k).toNat, by omega⟩
      have htn : t < n := by omega
      have HS : Hid (csK F g (k + 1) = csK F g k + F k t) := by show csK F g k + F k (g k).toNat = csK F g k + F k t; rw [ht]; rfl
      obtain ⟨rb, ro, hAk, rl_, z0⟩ := il_at1 ((hA.below hB).row k hlt) (i := t) (by omega)
      have hf := ga.gp.bd k t hlt htn
      rw [ht] at x0
      rw [hAk, hKk] at y0
      have i3 : (0 : Int) ≤ (t : Int) := by omega
      have i4 : (t : Int) < (n : Int) := by omega
      clear ga hA h2 ht hg hAk hKk
      generalize csK F g k = X at *
      generalize F k t = Y at *
      generalize C k = Ck at *
      go_wp2
      exact ⟨⟨k + 1, by omega, by go_num, by rw [HS.out], hB⟩, by simp [intOf]; omega⟩
    · have hke : k = n := by omega
      subst hke
      have i1 : ¬ (k : Int) < (k : Int) := by omega
      go_wp2
      go_ret2
      exact ⟨rfl, hB⟩
set_option maxHeartbeats 4000000 in
set_option maxRecDepth 20000 in
theorem sAssign_no (a : Option Addr) (n c : Nat) (K : Nat → Nat) (F : Nat → Nat → Int) (b : Option Addr) (m d : Nat) (g : Nat → Int) (w : World) (hn : n ≤ 1048576) (hK : ∀ i, i < n → K i ≤ 1048576) (hm : m ≤ 1048576) (h : RR w a n K F) (h2 : IL w b m g) (hga : gaB n m K F g = false) :
    Calls Try.prog 24 #[.slice a n c, .slice b m d] w fun e w' => e = .returned (.tuple #[.int .i64 0, .bool false]) ∧ Below w.heap.size w w' := by
  have kB := sGoodP a n c K F w hn hK h
  cases e : gpB n K F with
  | false =>
    rw [e] at kB
    go_enter Try.func24, Try.ntmps24
    go_wp2_with (first | (go_at_call 20; refine kB.mono ?_; rintro e w1 ⟨rfl, hb⟩; clear kB) | fail)
    go_ret2
    exact ⟨rfl, hb⟩
  | true =>
    rw [e] at kB
    have hw0 : whB n m g = false := by unfold gaB at hga; rw [e] at hga; simpa using hga
    have kW := fun w (h2 : IL w b m g) => sWho b m d n g w hn hm h2
    rw [hw0] at kW
    clear hw0 hga e
    go_enter Try.func24, Try.ntmps24
    go_wp2_with (first | (go_at_call 20; refine kB.mono ?_; rintro e w1 ⟨rfl, hb⟩; clear kB) | (go_at_call 41; refine (kW _ (h2.below hb)).mono ?_; rintro e w3 ⟨rfl, hb3⟩; clear kW) | fail)
    go_ret2
    exact ⟨rfl, stepA hb hb3⟩
set_option maxHeartbeats 4000000 in
set_option maxRecDepth 20000 in
theorem sAssign_in (a : Option Addr) (n c : Nat) (K : Nat → Nat) (F : Nat → Nat → Int) (b : Option Addr) (m d : Nat) (g : Nat → Int) (w : World) (hn : n ≤ 1048576) (hK : ∀ i, i < n → K i ≤ 1048576) (hm : m ≤ 1048576) (h : RR w a n K F) (h2 : IL w b m g) (hga : gaB n m K F g = true) :
    Calls Try.prog 24 #[.slice a n c, .slice b m d] w fun e w' => e = .returned (.tuple #[.int .i64 (csK F g n), .bool true]) ∧ Below w.heap.size w w' := by
  have kB := sGoodP a n c K F w hn hK h
  have e : gpB n K F = true := by unfold gaB at hga; simp only [Bool.and_eq_true] at hga; exact hga.1
  have e2 : whB n m g = true := by unfold gaB at hga; simp only [Bool.and_eq_true] at hga; exact hga.2
  have kW := fun w (h2 : IL w b m g) => sWho b m d n g w hn hm h2
  have kC := fun w (h : RR w a n K F) (h2 : IL w b m g) => sCost a n c K F b m d g w h h2 hga
  rw [e] at kB
  rw [e2] at kW
  clear e e2 hga
  go_enter Try.func24, Try.ntmps24
  go_wp2_with (first | (go_at_call 20; refine kB.mono ?_; rintro e w1 ⟨rfl, hb⟩; clear kB) | (go_at_call 41; refine (kW _ (h2.below hb)).mono ?_; rintro e w3 ⟨rfl, hb3⟩; have hb4 := stepA hb hb3; clear kW hb3) | (go_at_call 38; refine (kC _ (h.below hb4) (h2.below hb4)).mono ?_; rintro e w5 ⟨rfl, hb5⟩; clear kC) | fail)
  go_ret2
  exact ⟨rfl, stepA hb4 hb5⟩
end Go.Proofs.Ytjmdghkhapajiaa
