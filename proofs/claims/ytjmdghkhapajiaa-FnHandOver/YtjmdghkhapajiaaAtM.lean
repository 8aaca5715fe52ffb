/- Whether all tasks are somebody's, each once: numbers; and the model's test. -/
import Derived.Test.YtjmdghkhapajiaaChRkM
import Derived.Test.YtjmdghkhapajiaaAsM
import Derived.Test.YtjmdghkhapajiaaWhVq
import Derived.Test.YtjmdghkhapajiaaAsWhoS
namespace Go.Proofs.Ytjmdghkhapajiaa
open Go.RowKit
/-- all of 0 .. n-1, each once, rising in each row -/
structure AT (n : Nat) (K : Nat → Nat) (F : Nat → Nat → Int) : Prop where
  bd : ∀ i j, i < n → j < K i → 0 ≤ F i j ∧ F i j < (n : Int)
  ris : ∀ i j, i < n → j + 1 < K i → F i j < F i (j + 1)
  dis : ∀ i j a b, i < n → j < K i → a < n → b < K a → F i j = F a b → i = a ∧ j = b
  sum : sumK K n = n
/-- what has been met ahead of place j of row i -/
def mtB (K : Nat → Nat) (F : Nat → Nat → Int) (i j : Nat) (x : Nat) : Bool := (List.range i).any (fun a => (List.range (K a)).any fun b => decide (F a b = (x : Int))) || (List.range j).any fun b => decide (F i b = (x : Int))
theorem mt_next (K : Nat → Nat) (F : Nat → Nat → Int) (i j x : Nat) : mtB K F i (j + 1) x = (mtB K F i j x || decide (F i j = (x : Int))) := by
  unfold mtB
  rw [List.range_succ, List.any_append, Bool.or_assoc]
  simp
theorem mt_row (K : Nat → Nat) (F : Nat → Nat → Int) (i x : Nat) : mtB K F i (K i) x = mtB K F (i + 1) 0 x := by
  unfold mtB
  rw [List.range_succ, List.any_append]
  simp
theorem mt_zero (K : Nat → Nat) (F : Nat → Nat → Int) (x : Nat) : mtB K F 0 0 x = false := rfl
theorem mt_new {n : Nat} {K : Nat → Nat} {F : Nat → Nat → Int} (h : AT n K F) {i j t : Nat} (hi : i < n) (hj : j < K i) (ht : F i j = (t : Int)) : mtB K F i j t = false := by
  cases e : mtB K F i j t with
  | false => rfl
  | true =>
    exfalso
    unfold mtB at e
    rw [Bool.or_eq_true] at e
    rcases e with e | e
    · rw [List.any_eq_true] at e
      obtain ⟨a, ha, e⟩ := e
      rw [List.any_eq_true] at e
      obtain ⟨b, hb, e⟩ := e
      have ha' := List.mem_range.1 ha
      have hb' := List.mem_range.1 hb
      have := h.dis i j a b hi hj (by omega) hb' (by rw [ht]; exact (of_decide_eq_true e).symm)
      omega
    · rw [List.any_eq_true] at e
      obtain ⟨b, hb, e⟩ := e
      have hb' := List.mem_range.1 hb
      have := h.dis i j i b hi hj hi (by omega) (by rw [ht]; exact (of_decide_eq_true e).symm)
      omega
theorem il_c2 {w : World} {a : Option Addr} {b o n : Nat} {f : Nat → Int} (h : IL w a n f) (ha : a = some ⟨b, o, none⟩) {i : Nat} (hi : i < n) : w.cell? ⟨b, o + i, none⟩ = some (.int .i64 (f i)) := by
  subst ha
  obtain ⟨b2, o2, e, _, hc⟩ := h (by omega)
  injection e with e1
  injection e1 with e2 e3
  subst e2; subst e3
  exact hc i hi
set_option maxHeartbeats 4000000 in
set_option maxRecDepth 20000 in
theorem all_any (a : Option Addr) (n c : Nat) (A : Nat → Option Addr) (K C : Nat → Nat) (F : Nat → Nat → Int) (w : World) (hn : n ≤ 1000) (hT : AT n K F) (h : LL w a n A K C F) :
    Calls Try.prog 18 #[.slice a n c] w fun e w' => e = .returned (.bool true) ∧ Below w.heap.size w w' := by
  have hmk := run_make_row' (P := Try.prog) 65 4 (.bool false) 1 Try.underlying65 infoBo rfl .i64 .i64 n (by omega) (by omega)
  have HP0 : Hid (VP (w.alloc (.cells (madeCells #[.bool false] n) 4)) w.heap.size n (fun x => .bool (mtB K F 0 0 x))) := vp_row (World.rowIs_made w (.bool false) n 4)
  have hb0 : Below w.heap.size w (w.alloc (.cells (madeCells #[.bool false] n) 4)) := (Below.refl _ _).alloc (Nat.le_refl _) _
  have HT : Hid (AT n K F) := hT
  have HS : Hid (∀ i, i ≤ n → sumK K i ≤ n) := fun i hi => by have := sumK_mono K n i hi; rw [hT.sum] at this; exact this
  have HS2 : Hid (∀ i, i < n → sumK K i + K i ≤ n) := fun i hi => by have := sumK_le K n i hi; rw [hT.sum] at this; exact this
  have HE : Hid (sumK K n = n) := hT.sum
  clear hT
  go_enter Try.func18, Try.ntmps18
  go_wp2_with fail
  clear hmk
  go_loopw [4, 14] (fun s i wr => ∃ p q : Nat, p ≤ n ∧ i = .int .i64 (p : Int) ∧ s = .int .i64 (q : Int) ∧ Hid (q = sumK K p) ∧ VP wr w.heap.size n (fun x => .bool (mtB K F p 0 x)) ∧ Below w.heap.size w wr) (fun _ i _ => n - (intOf i).toNat)
  case atStart => exact ⟨0, 0, Nat.zero_le _, rfl, rfl, (rfl : 0 = sumK K 0), HP0.out, hb0⟩
  case round =>
    obtain ⟨p, q, hp, rfl, rfl, HQ, hP, hB⟩ := hrel
    clear HP0 hb0
    have i0 : (0 : Int) ≤ (p : Int) := by omega
    by_cases hlt : p < n
    · have i1 : (p : Int) < (n : Int) := by omega
      have hA := h.below hB
      obtain ⟨pb, po, rfl, pl_, x0⟩ := ll_at1 hA hlt
      have hrow := hA.row p hlt
      have HSp := HS2.out p hlt
      have hq : q + K p ≤ n := by have := HQ.out; omega
      clear hA HE HSp
      obtain ⟨wz, hwz⟩ : ∃ x, x = wr := ⟨_, rfl⟩
      subst hwz
      generalize hKp : K p = Kp at *
      have HKp : Hid (K p = Kp) := hKp
      clear hKp
      generalize hAp : A p = Ap at *
      have HAp : Hid (A p = Ap) := hAp
      clear hAp
      generalize C p = Cp at *
      go_wp2_with fail
      go_loopw [4, 20] (fun s i wr => ∃ j : Nat, j ≤ Kp ∧ i = .int .i64 (j : Int) ∧ s = .int .i64 ((q + j : Nat) : Int) ∧ VP wr w.heap.size n (fun x => .bool (mtB K F p j x)) ∧ Below w.heap.size w wr) (fun _ i _ => Kp - (intOf i).toNat)
      case atStart => exact ⟨0, Nat.zero_le _, rfl, rfl, hP, hB⟩
      case round =>
        obtain ⟨j, hj, rfl, rfl, hP2, hB2⟩ := hrel
        have k0 : (0 : Int) ≤ (j : Int) := by omega
        by_cases hlj : j < Kp
        · have k1 : (j : Int) < (Kp : Int) := by omega
          have hjk : j < K p := by rw [HKp.out]; exact hlj
          have hbd := HT.out.bd p j hlt hjk
          obtain ⟨t, ht⟩ : ∃ t : Nat, F p j = (t : Int) := ⟨(F p j).toNat, by omega⟩
          have htn : t < n := by omega
          have hrow2 := (h.below hB2).row p hlt
          rw [HKp.out, HAp.out] at hrow2
          have HM : Hid (mtB K F p j t = false) := mt_new HT.out hlt hjk ht
          have z0 := hP2.c t htn
          rw [HM.out] at z0
          have zf := hP2.fz t
          have zl := hP2.lt
          have HPn : Hid (VP (wr.setCell ⟨w.heap.size, t, none⟩ (.bool true)) w.heap.size n (fun x => .bool (mtB K F p (j + 1) x))) := by
            have e9 : (fun x => if x = t then Value.bool true else .bool (mtB K F p j x)) = (fun x => .bool (mtB K F p (j + 1) x)) := funext fun x => by
              rw [mt_next, ht]
              by_cases e : x = t
              · subst e; rw [if_pos rfl]; simp
              · rw [if_neg e, decide_eq_false (by omega), Bool.or_false]
            have := hP2.set htn (.bool true)
            rw [e9] at this
            exact this
          have t0 : (0 : Int) ≤ (t : Int) := by omega
          have t1 : (t : Int) < (n : Int) := by omega
          have HBn : Hid (Below w.heap.size w (wr.setCell ⟨w.heap.size, t, none⟩ (.bool true))) := hB2.setCell (p := ⟨w.heap.size, t, none⟩) (Nat.le_refl _) _
          obtain ⟨rb, ro, rfl, rl_, y0⟩ := il_at1 hrow2 hlj
          rw [ht] at y0
          by_cases hj0 : 0 < j
          · have hr := HT.out.ris p (j - 1) hlt (by omega)
            rw [show j - 1 + 1 = j by omega, ht] at hr
            have y1 := il_c2 hrow2 rfl (i := j - 1) (by omega)
            have k2 : (0 : Int) ≤ (j : Int) - 1 := by omega
            have k3 : (j : Int) - 1 < (Kp : Int) := by omega
            have k4 : (0 : Int) < (j : Int) := by omega
            have k6 : ¬ (t : Int) ≤ F p (j - 1) := by omega
            generalize F p (j - 1) = Z at *
            clear hr
            clear hP2 hbd hrow2 HM hrow x0
            go_wp2
            exact ⟨⟨j + 1, by omega, by go_num, by congr 1, HPn.out, HBn.out⟩, by simp [intOf]; omega⟩
          · have k4 : ¬ (0 : Int) < (j : Int) := by omega
            clear hP2 hbd hrow2 HM hrow x0
            go_wp2
            exact ⟨⟨j + 1, by omega, by go_num, by congr 1, HPn.out, HBn.out⟩, by simp [intOf]; omega⟩
        · have hjK : j = Kp := by omega
          subst hjK
          have k1 : ¬ (j : Int) < (j : Int) := by omega
          have HQn : Hid (q + j = sumK K (p + 1)) := by have := HQ.out; have := HKp.out; show q + j = sumK K p + K p; omega
          have HPn : Hid (VP wr w.heap.size n (fun x => .bool (mtB K F (p + 1) 0 x))) := by
            have e9 : (fun x => Value.bool (mtB K F p j x)) = (fun x => .bool (mtB K F (p + 1) 0 x)) := funext fun x => by rw [← HKp.out, mt_row]
            rw [← e9]; exact hP2
          clear hP2 hrow x0
          go_wp2
          exact ⟨⟨p + 1, q + j, by omega, by go_num, rfl, HQn, HPn.out, hB2⟩, by simp [intOf]; omega⟩
    · have hpn : p = n := by omega
      subst hpn
      have i1 : ¬ (p : Int) < (p : Int) := by omega
      have hqp : q = p := by have := HQ.out; have := HE.out; omega
      subst hqp
      have e1 : ((q : Int) == (q : Int)) = true := by simp
      clear hP
      go_wp2
      go_ret
      exact ⟨rfl, hB⟩
end Go.Proofs.Ytjmdghkhapajiaa
