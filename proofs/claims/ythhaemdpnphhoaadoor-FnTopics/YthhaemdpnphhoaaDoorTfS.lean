/- Which names fit which patterns, as the model goes. -/
import Derived.Test.YthhaemdpnphhoaaDoorTfM
import Derived.Test.YthhaemdpnphhoaaDoorTpS
import Derived.BigQuiet
namespace Go.Proofs.YthhaemdpnphhoaaDoor
open Go.RowKit
/-- texts from a place on -/
def TA (w : World) (b o : Nat) (l : List ByteArray) : Prop := b < w.heap.size ∧ ∀ i x, l[i]? = some x → w.cell? ⟨b, o + i, none⟩ = some (.string x)
theorem TA.on {w w' : World} {b o : Nat} {l : List ByteArray} (h : TA w b o l) (k : Below w.heap.size w w') : TA w' b o l := ⟨Nat.lt_of_lt_of_le h.1 k.size, fun i x hx => (k.cell (p := ⟨b, o + i, none⟩) h.1).trans (h.2 i x hx)⟩
theorem TA.drew {w : World} {b o : Nat} {l : List ByteArray} (h : TA w b o l) (n : Nat) : TA (w.drewN n) b o l := h.on (below_dr (Below.refl _ _) n)
theorem tl_ta {w : World} {b o : Nat} {l : List ByteArray} (h : TL w (some ⟨b, o, none⟩) l) (hb : b < w.heap.size) : TA w b o l := by
  refine ⟨hb, fun i x hx => ?_⟩
  obtain ⟨b', o', e, _, hc⟩ := h (by intro e; rw [e] at hx; simp at hx)
  cases e
  exact hc i x hx
theorem TA.drop {w : World} {b o : Nat} {l : List ByteArray} (h : TA w b o l) (k : Nat) : TA w b (o + k) (l.drop k) := ⟨h.1, fun i x hx => by
  rw [List.getElem?_drop] at hx
  have := h.2 (k + i) x hx
  rwa [Nat.add_assoc]⟩
/-- a slice from its k-th text on -/
theorem sliceS {w0 : World} {b o : Nat} {l : List ByteArray} {d : Nat} (h : TA w0 b o l) (hd : l.length ≤ d) (k : Nat) (hk : k ≤ l.length) : ∃ o', (∀ w, (Instr.sliceAt 39 (.slice (some ⟨b, o, none⟩) l.length d) (some (.int .i64 (k : Int))) none none).run Tryd.prog w = .ok (.slice (some ⟨b, o', none⟩) (l.drop k).length (d - k)) w) ∧ TA w0 b o' (l.drop k) ∧ (l.drop k).length ≤ d - k := by
  have hu' : Tryd.prog.elem 39 = 9 := by kernel_rfl
  have hu : Tryd.prog.underlying 39 = some (.slice (Tryd.prog.elem 39)) := by rw [hu']; exact Tryd.underlying39
  refine ⟨if d - k = 0 then o else o + k, fun w => ?_, ?_, by rw [List.length_drop]; omega⟩
  · rw [run_sliceAt_slice (h := hu), run_slice_l (ht := hu) (h0 := by omega) (h1 := by omega)]
    have hsz : (sizeOf (Tryd.prog.elem 39)).run Tryd.prog w = .ok 1 w := by kernel_rfl
    rw [hsz]
    by_cases e : d - k = 0
    · simp [Result.andThen, sliced, Addr.add, e]
      intros; omega
    · by_cases e2 : k = 0
      · subst e2; simp [Result.andThen, sliced, Addr.add]
      · simp [Result.andThen, sliced, Addr.add, e, e2]
        omega
  · by_cases e : d - k = 0
    · rw [if_pos e, List.drop_eq_nil_iff.2 (by omega)]
      exact ⟨h.1, fun i x hx => by simp at hx⟩
    · rw [if_neg e]; exact h.drop k
/-- a slice from its k-th text on -/
theorem sliceS3 (b o : Nat) {l : List ByteArray} {d : Nat} (hd : l.length ≤ d) (k : Nat) (hk : k ≤ l.length) : ∃ o', (∀ w, (Instr.sliceAt 39 (.slice (some ⟨b, o, none⟩) l.length d) (some (.int .i64 (k : Int))) none none).run Tryd.prog w = .ok (.slice (some ⟨b, o', none⟩) (l.drop k).length (d - k)) w) ∧ (∀ w0, TA w0 b o l → TA w0 b o' (l.drop k)) ∧ (l.drop k).length ≤ d - k := by
  have hu' : Tryd.prog.elem 39 = 9 := by kernel_rfl
  have hu : Tryd.prog.underlying 39 = some (.slice (Tryd.prog.elem 39)) := by rw [hu']; exact Tryd.underlying39
  refine ⟨if d - k = 0 then o else o + k, fun w => ?_, ?_, by rw [List.length_drop]; omega⟩
  · rw [run_sliceAt_slice (h := hu), run_slice_l (ht := hu) (h0 := by omega) (h1 := by omega)]
    have hsz : (sizeOf (Tryd.prog.elem 39)).run Tryd.prog w = .ok 1 w := by kernel_rfl
    rw [hsz]
    by_cases e : d - k = 0
    · simp [Result.andThen, sliced, Addr.add, e]
      intros; omega
    · by_cases e2 : k = 0
      · subst e2; simp [Result.andThen, sliced, Addr.add]
      · simp [Result.andThen, sliced, Addr.add, e, e2]
        omega
  · intro w0 h
    by_cases e : d - k = 0
    · rw [if_pos e, List.drop_eq_nil_iff.2 (by omega)]
      exact ⟨h.1, fun i x hx => by simp at hx⟩
    · rw [if_neg e]; exact h.drop k
theorem quiet_more {f : FuncId} {args : Array Value} {w : World} {n : Nat} {v : Value} (h : Calls Tryd.prog f args (w.drewN n) fun e w' => e = .returned v ∧ ∃ m, w' = (w.drewN n).drewN m) : Calls Tryd.prog f args (w.drewN n) fun e w' => e = .returned v ∧ ∃ m, w' = w.drewN m :=
  h.mono fun _ _ ⟨he, m, hm⟩ => ⟨he, n + m, by rw [hm]; simp⟩
theorem quiet_len {n : Nat} (l : List ByteArray) (h : l.length ≤ n) : ((l.length : Int) == 0) = l.isEmpty := by
  cases l with
  | nil => rfl
  | cons a b => simp; omega
set_option maxRecDepth 20000 in
set_option maxHeartbeats 4000000 in
theorem sFits : ∀ (p : List ByteArray) (b o cp b2 o2 cs : Nat) (s : List ByteArray) (w : World), p.length ≤ cp → s.length ≤ cs → p.length ≤ 1048576 → s.length ≤ 1048576 → TA w b o p → TA w b2 o2 s →
    Calls Tryd.prog 27 #[.slice (some ⟨b, o, none⟩) p.length cp, .slice (some ⟨b2, o2, none⟩) s.length cs] w fun e w' => e = .returned (.bool (fB p s)) ∧ ∃ n, w' = w.drewN n
  | [], b, o, cp, b2, o2, cs, s, w, hcp, hcs, hp, hs, hP, hS => by
    show Calls _ _ #[.slice (some ⟨b, o, none⟩) 0 cp, _] _ _
    have e : fB [] s = s.isEmpty := rfl
    rw [e]
    have j := quiet_len s hs
    generalize s.isEmpty = V at *
    go_enter Tryd.func27, Tryd.ntmps27
    go_wp2
    go_ret
    exact ⟨rfl, 0, rfl⟩
  | x :: p, b, o, cp, b2, o2, cs, s, w, hcp, hcs, hp, hs, hP, hS => by
    have ih := fun b o cp b2 o2 cs s w => sFits p b o cp b2 o2 cs s w
    have hx := hP.2 0 x rfl
    rw [Nat.add_zero] at hx
    obtain ⟨o1, hs1, hP1, hc1⟩ := sliceS hP hcp 1 (by simp)
    have hs1' : ∀ w, (Instr.sliceAt 39 (.slice (some ⟨b, o, none⟩) (x :: p).length cp) (some (.int .i64 1)) none none).run Tryd.prog w = .ok (.slice (some ⟨b, o1, none⟩) p.length (cp - 1)) w := hs1
    simp only [List.drop_succ_cons, List.drop_zero] at hP1 hc1
    have hl : (x :: p).length = p.length + 1 := rfl
    rw [hl] at hcp hp hs1' ⊢
    have j0 : ((p.length : Int) + 1 == 0) = false := by simp; omega
    have hpl : p.length ≤ 1048576 := by omega
    rw [fB_cons]
    clear hs1 hl
    cases e2 : st2 x with
    | true =>
      have e2' : (x.toList == [42, 42]) = true := e2
      rw [if_pos rfl]
      have HV : Hid (∀ k, k ≤ s.length → fB p (s.drop k) = true → ((List.range (s.length + 1)).any fun k => fB p (s.drop k)) = true) := fun k hk h => List.any_eq_true.2 ⟨k, List.mem_range.2 (by omega), h⟩
      have HN : Hid ((∀ k, k ≤ s.length → fB p (s.drop k) = false) → ((List.range (s.length + 1)).any fun k => fB p (s.drop k)) = false) := fun h => by
        rw [List.any_eq_false]
        intro k hk
        rw [h k (by have := List.mem_range.1 hk; omega)]
        simp
      generalize ((List.range (s.length + 1)).any fun k => fB p (s.drop k)) = V at *
      clear e2
      go_enter Tryd.func27, Tryd.ntmps27
      go_wp2
      go_loopw [5] (fun i wr => ∃ k n : Nat, k ≤ s.length + 1 ∧ i = .int .i64 (k : Int) ∧ Hid (∀ j, j < k → fB p (s.drop j) = false) ∧ wr = w.drewN n) (fun i _ => s.length + 1 - (intOf i).toNat)
      case atStart => exact ⟨0, 0, by omega, rfl, fun j hj => by omega, rfl⟩
      case round =>
        obtain ⟨k, n, hk, rfl, HE, HW0⟩ := hrel
        by_cases hlt : k ≤ s.length
        · obtain ⟨o3, hs3, hS3, hc3⟩ := sliceS hS hcs k hlt
          have hPr : TA wr b o1 p := by rw [HW0]; exact hP1.drew n
          have hSr : TA wr b2 o3 (s.drop k) := by rw [HW0]; exact hS3.drew n
          have HW : Hid (wr = w.drewN n) := HW0
          have kc := fun m => quiet_more (ih b o1 (cp - 1) b2 o3 (cs - k) (s.drop k) (wr.drewN m) hc1 hc3 hpl (by rw [List.length_drop]; omega) (hPr.drew m) (hSr.drew m))
          have i1 : (k : Int) ≤ (s.length : Int) := by omega
          have HV2 : Hid (fB p (s.drop k) = true → V = true) := HV.out k hlt
          have HE2 : Hid (fB p (s.drop k) = false → ∀ j, j < k + 1 → fB p (s.drop j) = false) := fun h j hj => by
            rcases Nat.lt_or_eq_of_le (Nat.le_of_lt_succ hj) with h1 | rfl
            · exact HE.out j h1
            · exact h
          clear HE HV HN HW0 hS3 hc3 hPr hSr ih
          generalize fB p (s.drop k) = Y at *
          generalize (s.drop k).length = M at *
          cases Y with
          | true =>
            obtain rfl : V = true := HV2.out rfl
            clear HV2 HE2
            go_upto_region 7 with fail
            go_quiet ((go_at_call 27; exact kc _))
            go_wp2
            go_ret
            exact ⟨rfl, n + nq, by rw [HW.out]; simp⟩
          | false =>
            have HE3 : Hid (∀ j, j < k + 1 → fB p (s.drop j) = false) := HE2.out rfl
            clear HV2 HE2
            go_upto_region 7 with fail
            go_quiet ((go_at_call 27; exact kc _))
            go_wp2
            exact ⟨⟨k + 1, n + nq, by omega, by go_num, HE3, by rw [HW.out]; simp⟩, by simp [intOf]; omega⟩
        · have i1 : ¬ (k : Int) ≤ (s.length : Int) := by omega
          obtain rfl : V = false := HN.out fun j hj => HE.out j (by omega)
          have HW : Hid (wr = w.drewN n) := HW0
          clear HE HV HN HW0
          go_wp2
          go_ret
          exact ⟨rfl, n, HW.out⟩
    | false =>
      have e2' : (x.toList == [42, 42]) = false := e2
      rw [if_neg (by simp)]
      clear e2
      cases s with
      | nil =>
        show Calls _ _ #[_, .slice (some ⟨b2, o2, none⟩) 0 cs] _ _
        have e : hd1 x (fun t => fB p t) [] = false := rfl
        rw [e]
        go_enter Tryd.func27, Tryd.ntmps27
        go_upto_region 10 with fail
        go_quiet (fail)
        go_wp2
        go_ret
        exact ⟨rfl, nq, rfl⟩
      | cons y t =>
        have hy := hS.2 0 y rfl
        rw [Nat.add_zero] at hy
        obtain ⟨o3, hs3, hS3, hc3⟩ := sliceS hS hcs 1 (by simp)
        have hs3' : ∀ w, (Instr.sliceAt 39 (.slice (some ⟨b2, o2, none⟩) (y :: t).length cs) (some (.int .i64 1)) none none).run Tryd.prog w = .ok (.slice (some ⟨b2, o3, none⟩) t.length (cs - 1)) w := hs3
        simp only [List.drop_succ_cons, List.drop_zero] at hS3 hc3
        have hl : (y :: t).length = t.length + 1 := rfl
        rw [hl] at hcs hs hs3' ⊢
        clear hl hs3
        have e : hd1 x (fun t => fB p t) (y :: t) = ((st1 x || eqT x y) && fB p t) := rfl
        rw [e]
        clear e
        have kc := fun m => quiet_more (ih b o1 (cp - 1) b2 o3 (cs - 1) t (w.drewN m) hc1 hc3 hpl (by omega) (hP1.drew m) (hS3.drew m))
        have j1 : decide ((0 : Int) < (t.length : Int) + 1) = true := decide_eq_true (by omega)
        have j1n : decide (0 < t.length + 1) = true := decide_eq_true (by omega)
        generalize fB p t = Y at *
        cases e1 : st1 x with
        | true =>
          have e1' : (x.toList == [42]) = true := e1
          clear e1
          simp only [Bool.true_or, Bool.true_and]
          go_enter Tryd.func27, Tryd.ntmps27
          go_upto_region 10 with fail
          go_quiet ((go_at_call 27; exact kc _))
          go_wp2
          go_ret
          exact ⟨rfl, nq, rfl⟩
        | false =>
          have e1' : (x.toList == [42]) = false := e1
          clear e1
          cases e3 : eqT x y with
          | true =>
            have e3' : (x.toList == y.toList) = true := e3
            clear e3
            simp only [Bool.false_or, Bool.true_and]
            go_enter Tryd.func27, Tryd.ntmps27
            go_upto_region 10 with fail
            go_quiet ((go_at_call 27; exact kc _))
            go_wp2
            go_ret
            exact ⟨rfl, nq, rfl⟩
          | false =>
            have e3' : (x.toList == y.toList) = false := e3
            clear e3
            simp only [Bool.false_or, Bool.false_and]
            go_enter Tryd.func27, Tryd.ntmps27
            go_upto_region 10 with fail
            go_quiet (fail)
            go_wp2
            go_ret
            exact ⟨rfl, nq, rfl⟩
end Go.Proofs.YthhaemdpnphhoaaDoor
