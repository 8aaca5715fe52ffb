/- Lists of events: the law's own copies of them, compared, measured and marked; all by one flat index. Texts that are held. -/
import Derived.Test.YtoleblhidieheaaWhCpS
import Derived.Test.YtoleblhidieheaaWhMkQ
import Derived.Test.YtoleblhidieheaaMoR
namespace Go.Proofs.Ytoleblhidieheaa
open Go.RowKit
abbrev evv (a b : ByteArray) : Value := .agg #[.string a, .string b]
set_option maxHeartbeats 400000 in
theorem toEvent_any (a b : ByteArray) (w : World) :
    Calls Try.prog 33 #[evv a b] w fun e w' => e = .returned (evv a b) ∧ Below w.heap.size w w' := by
  go_enter Try.func33, Try.ntmps33
  go_wp2
  go_returns
  refine ⟨rfl, ?_⟩
  repeat' (first | exact Below.refl _ _ | refine below_dr ?_ _ | refine Below.alloc ?_ (by simp <;> omega) _ | refine Below.setCell ?_ (by simp <;> omega) _)
theorem infoEv : (Try.prog.info? 32).map (fun i => (i.zero, i.size, i.bytes)) = some (some (evv ⟨#[]⟩ ⟨#[]⟩), 2, 32) := by kernel_rfl
theorem run_make_ev (n : Nat) (hn : n ≤ 1048576) (w : World) :
    (Instr.makeSlice 23 (.int .i64 (n : Int)) (.int .i64 (n : Int))).run Try.prog w = .ok (.slice (some ⟨w.heap.size, 0, none⟩) n n) (w.alloc (.cells (madeCells #[.string ⟨#[]⟩, .string ⟨#[]⟩] (n * 2)) 32)) := by
  obtain ⟨i, hi, hzz⟩ := Option.map_eq_some_iff.1 infoEv
  simp only [Prod.mk.injEq] at hzz
  obtain ⟨hz, hs, hb⟩ := hzz
  have hr := run_make (P := Try.prog) w 23 32 i _ Try.underlying23 hi hz .i64 .i64 (n : Int) (n : Int) (by omega) (Int.le_refl _) (by rw [hb]; omega) (by omega)
  simp only [Int.toNat_natCast, hs] at hr
  exact hr
theorem made_ev (w : World) (n : Nat) : VP (w.alloc (.cells (madeCells #[.string ⟨#[]⟩, .string ⟨#[]⟩] (n * 2)) 32)) w.heap.size (n * 2) (fun _ => .string ⟨#[]⟩) := by
  have hs : (madeCells #[Value.string ⟨#[]⟩, .string ⟨#[]⟩] (n * 2)).size = n * 2 := size_madeCells _ _
  have hr := World.rowIs_alloc w (madeCells #[Value.string ⟨#[]⟩, .string ⟨#[]⟩] (n * 2)) 32 (fun _ => .string ⟨#[]⟩) (by
    intro j hj
    rw [hs] at hj
    have e : ∀ q, q < 2 → (#[Value.string ⟨#[]⟩, .string ⟨#[]⟩] : Array Value)[q]! = .string ⟨#[]⟩ := by
      intro q hq
      match q, hq with
      | 0, _ => rfl
      | 1, _ => rfl
    simp only [madeCells, Array.getElem?_map, Array.getElem?_range, hj, if_true, Option.map_some]
    exact congrArg some (e _ (Nat.mod_lt _ (by decide))))
  rw [hs] at hr
  exact vp_row hr
theorem VP.below {w w' : World} {b n : Nat} {f : Nat → Value} (h : VP w b n f) (k : Below w.heap.size w w') : VP w' b n f := h.of k.size (k.block b h.lt)
set_option maxHeartbeats 1000000 in
theorem toEvS (a : Option Addr) (n cap : Nat) (E : Nat → ByteArray) (w : World) (hn : n ≤ 1048576) (h : SL w a (n * 2) E) :
    Calls Try.prog 13 #[.slice a n cap] w fun e w' => e = .returned (.slice (some ⟨w.heap.size, 0, none⟩) n n) ∧ VQ w' w.heap.size (w.heap.size + 1) (some ⟨w.heap.size, 0, none⟩) (n * 2) (fun i => .string (E i)) ∧ w.heap.size < w'.heap.size ∧ Below w.heap.size w w' := by
  have hmk := run_make_ev n hn
  have hP0 := made_ev w n
  have hb0 : Below w.heap.size w (w.alloc (.cells (madeCells #[.string ⟨#[]⟩, .string ⟨#[]⟩] (n * 2)) 32)) := (Below.refl _ _).alloc (Nat.le_refl _) _
  go_enter Try.func13, Try.ntmps13
  go_wp2
  clear hmk
  go_loopw [4] (fun i wr => ∃ (k : Nat) (G : Nat → Value), k ≤ n ∧ i = .int .i64 k ∧ VP wr w.heap.size (n * 2) G ∧ (∀ j, j < k * 2 → G j = .string (E j)) ∧ Below w.heap.size w wr) (fun i _ => n - (intOf i).toNat)
  case atStart => exact ⟨0, _, Nat.zero_le _, rfl, hP0, fun j hj => absurd hj (by omega), hb0⟩
  case round =>
    obtain ⟨k, G, hk, rfl, hP, hd, hB⟩ := hrel
    clear hP0 hb0
    by_cases hlt : k < n
    · obtain ⟨b, off, rfl, hbw, y0, y1⟩ := sl_two (h.below hB) hlt
      have i0 : (0 : Int) ≤ (k : Int) := by omega
      have i1 : (k : Int) < (n : Int) := by omega
      go_wp2_with fail
      refine (toEvent_any (E (k * 2)) (E (k * 2 + 1)) _).mono ?_
      rintro e w1 ⟨rfl, hb1⟩
      have hP1 := hP.below hb1
      have hB1 := stepA hB hb1
      have x0 := hP1.c (k * 2) (by omega)
      have x1 := hP1.c (k * 2 + 1) (by omega)
      have f0 := hP1.fz (k * 2)
      have f1 := hP1.fz (k * 2 + 1)
      have l1 := hP1.lt
      clear hP hB hb1 y0 y1 hbw
      have hd2 : Hid (∀ j, j < (k + 1) * 2 → (if j = k * 2 + 1 then Value.string (E (k * 2 + 1)) else if j = k * 2 then Value.string (E (k * 2)) else G j) = .string (E j)) := fun j hj => by
        by_cases e1 : j = k * 2 + 1
        · rw [if_pos e1, e1]
        rw [if_neg e1]
        by_cases e0 : j = k * 2
        · rw [if_pos e0, e0]
        rw [if_neg e0]
        exact hd j (by omega)
      have HP2 : Hid (VP ((w1.setCell ⟨w.heap.size, k * 2, none⟩ (.string (E (k * 2)))).setCell ⟨w.heap.size, k * 2 + 1, none⟩ (.string (E (k * 2 + 1)))) w.heap.size (n * 2) (fun j => if j = k * 2 + 1 then Value.string (E (k * 2 + 1)) else if j = k * 2 then Value.string (E (k * 2)) else G j)) := (hP1.set (k := k * 2) (by omega) _).set (k := k * 2 + 1) (by omega) _
      have HB2 : Hid (Below w.heap.size w ((w1.setCell ⟨w.heap.size, k * 2, none⟩ (.string (E (k * 2)))).setCell ⟨w.heap.size, k * 2 + 1, none⟩ (.string (E (k * 2 + 1))))) := (hB1.setCell (p := ⟨_, _, none⟩) (Nat.le_refl _) _).setCell (p := ⟨_, _, none⟩) (Nat.le_refl _) _
      clear hd hP1 hB1
      go_wp2
      exact ⟨⟨k + 1, _, by omega, by go_num, HP2.out, hd2.out, HB2.out⟩, by simp [intOf]; omega⟩
    · have hke : k = n := by omega
      subst hke
      have HQ : Hid (VQ wr w.heap.size (w.heap.size + 1) (some ⟨w.heap.size, 0, none⟩) (k * 2) (fun i => .string (E i))) := fun _ => ⟨w.heap.size, rfl, Nat.le_refl _, Nat.lt_succ_self _, hP.congr hd⟩
      have hl := hP.lt
      clear hd hP
      go_wp2
      go_ret
      exact ⟨rfl, HQ.out, hl, hB⟩
set_option maxHeartbeats 800000 in
theorem eqEvent_any (a b : ByteArray) (w : World) :
    Calls Try.prog 34 #[evv a b, evv a b] w fun e w' => e = .returned (.bool true) ∧ Below w.heap.size w w' := by
  have e1 := bl_same a
  have e2 := bl_same' a
  have e3 := bl_same b
  have e4 := bl_same' b
  go_enter Try.func34, Try.ntmps34
  go_wp2
  go_returns
  refine ⟨rfl, ?_⟩
  repeat' (first | exact Below.refl _ _ | refine below_dr ?_ _ | refine Below.alloc ?_ (by simp <;> omega) _ | refine Below.setCell ?_ (by simp <;> omega) _)
theorem keep4_ev {w w' : World} {b1 b2 o1 o2 o5 o6 : Nat} {v1 v2 v5 v6 : Value} (x0 : w.cell? ⟨b1, o1, none⟩ = some v1) (x1 : w.cell? ⟨b1, o2, none⟩ = some v2) (y0 : w.cell? ⟨b2, o5, none⟩ = some v5) (y1 : w.cell? ⟨b2, o6, none⟩ = some v6) (l1 : b1 < w.heap.size) (l2 : b2 < w.heap.size) (k : Below w.heap.size w w') :
    w'.cell? ⟨b1, o1, none⟩ = some v1 ∧ w'.cell? ⟨b1, o2, none⟩ = some v2 ∧ w'.cell? ⟨b2, o5, none⟩ = some v5 ∧ w'.cell? ⟨b2, o6, none⟩ = some v6 :=
  ⟨(k.cell (p := ⟨b1, _, none⟩) l1).trans x0, (k.cell (p := ⟨b1, _, none⟩) l1).trans x1, (k.cell (p := ⟨b2, _, none⟩) l2).trans y0, (k.cell (p := ⟨b2, _, none⟩) l2).trans y1⟩
set_option maxHeartbeats 2000000 in
theorem eqEvS (a1 a2 : Option Addr) (n c1 c2 : Nat) (E : Nat → ByteArray) (w : World) (hn : n ≤ 1048576) (h1 : SL w a1 (n * 2) E) (h2 : SL w a2 (n * 2) E) :
    Calls Try.prog 16 #[.slice a1 n c1, .slice a2 n c2] w fun e w' => e = .returned (.bool true) ∧ Below w.heap.size w w' := by
  go_enter Try.func16, Try.ntmps16
  go_wp2
  go_loopw [5] (fun i wr => ∃ k : Nat, k ≤ n ∧ i = .int .i64 k ∧ Below w.heap.size w wr) (fun i _ => n - (intOf i).toNat)
  case atStart => exact ⟨0, Nat.zero_le _, rfl, Below.refl _ _⟩
  case round =>
    obtain ⟨k, hk, rfl, hB⟩ := hrel
    by_cases hlt : k < n
    · obtain ⟨b1, o1, rfl, l1, x0, x1⟩ := sl_two (h1.below hB) hlt
      obtain ⟨b2, o2, rfl, l2, y0, y1⟩ := sl_two (h2.below hB) hlt
      have hlt' : (k : Int) < (n : Int) := by omega
      have hw0 := Below.refl wr.heap.size wr
      clear h1 h2
      generalize E (k * 2) = A at x0 y0
      generalize E (k * 2 + 1) = B at x1 y1
      go_wp2_with fail
      go_region_held3 (fun w' => w'.cell? ⟨b1, o1 + k * 2, none⟩ = some (.string A) ∧ w'.cell? ⟨b1, o1 + k * 2 + 1, none⟩ = some (.string B) ∧ w'.cell? ⟨b2, o2 + k * 2, none⟩ = some (.string A) ∧ w'.cell? ⟨b2, o2 + k * 2 + 1, none⟩ = some (.string B))
        (first | (exact keep4_ev x0 x1 y0 y1 l1 l2 hw0.drew) | (exact keep4_ev x0 x1 y0 y1 l1 l2 hw1) | (fail))
        ((go_at_call 34; refine (eqEvent_any _ _ _).mono ?_; rintro e w1 ⟨rfl, hbn⟩; have hw1 := stepA hw0.drew hbn; clear hbn))
      go_wp2
      go_roundw
      case rel => exact ⟨k + 1, by omega, by go_num, hB.trans (hw1.mono hB.size)⟩
      case measure => simp [intOf]; omega
    · clear h1 h2
      go_wp2
      go_ret
      exact ⟨rfl, hB⟩
/-- what is left behind an event, behind a list of them -/
def lf1 (a b : ByteArray) (T : Int) : Int := if T - (a.size : Int) - (b.size : Int) < 0 then -1 else T - (a.size : Int) - (b.size : Int)
def lefE (E : Nat → ByteArray) (n : Nat) (l : Int) : Int := if lefS E (l - (n : Int)) (n * 2) < 0 then -1 else lefS E (l - (n : Int)) (n * 2)
set_option maxHeartbeats 800000 in
theorem szEvent_any (a b : ByteArray) (T : Int) (w : World) (h0 : 0 ≤ T) (h1 : T ≤ 1048576) (ha : a.size ≤ 9223372036854775807) (hb : b.size ≤ 9223372036854775807) :
    Calls Try.prog 32 #[evv a b, .int .i64 T] w fun e w' => e = .returned (.int .i64 (lf1 a b T)) ∧ Below w.heap.size w w' := by
  have hx : Below w.heap.size w (w.alloc (.cells #[.string a, .string b] 66)) := (Below.refl _ _).alloc (Nat.le_refl _) _
  by_cases q1 : T - (a.size : Int) < 0
  · have HV : Hid (-1 = lf1 a b T) := by unfold lf1; show -1 = _; rw [if_pos (by omega)]
    go_enter Try.func32, Try.ntmps32
    go_wp2
    go_ret
    exact ⟨ret_int HV.out, hx⟩
  by_cases q2 : T - (a.size : Int) - (b.size : Int) < 0
  · have HV : Hid (-1 = lf1 a b T) := by unfold lf1; show -1 = _; rw [if_pos (by omega)]
    go_enter Try.func32, Try.ntmps32
    go_wp2
    go_ret
    exact ⟨ret_int HV.out, hx⟩
  · have HV : Hid (T - (a.size : Int) - (b.size : Int) = lf1 a b T) := by unfold lf1; show _ = _; rw [if_neg q2]
    go_enter Try.func32, Try.ntmps32
    go_wp2
    go_ret
    exact ⟨ret_int HV.out, hx⟩
set_option maxHeartbeats 2000000 in
theorem szEvS (a : Option Addr) (n c : Nat) (E : Nat → ByteArray) (l : Int) (w : World) (h0 : 0 ≤ l) (h1 : l ≤ 1048576) (hm : n ≤ 9223372036854775807) (hS : ∀ i, i < n * 2 → (E i).size ≤ 9223372036854775807) (ha : SL w a (n * 2) E) :
    Calls Try.prog 11 #[.slice a n c, .int .i64 l] w fun e w' => e = .returned (.int .i64 (lefE E n l)) ∧ Below w.heap.size w w' := by
  have e0 : lefS E (l - (n : Int)) 0 = l - (n : Int) := rfl
  by_cases hh : l - (n : Int) < 0
  · have hv : lefE E n l = -1 := by
      unfold lefE
      have := lefS_le E (l - (n : Int)) (k := 0) (m := n * 2) (by omega)
      rw [if_pos (by omega)]
    rw [hv]
    clear hv e0
    go_enter Try.func11, Try.ntmps11
    go_wp2
    go_ret
    exact ⟨rfl, Below.refl _ _⟩
  · have HN : Hid (∀ k, k ≤ n * 2 → lefS E (l - (n : Int)) k < 0 → lefE E n l = -1) := fun k hk h => by
      unfold lefE
      have := lefS_le E (l - (n : Int)) (k := k) (m := n * 2) hk
      rw [if_pos (by omega)]
    have HV : Hid (¬ lefS E (l - (n : Int)) (n * 2) < 0 → lefE E n l = lefS E (l - (n : Int)) (n * 2)) := fun h => by
      unfold lefE
      rw [if_neg h]
    have HE : Hid (∀ k, lefS E (l - (n : Int)) (k * 2 + 2) = lefS E (l - (n : Int)) (k * 2) - ((E (k * 2)).size : Int) - ((E (k * 2 + 1)).size : Int)) := fun _ => rfl
    have HZ : Hid (lefS E (l - (n : Int)) 0 = l - (n : Int)) := e0
    clear e0
    generalize lefS E (l - (n : Int)) = G at *
    generalize lefE E n l = V at *
    go_enter Try.func11, Try.ntmps11
    go_wp2
    go_loopw [1, 5] (fun v i wr => ∃ (k : Nat) (T : Int), k ≤ n ∧ i = .int .i64 k ∧ v = .int .i64 T ∧ 0 ≤ T ∧ T ≤ 1048576 ∧ Hid (T = G (k * 2)) ∧ Below w.heap.size w wr) (fun _ i _ => n - (intOf i).toNat)
    case atStart => exact ⟨0, l - (n : Int), Nat.zero_le _, rfl, by simp, by omega, by omega, HZ.out.symm, Below.refl _ _⟩
    case round =>
      obtain ⟨k, T, hk, rfl, rfl, hT0, hT1, HT, hB⟩ := hrel
      by_cases hlt : k < n
      · obtain ⟨b, off, rfl, hbw, y0, y1⟩ := sl_two (ha.below hB) hlt
        have hs0 := hS (k * 2) (by omega)
        have hs1 := hS (k * 2 + 1) (by omega)
        have i0 : (0 : Int) ≤ (k : Int) := by omega
        have i1 : (k : Int) < (n : Int) := by omega
        have kZ := szEvent_any (E (k * 2)) (E (k * 2 + 1)) T wr hT0 hT1 hs0 hs1
        have HT2 : Hid (T - ((E (k * 2)).size : Int) - ((E (k * 2 + 1)).size : Int) = G ((k + 1) * 2)) := by show _ = _; rw [show (k + 1) * 2 = k * 2 + 2 by omega, HE.out k, HT.out]
        have HL : Hid (∀ x y : ByteArray, lf1 x y T = if T - (x.size : Int) - (y.size : Int) < 0 then -1 else T - (x.size : Int) - (y.size : Int)) := fun _ _ => rfl
        have hL := HL.out (E (k * 2)) (E (k * 2 + 1))
        clear hS HT HZ HE HV HL ha
        generalize hA : ((E (k * 2)).size : Int) = A at *
        generalize hD : ((E (k * 2 + 1)).size : Int) = D at *
        have hA0 : 0 ≤ A := by omega
        have hD0 : 0 ≤ D := by omega
        clear hA hD hs0 hs1
        generalize lf1 (E (k * 2)) (E (k * 2 + 1)) T = Z at *
        generalize E (k * 2) = x at *
        generalize E (k * 2 + 1) = y at *
        by_cases hz : T - A - D < 0
        · have HV2 : Hid (V = -1) := HN.out ((k + 1) * 2) (by omega) (by rw [← HT2.out]; exact hz)
          rw [if_pos hz] at hL
          subst hL
          go_wp2_with (first | (go_at_call 32; refine kZ.mono ?_; rintro e w2 ⟨rfl, hb2⟩) | fail)
          go_ret
          exact ⟨by rw [HV2.out]; rfl, stepA hB hb2⟩
        · rw [if_neg hz] at hL
          have hZ0 : ¬ Z < 0 := by omega
          have hZ1 : Z ≤ 1048576 := by omega
          have HT3 : Hid (Z = G ((k + 1) * 2)) := by show _ = _; rw [hL, HT2.out]
          clear hL HT2 hz
          go_wp2_with (first | (go_at_call 32; refine kZ.mono ?_; rintro e w2 ⟨rfl, hb2⟩) | fail)
          exact ⟨⟨k + 1, Z, by omega, by go_num, rfl, by omega, by omega, HT3, stepA hB hb2⟩, by simp [intOf]; omega⟩
      · have hke : k = n := by omega
        subst hke
        have HV2 : Hid (V = T) := by
          show V = T
          rw [HT.out]
          exact HV.out (by rw [← HT.out]; omega)
        clear HN HV HE HZ HT
        go_wp2
        go_ret
        exact ⟨by rw [HV2.out]; rfl, hB⟩
theorem lefE_in {E : Nat → ByteArray} {n : Nat} {l : Int} (h : ¬ lefE E n l < 0) : (n : Int) ≤ l ∧ (∀ i, i < n * 2 → ((E i).size : Int) ≤ l) ∧ lefE E n l ≤ l := by
  unfold lefE at h ⊢
  by_cases q : lefS E (l - (n : Int)) (n * 2) < 0
  · rw [if_pos q] at h; omega
  · rw [if_neg q] at h ⊢
    have h1 := lefS_le E (l - (n : Int)) (k := 0) (m := n * 2) (by omega)
    have h2 : lefS E (l - (n : Int)) 0 = l - (n : Int) := rfl
    refine ⟨by omega, fun i hi => ?_, by omega⟩
    have := lefS_sz E (l - (n : Int)) hi
    omega
theorem lefB_in' {S : Nat → ByteArray} {n : Nat} {l : Int} (h : ¬ lefB S n l < 0) : (n : Int) ≤ l ∧ (∀ i, i < n → ((S i).size : Int) ≤ l) := by
  unfold lefB at h
  by_cases q : lefS S (l - (n : Int)) n < 0
  · rw [if_pos q] at h; omega
  · rw [if_neg q] at h
    have h1 := lefS_le S (l - (n : Int)) (k := 0) (m := n) (by omega)
    have h2 : lefS S (l - (n : Int)) 0 = l - (n : Int) := rfl
    refine ⟨by omega, fun i hi => ?_⟩
    have := lefS_sz S (l - (n : Int)) hi
    omega
end Go.Proofs.Ytoleblhidieheaa
