/- The contracts of both RootStep functions. -/
import Derived.Test.YtgcnkecfdmafdaaPtRoots
import Derived.Test.YtgcnkecfdmafdaaPtCopyP
namespace Go.Proofs.Ytgcnkecfdmafdaa
open Go.RowKit

theorem both_good {f : Nat → Nat} {len n : Nat} {X Y : Nat → Nat} (hg : allP X Y n = true) (hX : ∀ i, i < n → X i < 18446744073709551616 ∧ Y i < 18446744073709551616) :
    (stp false f len n X Y n = none ∧ stp true f len n X Y n = none) ∨ ∃ z zs, stp false f len n X Y n = some z ∧ stp true f len n X Y n = some zs ∧ Pln n z.1 zs.1 ∧ Pln n z.2 zs.2 :=
  both_stp (fun i hi => good_plain (allP_good hg i hi).1 (hX i hi).1) (fun i hi => good_plain (allP_good hg i hi).2 (hX i hi).2) n (Nat.le_refl _)
/-- the answer of RootStep -/
def stepAn (f : Nat → Nat) (len n : Nat) (X Y : Nat → Nat) : Option ((Nat → Nat) × (Nat → Nat)) := if monicG f len = true ∧ (n : Int) = (len : Int) - 1 ∧ allP X Y n = true then stp true f len n X Y n else none

set_option maxHeartbeats 1000000 in
theorem implStep_out (a : Option Addr) (len cap : Nat) (f : Nat → Nat) (z : Option Addr) (n zc : Nat) (w : World) (h : FS w a len f) (hl : len ≤ 1048576) (hm : monicG f len = false ∨ ¬ (n : Int) = (len : Int) - 1) :
    Calls Try.prog 27 #[.slice a len cap, .slice z n zc] w fun e w' => e = .returned (.tuple #[.slice none 0 0, .bool false]) ∧ w' = w := by
  have hg := implMonic_any a len cap f w h
  clear h
  cases g1 : monicG f len with
  | false =>
    rw [g1] at hg
    clear hm
    go_enter Try.func27, Try.ntmps27
    go_wp2_with (go_at_call 51; refine hg.mono ?_; rintro e w' ⟨rfl, rfl⟩)
    go_ret2
    exact ⟨rfl, rfl⟩
  | true =>
    rw [g1] at hg hm
    have h2 : ¬ (n : Int) = (len : Int) - 1 := by
      rcases hm with h | h
      · cases h
      · exact h
    clear hm
    go_enter Try.func27, Try.ntmps27
    go_wp2_with (go_at_call 51; refine hg.mono ?_; rintro e w' ⟨rfl, rfl⟩)
    go_ret2
    exact ⟨rfl, rfl⟩

set_option maxHeartbeats 1000000 in
theorem specStep_out (a : Option Addr) (len cap : Nat) (f : Nat → Nat) (z : Option Addr) (n zc : Nat) (w : World) (h : FS w a len f) (hl : len ≤ 1048576) (hm : monicG f len = false ∨ ¬ (n : Int) = (len : Int) - 1) :
    Calls Try.prog 25 #[.slice a len cap, .slice z n zc] w fun e w' => e = .returned (.tuple #[.slice none 0 0, .bool false]) ∧ w' = w := by
  have hg := specMonic_any a len cap f w h
  clear h
  cases g1 : monicG f len with
  | false =>
    rw [g1] at hg
    clear hm
    go_enter Try.func25, Try.ntmps25
    go_wp2_with (go_at_call 48; refine hg.mono ?_; rintro e w' ⟨rfl, rfl⟩)
    go_ret2
    exact ⟨rfl, rfl⟩
  | true =>
    rw [g1] at hg hm
    have h2 : ¬ (n : Int) = (len : Int) - 1 := by
      rcases hm with h | h
      · cases h
      · exact h
    clear hm
    go_enter Try.func25, Try.ntmps25
    go_wp2_with (go_at_call 48; refine hg.mono ?_; rintro e w' ⟨rfl, rfl⟩)
    go_ret2
    exact ⟨rfl, rfl⟩

set_option maxHeartbeats 4000000 in
theorem specStep_in (a : Option Addr) (len cap : Nat) (f : Nat → Nat) (z : Option Addr) (n zc : Nat) (X Y : Nat → Nat) (w : World) (h : FS w a len f) (hn : n ≤ 1048576) (hX : ∀ i, i < n → X i < 18446744073709551616 ∧ Y i < 18446744073709551616) (hz : PL w z n X Y) (hm : monicG f len = true) (hnl : (n : Int) = (len : Int) - 1) (o : Option ((Nat → Nat) × (Nat → Nat))) (HO : Hid (o = (if allP X Y n = true then stp true f len n X Y n else none))) :
    Calls Try.prog 25 #[.slice a len cap, .slice z n zc] w fun e w' => Ans w w' e n o ∧ Below w.heap.size w w' := by
  have hg := specMonic_any a len cap f w h
  rw [hm] at hg
  obtain ⟨hl2, hl11⟩ := monic_len hm
  have t1 : ((n : Int) != (len : Int) - 1) = false := by simpa using hnl
  have n0 : 0 < n := by omega
  have hmk := run_make_pts n hn
  clear hm hnl
  have hgp := goodPoints_any z n zc X Y w hn hX hz
  go_enter Try.func25, Try.ntmps25
  go_wp2_with (go_at_call 48; refine hg.mono ?_; rintro e w' ⟨rfl, hw'⟩; have hs' := hw'.symm; clear hw'; subst hs')
  refine hgp.mono ?_
  rintro e w1 ⟨rfl, hb1⟩
  clear hg hgp
  cases hall : allP X Y n with
  | false =>
    clear hmk
    go_wp2
    go_ret2
    exact ⟨.inl ⟨by rw [HO.out, hall]; rfl, rfl⟩, hb1⟩
  | true =>
    obtain ⟨zb, rfl, hzs⟩ := (hz.below hb1) n0
    have hgn : (w1.alloc (.cells (madeCells #[.float .f64 0, .float .f64 0] (n * 2)) 25)).heap[w1.heap.size]? = some (.cells (madeCells #[.float .f64 0, .float .f64 0] (n * 2)) 25 (0, 0)) := heap_alloc_new w1 _
    have hzs2 : PS (w1.alloc (.cells (madeCells #[.float .f64 0, .float .f64 0] (n * 2)) 25)) zb n X Y := hzs.below ((Below.refl _ _).alloc (Nat.le_refl _) _) hzs.lt
    have hcp := run_copy_pts (w1.alloc (.cells (madeCells #[.float .f64 0, .float .f64 0] (n * 2)) 25)) 3 w1.heap.size n zb n zc (madeCells #[.float .f64 0, .float .f64 0] (n * 2)) 25 X Y hgn (size_madeCells _ _) hzs2
    obtain ⟨hP2, hO2⟩ := copied_pts (n := n) (X := X) (Y := Y) hgn
    generalize hw2 : (w1.alloc (.cells (madeCells #[.float .f64 0, .float .f64 0] (n * 2)) 25)).setRow w1.heap.size (pL X Y n).toArray = w2 at hcp hP2 hO2
    go_wp2_with fail
    have hB2 : Below w.heap.size w w2 := (hb1.alloc hb1.size _).trans (hO2.below.mono hb1.size)
    refine (l3Step_any a len cap f w1.heap.size n n X Y _ (fun w' hw' => h.below (hB2.trans (hw'.mono hb1.size))) hn hX hP2).mono ?_
    rintro e w3 ⟨t, X', Y', rfl, hP3, hb3, hres⟩
    have hB3 := hB2.trans (hb3.mono hb1.size)
    have hws := hb1.size
    clear hmk hgn hzs2 hzs hP2 hO2 hB2 hb3 hb1 hcp hw2
    rcases hres with ⟨hno, rfl⟩ | ⟨rfl, hsome, hXb⟩
    · go_wp2
      go_ret2
      exact ⟨.inl ⟨by rw [HO.out, hall, if_pos rfl]; exact hno, rfl⟩, hB3⟩
    · go_wp2
      go_ret2
      exact ⟨.inr ⟨(X', Y'), _, _, by rw [HO.out, hall, if_pos rfl]; exact hsome, rfl, hws, hP3, hXb⟩, hB3⟩

set_option maxHeartbeats 4000000 in
theorem implStep_in (a : Option Addr) (len cap : Nat) (f : Nat → Nat) (z : Option Addr) (n zc : Nat) (X Y : Nat → Nat) (w : World) (h : FS w a len f) (hn : n ≤ 1048576) (hX : ∀ i, i < n → X i < 18446744073709551616 ∧ Y i < 18446744073709551616) (hz : PL w z n X Y) (hm : monicG f len = true) (hnl : (n : Int) = (len : Int) - 1) (o : Option ((Nat → Nat) × (Nat → Nat))) (HO : Hid (o = (if allP X Y n = true then stp true f len n X Y n else none))) :
    Calls Try.prog 27 #[.slice a len cap, .slice z n zc] w fun e w' => Ans w w' e n o ∧ Below w.heap.size w w' := by
  have hg := implMonic_any a len cap f w h
  rw [hm] at hg
  obtain ⟨hl2, hl11⟩ := monic_len hm
  have t1 : ((n : Int) != (len : Int) - 1) = false := by simpa using hnl
  have n0 : 0 < n := by omega
  have hmk := run_make_row' (P := Try.prog) 65 54 (.complex .f64 0 0) 16 Try.underlying65 infoC rfl .i64 .i64 n (by omega) (by omega)
  have hr0 : (w.alloc (.cells (madeCells #[.complex .f64 0 0] n) 54)).rowIs w.heap.size 54 n (fun _ => .complex .f64 0 0) := World.rowIs_made w (.complex .f64 0 0) n 54
  have hb0 : Below w.heap.size w (w.alloc (.cells (madeCells #[.complex .f64 0 0] n) 54)) := (Below.refl _ _).alloc (Nat.le_refl _) _
  have HR : Hid ((w.alloc (.cells (madeCells #[.complex .f64 0 0] n) 54)).rowIs w.heap.size 54 n (fun _ => .complex .f64 0 0)) := hr0
  clear hm hnl hr0
  obtain ⟨zb, rfl, hzs⟩ := hz n0
  go_enter Try.func27, Try.ntmps27
  go_wp2_with (go_at_call 51; refine hg.mono ?_; rintro e w' ⟨rfl, hw'⟩; have hs' := hw'.symm; clear hw'; subst hs')
  clear hg hmk
  go_loopw [24] (fun i wr => ∃ k : Nat, k ≤ n ∧ i = .int .i64 k ∧ allP X Y k = true ∧ (∃ F, wr.rowIs w.heap.size 54 n F ∧ ∀ j, j < k → F j = cRow X Y j) ∧ Below w.heap.size w wr) (fun i _ => n - (intOf i).toNat)
  case atStart => exact ⟨0, Nat.zero_le _, rfl, rfl, ⟨_, HR.out, fun j hj => absurd hj (Nat.not_lt_zero _)⟩, hb0⟩
  case round =>
    obtain ⟨k, hk, rfl, hall, ⟨F, hrow, hF⟩, hB⟩ := hrel
    clear HR hb0
    by_cases hlt : k < n
    · have hs1 := hzs.below hB hzs.lt
      have x0 := hs1.c0 k hlt
      have x1 := hs1.c1 k hlt
      obtain ⟨hbx, hby⟩ := hX k hlt
      have i0 : (0 : Int) ≤ (k : Int) := by omega
      have i1 : (k : Int) < (n : Int) := by omega
      go_wp2_with fail
      refine (implGoodPt_any (X k) (Y k) _ hbx hby).mono ?_
      rintro e w1 ⟨rfl, hb1⟩
      have hs2 := hs1.below hb1 hs1.lt
      have hrow1 := rowIs_below hrow hb1 hrow.lt
      have hB1 := hB.trans (hb1.mono hB.size)
      clear hb1 hs1 hrow hB x0 x1
      have x0 := hs2.c0 k hlt
      have x1 := hs2.c1 k hlt
      cases hg2 : (goodB (X k) && goodB (Y k)) with
      | false =>
        go_wp2
        go_ret2
        exact ⟨.inl ⟨by rw [HO.out, allP_false hlt hg2]; rfl, rfl⟩, hB1⟩
      | true =>
        go_wp2_with fail
        refine (complexOf_any (X k) (Y k) _).mono ?_
        rintro e w2 ⟨rfl, hb2⟩
        have hrow2 := rowIs_below hrow1 hb2 hrow1.lt
        have hB2 := hB1.trans (hb2.mono hB1.size)
        clear hb2 hrow1 hB1 hs2 x0 x1
        have c1 := hrow2.cell hlt
        have z1 := hrow2.frozen k
        go_wp2
        refine ⟨⟨k + 1, by omega, by go_num, by simp only [allP, hall, hg2, Bool.and_self], ⟨_, hrow2.set k _, fun j hj => ?_⟩, hB2.setCell (p := ⟨_, _, none⟩) (Nat.le_refl _) _⟩, by simp [intOf]; omega⟩
        by_cases e : j = k
        · subst e; rw [if_pos rfl]; rfl
        · rw [if_neg e]; exact hF j (by omega)
    · have hke : k = n := by omega
      subst hke
      have hrow1 : wr.rowIs w.heap.size 54 k (cRow X Y) := hrow.congr hF
      clear hrow hF
      have i1 : ¬ (k : Int) < (k : Int) := by omega
      go_wp2_with fail
      refine (stepRoots_any a len cap f w.heap.size k k X Y _ (fun w' hw' => h.below (hB.trans hw')) hn hX hrow1).mono ?_
      rintro e w2 ⟨t, X', Y', rfl, hrow2, hb2, hres⟩
      have hB2 := hB.trans hb2
      clear hb2 hrow1 hB
      rcases hres with ⟨hno, rfl⟩ | ⟨rfl, hsome, hXb⟩
      · go_wp2
        go_ret2
        refine ⟨.inl ⟨?_, rfl⟩, hB2⟩
        rw [HO.out, hall, if_pos rfl]
        rcases both_good (f := f) (len := len) hall hX with ⟨-, e2⟩ | ⟨z', zs, e1, -, -, -⟩
        · exact e2
        · rw [hno] at e1; cases e1
      · go_wp2_with fail
        refine (tellPoints_any w.heap.size k k X' Y' _ hn hrow2).mono ?_
        rintro e w3 ⟨rfl, hP, hb3⟩
        have hB3 := hB2.trans (hb3.mono hB2.size)
        have hws := hB2.size
        clear hb3 hrow2 hB2
        go_wp2
        go_ret2
        refine ⟨.inr ?_, hB3⟩
        rw [HO.out, hall, if_pos rfl]
        rcases both_good (f := f) (len := len) hall hX with ⟨e1, -⟩ | ⟨z', zs, e1, e2, p1, p2⟩
        · rw [hsome] at e1; cases e1
        · rw [hsome] at e1
          cases e1
          refine ⟨zs, _, _, e2, rfl, hws, hP.congr fun i hi => ⟨p1 i hi, p2 i hi⟩, fun i hi => ?_⟩
          rw [← p1 i hi, ← p2 i hi]
          exact ⟨plain_lt (hXb i hi).1, plain_lt (hXb i hi).2⟩

theorem implStep_any (a : Option Addr) (len cap : Nat) (f : Nat → Nat) (z : Option Addr) (n zc : Nat) (X Y : Nat → Nat) (w : World) (h : FS w a len f) (hn : n ≤ 1048576) (hX : ∀ i, i < n → X i < 18446744073709551616 ∧ Y i < 18446744073709551616) (hz : PL w z n X Y) :
    Calls Try.prog 27 #[.slice a len cap, .slice z n zc] w fun e w' => Ans w w' e n (stepAn f len n X Y) ∧ Below w.heap.size w w' := by
  unfold stepAn
  by_cases hc : monicG f len = true ∧ (n : Int) = (len : Int) - 1
  · have e : (if monicG f len = true ∧ (n : Int) = (len : Int) - 1 ∧ allP X Y n = true then stp true f len n X Y n else none) = (if allP X Y n = true then stp true f len n X Y n else none) := by
      by_cases hg : allP X Y n = true
      · rw [if_pos hg, if_pos ⟨hc.1, hc.2, hg⟩]
      · rw [if_neg hg, if_neg (fun q => hg q.2.2)]
    rw [e]
    exact implStep_in a len cap f z n zc X Y w h hn hX hz hc.1 hc.2 _ rfl
  · rw [if_neg (fun q => hc ⟨q.1, q.2.1⟩)]
    refine (implStep_out a len cap f z n zc w h h.1 ?_).mono fun e w' he => ?_
    · cases g : monicG f len with
      | false => exact .inl rfl
      | true => exact .inr fun q => hc ⟨g, q⟩
    · obtain ⟨he, rfl⟩ := he
      exact ⟨.inl ⟨rfl, he⟩, Below.refl _ _⟩
theorem specStep_any (a : Option Addr) (len cap : Nat) (f : Nat → Nat) (z : Option Addr) (n zc : Nat) (X Y : Nat → Nat) (w : World) (h : FS w a len f) (hn : n ≤ 1048576) (hX : ∀ i, i < n → X i < 18446744073709551616 ∧ Y i < 18446744073709551616) (hz : PL w z n X Y) :
    Calls Try.prog 25 #[.slice a len cap, .slice z n zc] w fun e w' => Ans w w' e n (stepAn f len n X Y) ∧ Below w.heap.size w w' := by
  unfold stepAn
  by_cases hc : monicG f len = true ∧ (n : Int) = (len : Int) - 1
  · have e : (if monicG f len = true ∧ (n : Int) = (len : Int) - 1 ∧ allP X Y n = true then stp true f len n X Y n else none) = (if allP X Y n = true then stp true f len n X Y n else none) := by
      by_cases hg : allP X Y n = true
      · rw [if_pos hg, if_pos ⟨hc.1, hc.2, hg⟩]
      · rw [if_neg hg, if_neg (fun q => hg q.2.2)]
    rw [e]
    exact specStep_in a len cap f z n zc X Y w h hn hX hz hc.1 hc.2 _ rfl
  · rw [if_neg (fun q => hc ⟨q.1, q.2.1⟩)]
    refine (specStep_out a len cap f z n zc w h h.1 ?_).mono fun e w' he => ?_
    · cases g : monicG f len with
      | false => exact .inl rfl
      | true => exact .inr fun q => hc ⟨g, q⟩
    · obtain ⟨he, rfl⟩ := he
      exact ⟨.inl ⟨rfl, he⟩, Below.refl _ _⟩
end Go.Proofs.Ytgcnkecfdmafdaa
