/- All cells that are clear from one, as the program tells them. -/
import Derived.Test.YtfciecoigfnnhabWyTchI
import Derived.Test.YtfciecoigfnnhabWyGof
import Derived.Test.YtfciecoigfnnhabWyAns
namespace Go.Proofs.Ytfciecoigfnnhab
open Go.RowKit

theorem mcK_none {W : Int} {n : Nat} {f : Nat → Int} {p : Int} (h : frB n f p = false) (k : Nat) : mcK W n f p k = [] := by
  induction k with
  | zero => rfl
  | succ k ih =>
    unfold mcK
    rw [ih]
    have : clrB W n f p (k : Int) = false := by simp [clrB, h]
    rw [this]
    rfl
theorem mostL_all {W : Int} {n : Nat} {f : Nat → Int} {p : Int} (h : celB W n f = true) : mostL W n f p = mcK W n f p n := by
  unfold mostL
  cases e : frB n f p with
  | true => simp [h]
  | false => rw [mcK_none e]; simp

set_option maxHeartbeats 2000000 in
theorem implMost (W : Int) (a : Option Addr) (n c : Nat) (f : Nat → Int) (p : Int) (w : World) (hn : n ≤ 1048576) (hf : IL w a n f) :
    Calls Try.prog 19 #[cel W a n c, .int .i64 p] w fun e w' => AnsL w w' e (mostL W n f p) ∧ Below w.heap.size w w' := by
  obtain ⟨i0, hi, hzz⟩ := Option.map_eq_some_iff.1 infoI
  simp only [Prod.mk.injEq] at hzz
  obtain ⟨hz0, hz1, hz2⟩ := hzz
  have hb0 : Below w.heap.size w (w.alloc (celO W a n c 27)) := (Below.refl _ _).alloc (Nat.le_refl _) _
  cases hs : celB W n f with
  | false =>
    have e0 : mostL W n f p = [] := by simp [mostL, hs]
    rw [e0]
    have hg := groundOf_no W a n c f (w.alloc (celO W a n c 27)) hn (hf.alloc _) hs
    go_enter Try.func19, Try.ntmps19
    go_wp2_with fail
    refine hg.mono ?_
    rintro e9 w1 ⟨rfl, hb1⟩
    have hB1 := stepA hb0 hb1
    clear hg hb0 hb1
    go_wp2
    go_ret
    exact ⟨ansL_nil _ _, hB1.alloc hB1.size _⟩
  | true =>
    rw [mostL_all hs]
    have hg := groundOf_yes W a n c f (w.alloc (celO W a n c 27)) hn (hf.alloc _) hs
    have hz := (celB_parts hs).1
    have hN := sized_le hz
    have kc0 := fun b w h => clearFrom_any W a n c f p b w hz h
    generalize hgt W n = H at hg kc0
    go_enter Try.func19, Try.ntmps19
    go_wp2_with fail
    refine hg.mono ?_
    rintro e9 w1 ⟨rfl, hb1⟩
    have hB1 := stepA hb0 hb1
    have hf1 := hf.below hB1
    clear hg hb0 hb1
    go_wp2
    have hO0 := own_lit0 (w1.alloc (.cells #[.int .i64 W, .int .i64 H, .slice a n c] 44)) (w1.heap.size + 1) (gl (mcK W n f p 0)) (by simp)
    have bG := (bx_new (w := w1) [.int .i64 W, .int .i64 H, .slice a n c] 44 rfl).alloc (.cells #[] 3)
    have hBG : Below w1.heap.size w1 ((w1.alloc (.cells #[.int .i64 W, .int .i64 H, .slice a n c] 44)).alloc (.cells #[] 3)) := ((Below.refl _ _).alloc (Nat.le_refl _) _).alloc (by simp) _
    rw [size_al] at hO0
    have hB2 := hB1.trans (hBG.mono hB1.size)
    have hs1 := hB1.size
    have HO : Hid (Own ((w1.alloc (.cells #[.int .i64 W, .int .i64 H, .slice a n c] 44)).alloc (.cells #[] 3)) (w1.heap.size + 1) (.slice (some ⟨w1.heap.size + 1, 0, none⟩) 0 0) 0 (gl (mcK W n f p 0))) := hO0
    have hsG : ((w1.alloc (.cells #[.int .i64 W, .int .i64 H, .slice a n c] 44)).alloc (.cells #[] 3)).heap.size = w1.heap.size + 2 := by simp
    clear hBG hO0 hf1 hB1
    generalize (w1.alloc (.cells #[.int .i64 W, .int .i64 H, .slice a n c] 44)).alloc (.cells #[] 3) = W2 at HO bG hB2 hsG ⊢
    go_loopw [7, 20] (fun v i wr => ∃ k : Nat, k ≤ n ∧ i = .int .i64 k ∧ Own wr (w1.heap.size + 1) v (mcK W n f p k).length (gl (mcK W n f p k)) ∧ Below (w1.heap.size + 1) W2 wr) (fun _ i _ => n - (intOf i).toNat)
    case atStart => exact ⟨0, Nat.zero_le _, rfl, HO.out, Below.refl _ _⟩
    case round =>
      obtain ⟨k, hk, rfl, hown, hB⟩ := hrel
      have hlen := mcK_len W n f p k
      have hBw := hB2.trans (hB.mono (by omega))
      have hbase : w1.heap.size + 1 ≤ wr.heap.size := by have := hB.size; omega
      clear HO
      by_cases hlt : k < n
      · have hfw : IL wr a n f := fun h0 => by
          obtain ⟨p, off, e1, e2, e3⟩ := hf (by omega)
          exact ⟨p, off, e1, Nat.lt_of_lt_of_le e2 hBw.size, fun i hi => (hBw.cell (p := ⟨p, off + i, none⟩) e2).trans (e3 i hi)⟩
        have bw := bG.below hB (by omega)
        have x0 := bw.c0
        have x1 := bw.c1
        have x2 := bw.c2
        have j1 : (k : Int) < (n : Int) := by omega
        have kc := fun w h => kc0 (k : Int) w h
        have hyes : Hid (clrB W n f p (k : Int) = true → mcK W n f p (k + 1) = mcK W n f p k ++ [(k : Int)]) := fun h => (by simp [mcK, h] : _ = _)
        have hno : Hid (clrB W n f p (k : Int) = false → mcK W n f p (k + 1) = mcK W n f p k) := fun h => (by simp [mcK, h] : _ = _)
        generalize clrB W n f p (k : Int) = v at kc hyes hno
        clear kc0
        go_wp2_with fail
        refine (kc _ hfw).mono ?_
        rintro e9 w4 ⟨rfl, hb4⟩
        have hown4 := hown.below hb4
        have hB4 := hB.trans (hb4.mono hbase)
        have hbase4 : w1.heap.size + 1 ≤ w4.heap.size := Nat.le_trans hbase hb4.size
        clear x0 x1 x2 bw hfw bG hb4 hown kc
        cases v with
        | true =>
          have hp := hyes.out rfl
          have HP : Hid _ := hp
          clear hyes hno hp
          generalize hl : mcK W n f p k = l at hown4 HP hlen
          obtain ⟨sa, sc, rfl⟩ := hown4.shape
          go_wp2_with (at_builtin; refine wpList_append_own _ rfl _ _ 22 rfl (w1.heap.size + 1) 3 i0 (.int .i64 0) 1 8 Try.underlying22 hi hz0 hz1 hz2 rfl (by decide) _ _ _ rfl (World.ownsRow.alloc hown4 _) ⟨w4.heap.size, 0, none⟩ 1 1 [.int .i64 (k : Int)] rfl rfl (cell_one_new _ _ _) (fun x hx => by simp at hx; subst hx; rfl) (by unfold maxLen; omega) (by omega) (by simp; omega) ?_; intro v' w3 hown' hgrow3 _)
          have hB3 := (hB4.alloc hbase4 (.cells #[.int .i64 (k : Int)] 3)).grown hgrow3 (by simp; omega) (fun q hq => (World.ownsRow.lt hown4 q hq).1)
          exact ⟨⟨k + 1, by omega, by go_num, by rw [HP.out]; exact own_snoc hown', hB3⟩, by simp [intOf]; omega⟩
        | false =>
          have hp := hno.out rfl
          have HP : Hid _ := hp
          clear hyes hno hp
          go_wp2
          exact ⟨⟨k + 1, by omega, by go_num, by rw [HP.out]; exact hown4, hB4⟩, by simp [intOf]; omega⟩
      · have hke : k = n := by omega
        subst hke
        obtain ⟨sa, sc, rfl⟩ := hown.shape
        clear bG kc0
        go_wp2
        go_ret
        exact ⟨ansL_own hown (by omega), hBw⟩
end Go.Proofs.Ytfciecoigfnnhab
