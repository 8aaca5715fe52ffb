/- The contracts of: is a polynomial good, and its value at a point. -/
import Derived.Test.YtgcnkecfdmafdaaPtMul
import Derived.Test.YtgcnkecfdmafdaaFlCopy
import Derived.BigRegion
import Derived.Deep.CutRange
namespace Go.Proofs.Ytgcnkecfdmafdaa
open Go.RowKit

/-- a polynomial's value, from the last coefficient on -/
def py (f : Nat → Nat) (len : Nat) (x y : Option Nat) : Nat → Option Nat × Option Nat
  | 0 => (some 0, some 0)
  | k + 1 => (ob .add (mR (py f len x y k).1 (py f len x y k).2 x y) (some (f (len - 1 - k))), mI (py f len x y k).1 (py f len x y k).2 x y)

def polyG (f : Nat → Nat) (len : Nat) : Bool := (decide (1 ≤ len) && decide (len ≤ 11)) && goodsB f len

set_option maxHeartbeats 400000 in
theorem specPoly_any (a : Option Addr) (len cap : Nat) (f : Nat → Nat) (w : World) (h : FS w a len f) :
    Calls Try.prog 42 #[.slice a len cap] w fun e w' => e = .returned (.bool (polyG f len)) ∧ w' = w := by
  have hg := specGoods_any a len cap f w h
  unfold polyG
  clear h
  by_cases h1 : 1 ≤ len
  · by_cases h2 : len ≤ 11
    · have e1 : (1 : Int) ≤ (len : Int) := by omega
      have e2 : (len : Int) ≤ 11 := by omega
      simp only [h1, h2, decide_true, Bool.and_self, Bool.true_and]
      go_enter Try.func42, Try.ntmps42
      go_wp2_with (go_at_call 59; refine hg.mono ?_; rintro e w' ⟨rfl, rfl⟩)
      go_ret
      exact ⟨rfl, rfl⟩
    · have e1 : (1 : Int) ≤ (len : Int) := by omega
      have e2 : ¬ (len : Int) ≤ 11 := by omega
      simp only [h1, h2, decide_true, decide_false, Bool.and_false, Bool.false_and]
      clear hg
      go_enter Try.func42, Try.ntmps42
      go_wp2
      go_ret
      exact ⟨rfl, rfl⟩
  · have e1 : ¬ (1 : Int) ≤ (len : Int) := by omega
    simp only [h1, decide_false, Bool.false_and]
    clear hg
    go_enter Try.func42, Try.ntmps42
    go_wp2
    go_ret
    exact ⟨rfl, rfl⟩

set_option maxHeartbeats 400000 in
theorem implPoly_any (a : Option Addr) (len cap : Nat) (f : Nat → Nat) (w : World) (h : FS w a len f) :
    Calls Try.prog 44 #[.slice a len cap] w fun e w' => e = .returned (.bool (polyG f len)) ∧ w' = w := by
  have hg := implGoods_any a len cap f w h
  unfold polyG
  clear h
  by_cases h1 : 1 ≤ len
  · by_cases h2 : len ≤ 11
    · have e1 : (1 : Int) ≤ (len : Int) := by omega
      have e2 : (len : Int) ≤ 11 := by omega
      simp only [h1, h2, decide_true, Bool.and_self, Bool.true_and]
      go_enter Try.func44, Try.ntmps44
      go_wp2_with (go_at_call 60; refine hg.mono ?_; rintro e w' ⟨rfl, rfl⟩)
      go_ret
      exact ⟨rfl, rfl⟩
    · have e1 : (1 : Int) ≤ (len : Int) := by omega
      have e2 : ¬ (len : Int) ≤ 11 := by omega
      simp only [h1, h2, decide_true, decide_false, Bool.and_false, Bool.false_and]
      clear hg
      go_enter Try.func44, Try.ntmps44
      go_wp2
      go_ret
      exact ⟨rfl, rfl⟩
  · have e1 : ¬ (1 : Int) ≤ (len : Int) := by omega
    simp only [h1, decide_false, Bool.false_and]
    clear hg
    go_enter Try.func44, Try.ntmps44
    go_wp2
    go_ret
    exact ⟨rfl, rfl⟩

set_option maxHeartbeats 1000000 in
theorem polyComplex_any (a : Option Addr) (len cap : Nat) (f : Nat → Nat) (x y : Nat) (w : World) (h : FS w a len f) {ox oy : Option Nat} (hx : Rep ox x) (hy : Rep oy y) :
    Calls Try.prog 45 #[.slice a len cap, cx x y] w fun e w' => ∃ r i, e = .returned (cx r i) ∧ Rep (py f len ox oy len).1 r ∧ Rep (py f len ox oy len).2 i ∧ ∃ n, w' = w.drewN n := by
  obtain ⟨hl, hf, hc⟩ := h
  have hadd := fun v y w => run_fl (P := Try.prog) .add (by simp) 22 v y w
  go_enter Try.func45, Try.ntmps45
  go_wp2
  go_loopw [5, 9] (fun y i wr => ∃ k n v u : Nat, k ≤ len ∧ i = .int .i64 (k : Int) ∧ y = cx v u ∧ Rep (py f len ox oy k).1 v ∧ Rep (py f len ox oy k).2 u ∧ wr = w.drewN n) (fun _ i _ => len - (intOf i).toNat)
  case atStart => exact ⟨0, 0, 0, 0, Nat.zero_le _, rfl, rfl, rep_of (by decide), rep_of (by decide), rfl⟩
  case round =>
    obtain ⟨k, n, v, u, hk, rfl, rfl, hv, hu, hw⟩ := hrel
    have HW : Hid (wr = w.drewN n) := hw
    have HV : Hid (Rep (py f len ox oy k).1 v) := hv
    have HU : Hid (Rep (py f len ox oy k).2 u) := hu
    clear hw hv hu
    by_cases hlt : k < len
    · obtain ⟨b, off, rfl, hbw, hcell⟩ := hc (by omega)
      have hck : wr.cell? ⟨b, off + (len - 1 - k), none⟩ = some (.float .f64 (f (len - 1 - k))) := by rw [HW.out]; exact hcell _ (by omega)
      have hfk := hf (len - 1 - k) (by omega)
      clear hcell hc hf
      go_wp2_with (go_at_call 36; refine (mulComplex_any v u x y _).mono ?_; rintro e w1 ⟨vr, vi, rfl, hrep, n1, hn1⟩; have hck1 : w1.cell? ⟨b, off + (len - 1 - k), none⟩ = some (.float .f64 (f (len - 1 - k))) := (by rw [hn1]; exact hck); have HW1 : Hid (w1 = wr.drewN n1) := hn1; have HR : Hid (∀ oa ob' oc od, Rep oa v → Rep ob' u → Rep oc x → Rep od y → Rep (mR oa ob' oc od) vr ∧ Rep (mI oa ob' oc od) vi) := hrep; clear hn1 hrep hck)
      go_roundw
      case rel =>
        obtain ⟨h1, h2⟩ := HR.out _ _ _ _ HV.out HU.out hx hy
        exact ⟨k + 1, _, _, _, by omega, by go_num, rfl, rep_ob h1 (rep_of hfk) _, h2, by rw [HW1.out, HW.out]; simp only [World.drewN_drewN]; rfl⟩
      case measure => simp [intOf]; omega
    · have hke : k = len := by omega
      subst hke
      clear hc hf
      go_wp2
      go_ret
      exact ⟨v, u, rfl, HV.out, HU.out, n, HW.out⟩

/-- a return of a point out of its box -/
theorem ret_one {fn : Func} {p : Tmp} {R : Ending → World → Prop} {a : Act} {w : World} {b x y : Nat} (h : fn.results = #[.cell p 25]) (hp : a.tmps.getD p undef = .pointer (some ⟨b, 0, none⟩)) (c : w.cell? ⟨b, 0, none⟩ = some (.float .f64 x) ∧ w.cell? ⟨b, 1, none⟩ = some (.float .f64 y)) (hd : a.defers = [])
    (hR : R (.returned (pt x y)) w) : bodyPost Try.prog fn R .ret a w := by
  refine bodyPost_ret ?_ hd hR
  have hp' : a.tmps[p]?.getD undef = .pointer (some ⟨b, 0, none⟩) := by simpa using hp
  simp [results, h, hp', asAddr, loadVar, go_sem, c.1, c.2]
/-- one cell of a box set -/
theorem Box.set0 {w : World} {b x y u : Nat} (h : Box w b x y) : Box (w.setCell ⟨b, 0, none⟩ (.float .f64 u)) b u y :=
  ⟨by simpa using h.lt, World.cell?_setCell_same _ _ _ h.c0, (World.cell?_setCell_other _ _ _ _ (by simp)).trans h.c1, by simpa using h.f0, by simpa using h.f1⟩
theorem Box.far0 {w : World} {b b' x y : Nat} {u : Value} (h : Box w b x y) (hn : b ≠ b') : Box (w.setCell ⟨b', 0, none⟩ u) b x y := by
  have e : (w.setCell ⟨b', 0, none⟩ u).heap[b]? = w.heap[b]? := Below.heap_setCell w ⟨b', 0, none⟩ u b hn
  exact ⟨by simpa using h.lt, (World.cell?_of_block (w := w) e).trans h.c0, (World.cell?_of_block (w := w) e).trans h.c1, (World.frozen?_of_block (w := w) e).trans h.f0, (World.frozen?_of_block (w := w) e).trans h.f1⟩
theorem Three.set {w w1 : World} {a b c d x y u v : Nat} (h : Three w w1 a b c d x y) : Three w ((w1.setCell ⟨w.heap.size + 1 + 1, 0, none⟩ (.float .f64 u)).setCell ⟨w.heap.size + 1 + 1, 1, none⟩ (.float .f64 v)) a b c d u v :=
  ⟨h.1.far (by omega), h.2.1.far (by omega), h.2.2.1.set, below_set3 h.2.2.2 _ _⟩
theorem Three.set0 {w w1 : World} {a b c d x y u : Nat} (h : Three w w1 a b c d x y) : Three w (w1.setCell ⟨w.heap.size + 1 + 1, 0, none⟩ (.float .f64 u)) a b c d u y :=
  ⟨h.1.far0 (by omega), h.2.1.far0 (by omega), h.2.2.1.set0, h.2.2.2.setCell (p := ⟨_, 0, none⟩) (by simp only; omega) _⟩

set_option maxHeartbeats 1000000 in
theorem l3At_any (a : Option Addr) (len cap : Nat) (f : Nat → Nat) (x y : Nat) (w : World) (h : FS w a len f) {ox oy : Option Nat} (hx : Rep ox x) (hy : Rep oy y) :
    Calls Try.prog 43 #[.slice a len cap, pt x y] w fun e w' => ∃ r i, e = .returned (pt r i) ∧ Rep (py f len ox oy len).1 r ∧ Rep (py f len ox oy len).2 i ∧ Below w.heap.size w w' := by
  have hadd := fun v y w => run_fl (P := Try.prog) .add (by simp) 22 v y w
  have hl := h.1
  have hf := h.2.1
  go_enter Try.func43, Try.ntmps43
  go_wp2
  have T0 := boxes3 (w := w) (a := x) (b := y) (c := 0) (d := 0) (x := 0) (y := 0) (s := 25) (t := 25) (u := 25) (Below.refl _ _)
  go_loopw [6] (fun i wr => ∃ k v u : Nat, k ≤ len ∧ i = .int .i64 ((len : Int) - 1 - (k : Int)) ∧ Rep (py f len ox oy k).1 v ∧ Rep (py f len ox oy k).2 u ∧ Three w wr x y 0 0 v u) (fun i _ => (intOf i + 1).toNat)
  case atStart => exact ⟨0, 0, 0, Nat.zero_le _, by simp, rep_of (by decide), rep_of (by decide), T0⟩
  case round =>
    obtain ⟨k, v, u, hk, rfl, hv, hu, hT⟩ := hrel
    have HV : Hid (Rep (py f len ox oy k).1 v) := hv
    have HU : Hid (Rep (py f len ox oy k).2 u) := hu
    obtain ⟨p0, p1, q0, q1, r0, r1, f0, f1, hs, hB⟩ := hT.c
    clear hv hu T0
    by_cases hlt : k < len
    · go_upto_region 5 with fail
      go_cut [] from 11 to 25 (fun wx => ∃ vr vi, Rep (mR (py f len ox oy k).1 (py f len ox oy k).2 ox oy) vr ∧ Rep (mI (py f len ox oy k).1 (py f len ox oy k).2 ox oy) vi ∧ Three w wx x y 0 0 vr vi)
      case first =>
        go_wp2_with fail
        refine (l3Mul_any v u x y _).mono ?_
        rintro e w1 ⟨vr, vi, rfl, hrep, hb1⟩
        have T1 := hT.next hb1
        clear hb1 p0 p1 q0 q1 r0 r1 f0 f1 hs hB hT
        obtain ⟨p0, p1, q0, q1, r0, r1, f0, f1, hs, hB⟩ := T1.c
        go_wp2_with fail
        go_meet
        case rel => exact ⟨vr, vi, (hrep _ _ _ _ HV.out HU.out hx hy).1, (hrep _ _ _ _ HV.out HU.out hx hy).2, T1.set⟩
      case rest =>
        clear p0 p1 q0 q1 r0 r1 f0 f1 hs hB hT HV HU
        obtain ⟨vr, vi, hvr, hvi, hT⟩ := hcut
        obtain ⟨p0, p1, q0, q1, r0, r1, f0, f1, hs, hB⟩ := hT.c
        obtain ⟨b, off, rfl, hbw, hcell⟩ := (h.below hB).2.2 (by omega)
        have hck := hcell (len - 1 - k) (by omega)
        have hfk := hf (len - 1 - k) (by omega)
        have HVR : Hid (Rep (mR (py f len ox oy k).1 (py f len ox oy k).2 ox oy) vr) := hvr
        have HVI : Hid (Rep (mI (py f len ox oy k).1 (py f len ox oy k).2 ox oy) vi) := hvi
        have HT : Hid (Three w wc x y 0 0 vr vi) := hT
        clear hvr hvi hT hcell
        have i0 : (0 : Int) ≤ (len : Int) - 1 - (k : Int) := by omega
        have i1 : (len : Int) - 1 - (k : Int) < (len : Int) := by omega
        go_upto_region 6 with fail
        go_region
        all_goals
          go_wp2
          exact ⟨⟨k + 1, _, _, by omega, by go_num, rep_ob HVR.out (rep_of hfk) _, HVI.out, (HT.out.next (below_dr (Below.refl _ _) _)).set0⟩, by simp [intOf]; omega⟩
    · have hke : k = len := by omega
      subst hke
      have g0 := hT.2.1.f0
      have g1 := hT.2.1.f1
      go_wp2
      (try simp only [Exit.inBlock, Exit.then])
      refine ret_one rfl rfl (set_two q0 q1) rfl ?_
      exact ⟨v, u, rfl, HV.out, HU.out, (hB.setCell (p := ⟨_, 0, none⟩) (by simp only; omega) _).setCell (p := ⟨_, 1, none⟩) (by simp only; omega) _⟩
end Go.Proofs.Ytgcnkecfdmafdaa
