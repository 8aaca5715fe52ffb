/- Tolls added, as the program does it. -/
import Derived.Test.YtfciecoigfnnhaaQWyTlC
import Derived.Deep.Cut
import Derived.Test.YtfciecoigfnnhaaQWyKey
import Derived.Test.YtfciecoigfnnhaaQWyLeg
namespace Go.Proofs.Ytfciecoigfnnhaa
open Go.RowKit

theorem ret_toll {fn : Func} {t : Tmp} {R : Ending → World → Prop} {a : Act} {w : World} {b : Nat} {x y : Int} (h : fn.results = #[.cell t 88]) (hp : a.tmps.getD t undef = .pointer (some ⟨b, 0, none⟩)) (c : Bx w b [.int .i64 x, .int .i64 y]) (hd : a.defers = [])
    (hR : R (.returned (tl x y)) w) : bodyPost Try.prog fn R .ret a w := by
  refine bodyPost_ret ?_ hd hR
  have hp' : a.tmps[t]?.getD undef = .pointer (some ⟨b, 0, none⟩) := by simpa using hp
  simp [results, h, hp', asAddr, loadVar, go_sem, c.c0, c.c1]
theorem bSt {W w1 : World} {g : Nat} {u v : Value} (h : Below W.heap.size W w1) (hg : W.heap.size ≤ g) : Below W.heap.size W ((w1.setCell ⟨g, 0, none⟩ u).setCell ⟨g, 1, none⟩ v) := (h.setCell (p := ⟨g, 0, none⟩) hg _).setCell (p := ⟨g, 1, none⟩) hg _

set_option maxHeartbeats 1000000 in
theorem tplus_any (a b c d : Int) (w : World) (ha : 0 ≤ a ∧ a ≤ 1000000) (hb : 0 ≤ b ∧ b ≤ 1000000) (hc : 0 ≤ c ∧ c ≤ 1000000) (hd : 0 ≤ d ∧ d ≤ 1000000) :
    Calls Try.prog 52 #[tl a b, tl c d] w fun e w' => e = .returned (tl (a + c) (b + d)) ∧ Below w.heap.size w w' := by
  have hb0 : Below w.heap.size w (((w.alloc (.cells #[.int .i64 a, .int .i64 b] 88)).alloc (.cells #[.int .i64 c, .int .i64 d] 88)).alloc (.cells #[.int .i64 0, .int .i64 0] 88)) := (((Below.refl _ _).alloc (Nat.le_refl _) _).alloc (by simp) _).alloc (by simp <;> omega) _
  have bA := ((bx_new (w := w) [.int .i64 a, .int .i64 b] 88 rfl).alloc (.cells #[.int .i64 c, .int .i64 d] 88)).alloc (.cells #[.int .i64 0, .int .i64 0] 88)
  have bB := (bx_new (w := w.alloc (.cells #[.int .i64 a, .int .i64 b] 88)) (b := w.heap.size + 1) [.int .i64 c, .int .i64 d] 88 (by simp)).alloc (.cells #[.int .i64 0, .int .i64 0] 88)
  have bC := bx_new (w := (w.alloc (.cells #[.int .i64 a, .int .i64 b] 88)).alloc (.cells #[.int .i64 c, .int .i64 d] 88)) (b := w.heap.size + 1 + 1) [.int .i64 0, .int .i64 0] 88 (by simp)
  go_enter Try.func52, Try.ntmps52
  go_upto_region 1 with fail
  generalize ((w.alloc (.cells #[.int .i64 a, .int .i64 b] 88)).alloc (.cells #[.int .i64 c, .int .i64 d] 88)).alloc (.cells #[.int .i64 0, .int .i64 0] 88) = w1 at hb0 bA bB bC ⊢
  have x0 := bA.c0
  have x1 := bA.c1
  have y0 := bB.c0
  have y1 := bB.c1
  have s0 := bC.c0
  have s1 := bC.c1
  have f0 := bC.fz 0
  have f1 := bC.fz 1
  have LR := bC.lt
  have bE := ((bC.set 0 (by simp) (.int .i64 (a + c))).set 1 (by simp) (.int .i64 (b + d)))
  have hBE := bSt (g := w.heap.size + 1 + 1) (u := .int .i64 (a + c)) (v := .int .i64 (b + d)) hb0 (by omega)
  go_wp2
  refine ret_toll Try.results52 rfl bE rfl ?_
  exact ⟨rfl, hBE⟩
end Go.Proofs.Ytfciecoigfnnhaa

/- The cells around one, and itself, as the program lists them. -/
namespace Go.Proofs.Ytfciecoigfnnhaa
open Go.RowKit

def aqIn (W : Int) (n : Nat) (a : Int) (p : Nat) : Bool := hvB W (hgt W n) (a % W + arX p) (a / W + arY p)
/-- the cells around one and itself, of the first k places -/
def aqK (W : Int) (n : Nat) (a : Int) : Nat → List Int
  | 0 => []
  | p + 1 => if aqIn W n a p then aqK W n a p ++ [arV W a p] else aqK W n a p
theorem aqK_len (W : Int) (n : Nat) (a : Int) (k : Nat) : (aqK W n a k).length ≤ k := by
  induction k with
  | zero => simp [aqK]
  | succ k ih =>
    unfold aqK
    split
    · simp; omega
    · omega
theorem mem_aqK {W : Int} {n : Nat} {a v : Int} {k : Nat} : v ∈ aqK W n a k ↔ ∃ p, p < k ∧ aqIn W n a p = true ∧ v = arV W a p := by
  induction k with
  | zero => simp [aqK]
  | succ k ih =>
    unfold aqK
    constructor
    · intro h
      split at h
      · next e =>
        simp only [List.mem_append, List.mem_singleton] at h
        rcases h with h | h
        · obtain ⟨p, h1, h2, h3⟩ := ih.1 h
          exact ⟨p, by omega, h2, h3⟩
        · exact ⟨k, by omega, e, h⟩
      · obtain ⟨p, h1, h2, h3⟩ := ih.1 h
        exact ⟨p, by omega, h2, h3⟩
    · rintro ⟨p, h1, h2, h3⟩
      by_cases e : p = k
      · subst e
        rw [if_pos h2]
        simp [h3]
      · have := ih.2 ⟨p, by omega, h2, h3⟩
        split
        · simp [this]
        · exact this
theorem aqV_in {W : Int} {n : Nat} {a : Int} {p : Nat} (hs : sizedB W n = true) (h : aqIn W n a p = true) : 0 ≤ arV W a p ∧ arV W a p < (n : Int) := by
  have q := hvB_t h
  have r := idx_bd (hgt_mul hs).1 q
  unfold arV
  omega
theorem aq_all {W : Int} {n : Nat} {a : Int} (hs : sizedB W n = true) {v : Int} (h : v ∈ aqK W n a 9) : 0 ≤ v ∧ v < (n : Int) := by
  obtain ⟨p, _, h2, rfl⟩ := mem_aqK.1 h
  exact aqV_in hs h2
theorem aqV_lt {W : Int} {n : Nat} {a : Int} {p q : Nat} (hpq : p < q) (hp : aqIn W n a p = true) (hq : aqIn W n a q = true) : arV W a p < arV W a q := by
  have h1 := hvB_t hp
  have h2 := hvB_t hq
  unfold arV
  by_cases e : p / 3 = q / 3
  · have e2 : arY p = arY q := by unfold arY; rw [e]
    have e3 : arX p < arX q := by unfold arX; omega
    rw [e2]
    omega
  · have e2 : arY p + 1 ≤ arY q := by unfold arY; omega
    have m := Int.mul_le_mul_of_nonneg_right (show a / W + arY p + 1 ≤ a / W + arY q by omega) (show 0 ≤ W by omega)
    rw [Int.add_mul] at m
    omega
theorem aqK_sorted (W : Int) (n : Nat) (a : Int) (k : Nat) : (aqK W n a k).Pairwise (· < ·) := by
  induction k with
  | zero => simp [aqK]
  | succ k ih =>
    unfold aqK
    split
    · next e =>
      rw [List.pairwise_append]
      refine ⟨ih, by simp, fun x hx y hy => ?_⟩
      simp only [List.mem_singleton] at hy
      subst hy
      obtain ⟨p, h1, h2, rfl⟩ := mem_aqK.1 hx
      exact aqV_lt h1 h2 e
    · exact ih
theorem aq_rise {W : Int} {n : Nat} {a : Int} {p q : Nat} (hpq : p < q) (hq : q < (aqK W n a 9).length) : gl (aqK W n a 9) p < gl (aqK W n a 9) q := by
  have h := List.pairwise_iff_getElem.1 (aqK_sorted W n a 9) p q (by omega) hq hpq
  unfold gl
  rw [List.getD_eq_getElem?_getD, List.getD_eq_getElem?_getD, List.getElem?_eq_getElem (by omega), List.getElem?_eq_getElem hq]
  exact h
theorem aq_step {W : Int} {n : Nat} {f : Nat → Int} {a b : Int} (hs : sizedB W n = true) (h : stepV W n f a b ≠ 0) : b ∈ aqK W n a 9 := by
  obtain ⟨p, h1, h2, h3⟩ := step_in hs h
  simp only [arIn, Bool.and_eq_true] at h2
  exact mem_aqK.2 ⟨p, h1, h2.1, h3⟩

set_option maxRecDepth 20000 in
set_option maxHeartbeats 4000000 in
theorem around_any (W : Int) (q : Option Addr) (n c : Nat) (a : Int) (w : World) (hs : sizedB W n = true) (a0 : 0 ≤ a) (a1 : a < (n : Int)) :
    Calls Try.prog 102 #[gr W (hgt W n) q n c, .int .i64 a] w fun e w' => AnsL w w' e (aqK W n a 9) ∧ Below w.heap.size w w' := by
  obtain ⟨i0, hi, hzz⟩ := Option.map_eq_some_iff.1 infoI
  simp only [Prod.mk.injEq] at hzz
  obtain ⟨hz0, hz1, hz2⟩ := hzz
  have hm := hgt_mul hs
  have hW := sizedB_t hs
  obtain ⟨ax, ay⟩ := crd hs a0 a1
  have kp := fun w => place_in W (hgt W n) n a w hs a0 a1
  have hO0 := own_lit0 (w.alloc (.cells #[.int .i64 W, .int .i64 (hgt W n), .slice q n c] 73)) (w.heap.size + 1) (gl (aqK W n a 0)) (by simp)
  have bG := (bx_new (w := w) [.int .i64 W, .int .i64 (hgt W n), .slice q n c] 73 rfl).alloc (.cells #[] 3)
  have hB0 : Below w.heap.size w ((w.alloc (.cells #[.int .i64 W, .int .i64 (hgt W n), .slice q n c] 73)).alloc (.cells #[] 3)) := ((Below.refl _ _).alloc (Nat.le_refl _) _).alloc (by simp) _
  have hsz0 : ((w.alloc (.cells #[.int .i64 W, .int .i64 (hgt W n), .slice q n c] 73)).alloc (.cells #[] 3)).heap.size = w.heap.size + 2 := by simp
  rw [size_al] at hO0
  have step : Hid (∀ p, (aqIn W n a p = true → aqK W n a (p + 1) = aqK W n a p ++ [arV W a p]) ∧ (aqIn W n a p = false → aqK W n a (p + 1) = aqK W n a p)) := fun p => (⟨fun h => by simp [aqK, h], fun h => by simp [aqK, h]⟩ : _ ∧ _)
  have lens : Hid (∀ p, (aqK W n a p).length ≤ p) := fun p => aqK_len W n a p
  have inn : Hid (∀ p, aqIn W n a p = hvB W (hgt W n) (a % W + arX p) (a / W + arY p)) := fun p => (rfl : _ = _)
  have vv : Hid (∀ p, arV W a p = (a / W + arY p) * W + (a % W + arX p)) := fun p => (rfl : _ = _)
  have HH1 : Hid (hgt W n * W = (n : Int)) := hm.1
  have hn9 := sized_le hs
  generalize hgt W n = H at *
  generalize a % W = AX at *
  generalize a / W = AY at *
  go_enter Try.func102, Try.ntmps102
  go_upto_region 2 with fail
  have HO : Hid (Own ((w.alloc (.cells #[.int .i64 W, .int .i64 H, .slice q n c] 73)).alloc (.cells #[] 3)) (w.heap.size + 1) (.slice (some ⟨w.heap.size + 1, 0, none⟩) 0 0) 0 (gl (aqK W n a 0))) := hO0
  clear hO0
  generalize (w.alloc (.cells #[.int .i64 W, .int .i64 H, .slice q n c] 73)).alloc (.cells #[] 3) = w1 at *
  have x0 := bG.c0
  have x1 := bG.c1
  go_wp2_with fail
  refine (kp _).mono ?_
  rintro e9 w2 ⟨rfl, hb2⟩
  have HO2 : Hid (Own w2 (w.heap.size + 1) (.slice (some ⟨w.heap.size + 1, 0, none⟩) 0 0) 0 (gl (aqK W n a 0))) := HO.out.below hb2
  have bG2 := bG.on hb2
  have hB2 := stepA hB0 hb2
  have hs2 : w.heap.size + 2 ≤ w2.heap.size := by have := hb2.size; omega
  clear x0 x1 HO bG hB0 hb2 kp hsz0
  go_wp2
  go_loopw [5, 8] (fun v s wr => ∃ j : Nat, j ≤ 3 ∧ s = .int .i64 (AY + (j : Int) - 1) ∧ Own wr (w.heap.size + 1) v (aqK W n a (3 * j)).length (gl (aqK W n a (3 * j))) ∧ Below (w.heap.size + 1) w2 wr) (fun _ s _ => (AY + 3 - intOf s).toNat)
  case atStart => exact ⟨0, by omega, by congr 1; omega, HO2.out, Below.refl _ _⟩
  case round =>
    obtain ⟨j, hj, rfl, hown, hbel⟩ := hrel
    clear HO2
    obtain ⟨sa, sc, rfl⟩ := hown.shape
    have hBw := hB2.trans (hbel.mono (by omega))
    by_cases hlt : j < 3
    · have j1 : AY + (j : Int) - 1 ≤ AY + 1 := by omega
      go_wp2
      obtain ⟨w8, hw8⟩ : ∃ w8, w8 = wr := ⟨wr, rfl⟩
      subst hw8
      go_loopw [5, 9] (fun v s wr => ∃ i : Nat, i ≤ 3 ∧ s = .int .i64 (AX + (i : Int) - 1) ∧ Own wr (w.heap.size + 1) v (aqK W n a (3 * j + i)).length (gl (aqK W n a (3 * j + i))) ∧ Below (w.heap.size + 1) w2 wr) (fun _ s _ => (AX + 3 - intOf s).toNat)
      case atStart => exact ⟨0, by omega, by congr 1; omega, hown, hbel⟩
      case round =>
        obtain ⟨i, hi3, rfl, hown3, hbel3⟩ := hrel
        clear hown hbel
        obtain ⟨sa3, sc3, rfl⟩ := hown3.shape
        have hB3 := hB2.trans (hbel3.mono (by omega))
        by_cases hlt3 : i < 3
        · have i1 : AX + (i : Int) - 1 ≤ AX + 1 := by omega
          have eX : arX (3 * j + i) = (i : Int) - 1 := by unfold arX; omega
          have eY : arY (3 * j + i) = (j : Int) - 1 := by unfold arY; omega
          have st := step.out (3 * j + i)
          have ln := lens.out (3 * j + i)
          have e1 := inn.out (3 * j + i)
          have e2 := vv.out (3 * j + i)
          have xa : AX + arX (3 * j + i) = AX + (i : Int) - 1 := by omega
          have ya : AY + arY (3 * j + i) = AY + (j : Int) - 1 := by omega
          rw [xa, ya] at e1 e2
          have kh := fun w => have_any W H (AX + (i : Int) - 1) (AY + (j : Int) - 1) w
          have hvt : hvB W H (AX + (i : Int) - 1) (AY + (j : Int) - 1) = true → 0 ≤ AX + (i : Int) - 1 ∧ AX + (i : Int) - 1 < W ∧ 0 ≤ AY + (j : Int) - 1 ∧ AY + (j : Int) - 1 < H := hvB_t
          have hix : hvB W H (AX + (i : Int) - 1) (AY + (j : Int) - 1) = true → 0 ≤ (AY + (j : Int) - 1) * W ∧ (AY + (j : Int) - 1) * W + (AX + (i : Int) - 1) < (n : Int) := fun h => idx_bd HH1.out (hvB_t h)
          have HST : Hid _ := st
          have HVT : Hid _ := hvt
          have HIX : Hid _ := hix
          have HE2 : Hid _ := e2
          have kn := fun w h0 h1 h2 h3 => number_any W H (AX + (i : Int) - 1) (AY + (j : Int) - 1) w h0 h1 h2 h3
          rw [e1] at HST
          clear st e1 e2 xa ya eX eY hvt hix
          have bG3 := bG2.below hbel3 (by omega)
          have x0 := bG3.c0
          have x1 := bG3.c1
          have hbs : w.heap.size + 1 ≤ wr.heap.size := by have := hbel3.size; omega
          go_wp2_with fail
          refine (kh _).mono ?_
          rintro e9 w4 ⟨rfl, hb4⟩
          have hown4 := hown3.below hb4
          have hbel4 := hbel3.trans (hb4.mono hbs)
          have bG4 := bG3.on hb4
          have hbs4 : w.heap.size + 1 ≤ w4.heap.size := Nat.le_trans hbs hb4.size
          clear x0 x1 hown3 hbel3 bG3 kh hb4
          cases hv : hvB W H (AX + (i : Int) - 1) (AY + (j : Int) - 1) with
          | false =>
            have hp := HST.out.2 hv
            have HP : Hid _ := hp
            clear hp HST HVT HIX HE2 kn
            go_wp2
            exact ⟨⟨i + 1, by omega, by go_num, by rw [← Nat.add_assoc, HP.out]; exact hown4, hbel4⟩, by simp [intOf]; omega⟩
          | true =>
            have hp := HST.out.1 hv
            have hb1 := HVT.out hv
            have hb2 := HIX.out hv
            rw [HE2.out] at hp
            have HP : Hid _ := hp
            clear hp HST HVT HIX HE2
            have x0 := bG4.c0
            have x1 := bG4.c1
            go_wp2_with fail
            refine (kn _ hb2.1 (by omega) (by omega) (by omega)).mono ?_
            rintro e9 w5 ⟨rfl, hb5⟩
            have hown5 := hown4.below hb5
            have hbel5 := hbel4.trans (hb5.mono hbs4)
            have hbs5 : w.heap.size + 1 ≤ w5.heap.size := Nat.le_trans hbs4 hb5.size
            clear x0 x1 kn hown4 hbel4 bG4 hb5
            generalize (AY + (j : Int) - 1) * W + (AX + (i : Int) - 1) = V at *
            generalize aqK W n a (3 * j + i) = l at *
            go_wp2_with (at_builtin; refine wpList_append_own _ rfl _ _ 23 rfl (w.heap.size + 1) 3 i0 (.int .i64 0) 1 8 Try.underlying23 hi hz0 hz1 hz2 rfl (by decide) _ _ _ rfl (World.ownsRow.alloc hown5 _) ⟨w5.heap.size, 0, none⟩ 1 1 [.int .i64 V] rfl rfl (cell_one_new _ _ _) (fun x hx => by simp at hx; subst hx; rfl) (by unfold maxLen; omega) (by omega) (by simp; omega) ?_; intro v' w6 hown' hgrow6 _)
            have hB6 := (hbel5.alloc hbs5 (.cells #[.int .i64 V] 3)).grown hgrow6 (by simp; omega) (fun q hq => (World.ownsRow.lt hown5 q hq).1)
            exact ⟨⟨i + 1, by omega, by go_num, by rw [← Nat.add_assoc, HP.out]; exact own_snoc hown', hB6⟩, by simp [intOf]; omega⟩
        · have hie : i = 3 := by omega
          subst hie
          have i1 : ¬ AX + ((3 : Nat) : Int) - 1 ≤ AX + 1 := by omega
          go_wp2
          exact ⟨⟨j + 1, by omega, by go_num, hown3, hbel3⟩, by simp [intOf]; omega⟩
    · have hje : j = 3 := by omega
      subst hje
      have j1 : ¬ AY + ((3 : Nat) : Int) - 1 ≤ AY + 1 := by omega
      go_wp2
      go_ret
      exact ⟨ansL_own hown (by omega), hBw⟩
end Go.Proofs.Ytfciecoigfnnhaa
