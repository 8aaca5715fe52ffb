/- The next cell of the least list: the walk. -/
import Derived.Test.YtfciecoigfnnhaaQWyNxt
import Derived.BigRegion
import Derived.Deep.RegionHeld
import Derived.Deep.RegionHeld3
import Derived.BigQuiet
namespace Go.Proofs.Ytfciecoigfnnhaa
open Go.RowKit

set_option maxHeartbeats 8000000 in
set_option maxRecDepth 20000 in
theorem nextFrom_any (W H : Int) (q : Option Addr) (n c Tb Mb : Nat) (pv : Option Addr) (cv : Nat) (f : Nat → Int) (st : Nat → Nat → Int) (A B TA TB : Nat → Int) (tt i : Nat) (w : World) (hsz : sizedB W n = true) (hHe : H = hgt W n) (hst0 : st = stN W n f) (hf : IL w q n f) (hT : IP w Tb (n * 2) (f2 TA TB)) (hD : Dst st n tt A B) (hag : ∀ i, i < n → 0 ≤ A i → TA i = A i ∧ TB i = B i) (hi : i < n) (h0 : 0 ≤ A i) (ht : tt < n) :
    Calls Try.prog 81 #[srA W H q n c Tb Mb pv cv, .int .i64 (i : Int)] w fun e w' => AnsN st n A B tt i e ∧ Below w.heap.size w w' := by
  have hn2 := sized_le hsz
  have hb0 : Below w.heap.size w (w.alloc (.cells #[.int .i64 W, .int .i64 H, .slice q n c, .slice (some ⟨Tb, 0, none⟩) n n, .map (some Mb), .slice pv 0 cv] 83)) := (Below.refl _ _).alloc (Nat.le_refl _) _
  have bX := bx_new (w := w) [.int .i64 W, .int .i64 H, .slice q n c, .slice (some ⟨Tb, 0, none⟩) n n, .map (some Mb), .slice pv 0 cv] 83 rfl
  have ka := fun w => around_any W q n c (i : Int) w hsz (by omega) (by omega)
  rw [← hHe] at ka
  have HL1 : Hid (∀ v, v ∈ aqK W n (i : Int) 9 → 0 ≤ v ∧ v < (n : Int)) := fun v hv => aq_all hsz hv
  have HL2 : Hid (∀ k : Nat, k < n → st i k ≠ 0 → (k : Int) ∈ aqK W n (i : Int) 9) := fun k _ hs => aq_step hsz (by rw [hst0] at hs; exact hs)
  have HL4 : Hid (∀ p q, p < q → q < (aqK W n (i : Int) 9).length → gl (aqK W n (i : Int) 9) p < gl (aqK W n (i : Int) 9) q) := fun p q h1 h2 => aq_rise h1 h2
  have hl9 := aqK_len W n (i : Int) 9
  generalize aqK W n (i : Int) 9 = l at *
  have ks0 := fun a b w h => stepToll_any W q n c f a b w hsz h
  rw [← hHe] at ks0
  have hst : Hid (∀ k : Nat, stepV W n f (i : Int) (k : Int) = st i k) := fun k => (by rw [hst0]; rfl : _ = _)
  have hst2 : Hid (∀ i k, st i k = 0 ∨ st i k = 1 ∨ st i k = 2) := fun i k => (by rw [hst0]; exact stN_in W n f i k : _ ∨ _ ∨ _)
  have hsy : Hid (∀ a b, st a b = st b a) := fun a b => (by rw [hst0]; exact stN_sy W n f a b : _ = _)
  have hlt0 : Hid (∀ i k, st i k ≠ 0 → i < n ∧ k < n) := fun i k hs => (by rw [hst0] at hs; exact stN_lt W n f i k hs : _ ∧ _)
  have HD : Hid (Dst st n tt A B) := hD
  have HAG : Hid (∀ i, i < n → 0 ≤ A i → TA i = A i ∧ TB i = B i) := hag
  have H0 : Hid (0 ≤ A i) := h0
  have HF : Hid (IL w q n f) := hf
  have HT : Hid (IP w Tb (n * 2) (f2 TA TB)) := hT
  have LTw := hT.lt
  clear hHe hst0 hD hag hf hT h0
  have x0 := bX.c0
  have x1 := bX.c1
  have x2 := bX.c2
  go_enter Try.func81, Try.ntmps81
  go_wp2_with fail
  refine (ka _).mono ?_
  rintro e9 w6 ⟨⟨la, lc, rfl, hLQ⟩, hb6⟩
  have b6 := bX.on hb6
  have hB6 := stepA hb0 hb6
  have HF6 : Hid (IL w6 q n f) := IL.below HF.out hB6
  have HT6 : Hid (IP w6 Tb (n * 2) (f2 TA TB)) := IP.below HT.out hB6 LTw
  have HB6 : Hid (Below w.heap.size w w6) := hB6
  have HLQ : Hid (LQ w6 0 w6.heap.size la l.length (gl l)) := fun h => (by
    obtain ⟨b, e1, _, e3, e4⟩ := hLQ h
    exact ⟨b, e1, Nat.zero_le _, e3, e4⟩ : _)
  have HBX : Hid (Bx w6 w.heap.size [.int .i64 W, .int .i64 H, .slice q n c, .slice (some ⟨Tb, 0, none⟩) n n, .map (some Mb), .slice pv 0 cv]) := b6
  have HS6 : Hid (w.heap.size < w6.heap.size ∧ Tb < w6.heap.size) := ⟨b6.lt, IP.lt HT6.out⟩
  clear hLQ hb6 hB6 b6 bX hb0 x0 x1 x2 ka HF HT LTw
  go_wp2
  go_loopw [15] (fun s wr => ∃ j : Nat, j ≤ l.length ∧ s = .int .i64 (j : Int) ∧ Below w6.heap.size w6 wr ∧ (∀ t, t < j → okB st A B i (gl l t).toNat = false)) (fun s _ => l.length - (intOf s).toNat)
  case atStart => exact ⟨0, by omega, rfl, Below.refl _ _, fun t ht => by omega⟩
  case round =>
    obtain ⟨j, hj, rfl, hB, hno⟩ := hrel
    have HBW : Hid (Below w6.heap.size w6 wr) := hB
    have HNO : Hid (∀ t, t < j → okB st A B i (gl l t).toNat = false) := hno
    have hsz6 := hB.size
    clear hno
    by_cases hlt : j < l.length
    · obtain ⟨lb, rfl, _, hlb, hPl0⟩ := HLQ.out (by omega)
      have hPl := hPl0.below hB hlb
      have hv := HL1.out (gl l j) (gl_mem2 hlt)
      obtain ⟨k, hkv⟩ := Int.eq_ofNat_of_zero_le hv.1
      have hkn : k < n := by omega
      have g0 := hPl.c j hlt
      rw [hkv] at g0
      have j9 : (j : Int) < (l.length : Int) := by omega
      have j8 : (0 : Int) ≤ (j : Int) := by omega
      have bXr := Bx.on HBX.out hB
      have s0 := bXr.c0
      have s1 := bXr.c1
      have s2 := bXr.c2
      have hFr := IL.below HF6.out hB
      have ks := fun w h => ks0 (i : Int) (k : Int) w h
      rw [hst.out k] at ks
      have HKV : Hid (gl l j = (k : Int)) := hkv
      have HBR : Hid (Bx wr w.heap.size [.int .i64 W, .int .i64 H, .slice q n c, .slice (some ⟨Tb, 0, none⟩) n n, .map (some Mb), .slice pv 0 cv]) := bXr
      have HTR : Hid (IP wr Tb (n * 2) (f2 TA TB)) := IP.below HT6.out hB (And.right HS6.out)
      have hv1 : 0 ≤ stA (st i k) ∧ stA (st i k) ≤ 1 := by unfold stA; split <;> omega
      have hv2 : 0 ≤ stC (st i k) ∧ stC (st i k) ≤ 1 := by unfold stC; split <;> omega
      have HTL : Hid (decide (st i k ≠ 0) = true → 0 ≤ A k ∧ okB st A B i k = (decide (A k + stA (st i k) = A i) && decide (B k + stC (st i k) = B i))) := fun h => (okB_toll HD.out hsy.out hst2.out hlt0.out hi H0.out hkn (of_decide_eq_true h) : _ ∧ _)
      have HTN : Hid (decide (st i k ≠ 0) = false → okB st A B i k = false) := fun h => (by
        have h2 : st i k = 0 := by simpa using h
        simp [okB, h2] : _ = _)
      clear bXr hPl hkv hv hB
      generalize stA (st i k) = va at *
      generalize stC (st i k) = vb at *
      generalize decide (st i k ≠ 0) = vq at *
      go_wp2_with fail
      refine (ks _ hFr).mono ?_
      rintro e9 w7 ⟨rfl, hb7⟩
      have b7 := Bx.on HBR.out hb7
      have t7 := IP.below HTR.out hb7 (IP.lt HTR.out)
      have HB7 : Hid (Below w6.heap.size w6 (w7.alloc (.cells #[.int .i64 va, .int .i64 vb] 88))) := stepA (stepA HBW.out hb7) (al_keep w7 _)
      have b8 := b7.alloc (.cells #[.int .i64 va, .int .i64 vb] 88)
      have t8 := t7.below (al_keep w7 (.cells #[.int .i64 va, .int .i64 vb] 88)) t7.lt
      have n8 := bx_new (w := w7) [.int .i64 va, .int .i64 vb] 88 rfl
      clear HBR HTR b7 t7 s0 s1 s2 g0 hFr ks hb7
      have hnx : Hid (okB st A B i k = false → ∀ t, t < j + 1 → okB st A B i (gl l t).toNat = false) := fun h t ht => (by
        by_cases e : t < j
        · exact HNO.out t e
        · have e2 : t = j := by omega
          subst e2
          rw [HKV.out, Int.toNat_natCast]
          exact h : _ = _)
      cases vq with
      | false =>
        have hok := HTN.out rfl
        have HNN : Hid (∀ t, t < j + 1 → okB st A B i (gl l t).toNat = false) := hnx.out hok
        clear b8 t8 n8 hnx hok HTL HTN
        go_upto_region 5 with fail
        generalize w7.alloc (.cells #[.int .i64 va, .int .i64 vb] 88) = w8 at *
        go_quiet (fail)
        have HB9 : Hid (Below w6.heap.size w6 (w8.drewN nq)) := below_drewN HB7.out nq
        go_wp2
        exact ⟨⟨j + 1, by omega, by go_num, HB9.out, HNN.out⟩, by simp [intOf]; omega⟩
      | true =>
        have hok := HTL.out rfl
        have hAk := (HD.out : Dst st n tt A B).bnd k hkn hok.1
        have hAi := (HD.out : Dst st n tt A B).bnd i hi H0.out
        have ek := HAG.out k hkn hok.1
        have ei := HAG.out i hi H0.out
        have t0 := t8.c (k * 2) (by omega)
        have t1 := t8.c (k * 2 + 1) (by omega)
        have t2 := t8.c (i * 2) (by omega)
        have t3 := t8.c (i * 2 + 1) (by omega)
        rw [f2_0] at t0 t2
        rw [f2_1] at t1 t3
        rw [ek.1] at t0
        rw [ek.2] at t1
        rw [ei.1] at t2
        rw [ei.2] at t3
        have kpl := fun w => tplus_any (A k) (B k) va vb w (by omega) (by omega) (by omega) (by omega)
        have keq := fun w => eq_toll (A k + va) (B k + vb) (A i) (B i) w
        have HOK : Hid (okB st A B i k = (decide (A k + va = A i) && decide (B k + vb = B i))) := hok.2
        have x3 := b8.c3
        have n0 := n8.c0
        have n1 := n8.c1
        have LX := b8.lt
        have LT := t8.lt
        have LN := n8.lt
        clear HTL HTN hok ek ei hAk hAi
        generalize (decide (A k + va = A i) && decide (B k + vb = B i)) = r at *
        generalize A k + va = pa at *
        generalize B k + vb = pb at *
        generalize A k = ak at *
        generalize B k = bk at *
        generalize hai : A i = ai at *
        generalize hbi : B i = bi at *
        have k0 : (0 : Int) ≤ (k : Int) := by omega
        have k1 : (k : Int) < (n : Int) := by omega
        have i0 : (0 : Int) ≤ (i : Int) := by omega
        have i1 : (i : Int) < (n : Int) := by omega
        clear hai hbi b8 t8 n8
        go_upto_region 5 with fail
        generalize w7.alloc (.cells #[.int .i64 va, .int .i64 vb] 88) = w8 at *
        have hw0 := Below.refl w8.heap.size w8
        go_region_held3 (fun w' => w'.cell? ⟨w.heap.size, 3, none⟩ = some (.slice (some ⟨Tb, 0, none⟩) n n) ∧ w'.cell? ⟨Tb, k * 2, none⟩ = some (.int .i64 ak) ∧ w'.cell? ⟨Tb, k * 2 + 1, none⟩ = some (.int .i64 bk) ∧ w'.cell? ⟨Tb, i * 2, none⟩ = some (.int .i64 ai) ∧ w'.cell? ⟨Tb, i * 2 + 1, none⟩ = some (.int .i64 bi) ∧ w'.cell? ⟨w7.heap.size, 0, none⟩ = some (.int .i64 va) ∧ w'.cell? ⟨w7.heap.size, 1, none⟩ = some (.int .i64 vb))
          (first | (exact ⟨(Below.cell (p := ⟨w.heap.size, 3, none⟩) hw0.drew LX).trans x3, (Below.cell (p := ⟨Tb, k * 2, none⟩) hw0.drew LT).trans t0, (Below.cell (p := ⟨Tb, k * 2 + 1, none⟩) hw0.drew LT).trans t1, (Below.cell (p := ⟨Tb, i * 2, none⟩) hw0.drew LT).trans t2, (Below.cell (p := ⟨Tb, i * 2 + 1, none⟩) hw0.drew LT).trans t3, (Below.cell (p := ⟨w7.heap.size, 0, none⟩) hw0.drew LN).trans n0, (Below.cell (p := ⟨w7.heap.size, 1, none⟩) hw0.drew LN).trans n1⟩) | (exact ⟨(Below.cell (p := ⟨w.heap.size, 3, none⟩) hw1 LX).trans x3, (Below.cell (p := ⟨Tb, k * 2, none⟩) hw1 LT).trans t0, (Below.cell (p := ⟨Tb, k * 2 + 1, none⟩) hw1 LT).trans t1, (Below.cell (p := ⟨Tb, i * 2, none⟩) hw1 LT).trans t2, (Below.cell (p := ⟨Tb, i * 2 + 1, none⟩) hw1 LT).trans t3, (Below.cell (p := ⟨w7.heap.size, 0, none⟩) hw1 LN).trans n0, (Below.cell (p := ⟨w7.heap.size, 1, none⟩) hw1 LN).trans n1⟩) | (fail))
          (first | (go_at_call 52; refine (kpl _).mono ?_; rintro e9 w9 ⟨rfl, hb9⟩; have hw1 := stepA hw0.drew hb9; clear hb9) | (fail))
        have B9 := stepA HB7.out hw1
        have HB9 : Hid (Below w6.heap.size w6 w9) := B9
        have HBE : Hid (Below w.heap.size w w9) := Below.trans HB6.out (B9.mono (Nat.le_of_lt (And.left HS6.out)))
        clear t0 t1 t2 t3 x3 n0 n1 B9 hw1
        cases r with
        | false =>
          have HNN : Hid (∀ t, t < j + 1 → okB st A B i (gl l t).toNat = false) := hnx.out HOK.out
          clear hnx HOK
          go_wp2
          exact ⟨⟨j + 1, by omega, by go_num, HB9.out, HNN.out⟩, by simp [intOf]; omega⟩
        | true =>
          have HE : Hid (AnsN st n A B tt i (.returned (.tuple #[.int .i64 (k : Int), .bool true]))) := ansN_yes HD.out hlt0.out ht hkn HL2.out HL4.out HNO.out hlt HKV.out HOK.out
          clear hnx HOK
          go_wp2
          go_ret2
          exact ⟨HE.out, HBE.out⟩
    · have hje : j = l.length := by omega
      have j9 : ¬ (j : Int) < (l.length : Int) := by omega
      have HE : Hid (AnsN st n A B tt i (.returned (.tuple #[.int .i64 0, .bool false]))) := ansN_no HD.out hlt0.out hi H0.out HL2.out (fun t ht => HNO.out t (by omega))
      have HBE : Hid (Below w.heap.size w wr) := Below.trans HB6.out (hB.mono (Nat.le_of_lt (And.left HS6.out)))
      clear hB hje HNO
      go_wp2
      go_ret2
      exact ⟨HE.out, HBE.out⟩
end Go.Proofs.Ytfciecoigfnnhaa
