/- Slices that are fine, as the law asks (tools/gen_pn9.py). -/
import Derived.Test.YtnadedncjbibhaaPnRkN
import Derived.Test.YtnadedncjbibhaaPnAtS
import Derived.BigRegion
import Derived.BigQuiet
import Derived.Deep.Cut
namespace Go.Proofs.Ytnadedncjbibhaa
open Go.RowKit
set_option maxRecDepth 20000 in
set_option maxHeartbeats 4000000 in
theorem sWaits (a b : Option Addr) (n c d K tt : Nat) (F f : Nat → Int) (s : Pl) (t : Nat) (w : World) (g : Gc n F) (hf : gfK f n = true) (p : Pk n F f s tt) (htt : tt ≤ 2000) (hw : ∀ k, k < n → (t : Int) < cmP F f s k) (h : IL w a (n * 3) F) (h2 : IL w b n f) (h3 : IP w K n (gtF F s)) :
    Calls Try.prog 39 #[.slice a n c, .slice b n d, .slice (some ⟨K, 0, none⟩) n n, .int .i64 (t : Int)] w fun e w' => e = .returned (.bool false) ∧ Below w.heap.size w w' := by
  have hn6 := g.six
  have HG : Hid (Gc n F) := g
  have Hf : Hid (gfK f n = true) := hf
  have HP : Hid (Pk n F f s tt) := p
  have HW : Hid (∀ k, k < n → (t : Int) < cmP F f s k) := hw
  clear g hf p hw
  go_enter Try.func39, Try.ntmps39
  go_wp2
  go_loopw [13] (fun i wr => ∃ k : Nat, k ≤ n ∧ i = .int .i64 (k : Int) ∧ Below w.heap.size w wr) (fun i _ => n - (intOf i).toNat)
  case atStart => exact ⟨0, Nat.zero_le _, rfl, Below.refl _ _⟩
  case round =>
    obtain ⟨k, hk, rfl, hB⟩ := hrel
    by_cases hlt : k < n
    · obtain ⟨gb, go_, ea, gl_, x0, x1, x2⟩ := il_three (h.below hB) hlt
      obtain ⟨fb, fo_, eb, fl_, hc⟩ := (h2.below hB) (by omega)
      have y0 := hc k hlt
      have hK := h3.below hB h3.lt
      have z0 := hK.c k hlt
      have zl := hK.lt
      have i0 : (0 : Int) ≤ (k : Int) := by omega
      have i1 : (k : Int) < (n : Int) := by omega
      have hq := gt_quo HG.out HP.out hlt
      have hbd := gt_bd HG.out HP.out hlt htt
      obtain ⟨c0, c1, c2, c3⟩ := cm_bd HG.out Hf.out HP.out htt hlt
      have n1 := HG.out.n1 k hlt
      have hcm := HW.out k hlt
      have HQ : Hid (gtF F s k / F (k * 3 + 1) = s.dn k) := hq
      unfold cmP at c0 c1 hcm
      subst ea
      subst eb
      clear hc hK HG Hf HP HW
      have hbt : Below wr.heap.size wr (wr.alloc (.cells #[.int .i64 (F (k * 3)), .int .i64 (F (k * 3 + 1)), .int .i64 (F (k * 3 + 2))] 69)) := (Below.refl _ _).alloc (Nat.le_refl _) _
      have b3 := bx_new (w := wr) [.int .i64 (F (k * 3)), .int .i64 (F (k * 3 + 1)), .int .i64 (F (k * 3 + 2))] 69 rfl
      have e0 := b3.c0
      have e1 := b3.c1
      have el := b3.lt
      have y1 := (hbt.cell (p := ⟨fb, _, none⟩) fl_).trans y0
      have z1 := (hbt.cell (p := ⟨K, _, none⟩) zl).trans z0
      have hB9 := stepA hB hbt
      rw [← hq] at c0 c1 c2 c3 hcm
      clear hq b3 hbt
      generalize gtF F s k = GT at *
      generalize F (k * 3) = P at *
      generalize F (k * 3 + 1) = N at *
      generalize F (k * 3 + 2) = D at *
      generalize f k = FK at *
      have hN0 : ¬ N = 0 := by omega
      have hg0 : 0 ≤ GT := hbd.1
      have qd := quo_bd (t := GT) (p := N) hg0 n1
      have hcm' : ¬ FK + GT / N * P ≤ (t : Int) := by omega
      go_upto_region 4 with fail
      clear x0 x1 x2 y0 z0
      generalize wr.alloc (.cells #[.int .i64 P, .int .i64 N, .int .i64 D] 69) = w9 at *
      go_region
      go_wp2
      go_roundw
      case rel => exact ⟨k + 1, by omega, by go_num, hB9.drew⟩
      case measure => simp [intOf]; omega
    · have e : k = n := by omega
      subst e
      have i1 : ¬ (k : Int) < (k : Int) := by omega
      go_wp2
      go_ret
      exact ⟨rfl, hB⟩
end Go.Proofs.Ytnadedncjbibhaa
