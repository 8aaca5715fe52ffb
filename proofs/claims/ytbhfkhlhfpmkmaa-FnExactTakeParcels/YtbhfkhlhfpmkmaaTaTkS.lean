/- What is taken of parcels, as the model does it (tools/gen_tatk.py). -/
import Derived.Test.YtbhfkhlhfpmkmaaTaTkM
import Derived.Test.YtbhfkhlhfpmkmaaCwTwo
import Derived.Deep.Cut
namespace Go.Proofs.Ytbhfkhlhfpmkmaa
open Go.RowKit
set_option maxRecDepth 20000 in
set_option maxHeartbeats 2000000 in
theorem sTake (b n c : Nat) (f : Nat → Int) (a2 : Option Addr) (m c2 : Nat) (g : Nat → Int) (w : World) (hn : n ≤ 1048576) (hm : m ≤ 1048576) (h : IL w (some ⟨b, 0, none⟩) n f) (hg : IL w a2 (m * 2) g) :
    Calls Try.prog 27 #[.slice (some ⟨b, 0, none⟩) n c, .slice a2 m c2] w fun e w' => AnsTn w w' e (tkV n f m g) ∧ Below w.heap.size w w' := by
  obtain ⟨i0, hi, hzz⟩ := Option.map_eq_some_iff.1 infoI
  simp only [Prod.mk.injEq] at hzz
  obtain ⟨hz0, hz1, hz2⟩ := hzz
  by_cases h3 : 30 < n
  · have HA : Hid (AnsTn w w (.returned (.tuple #[.slice none 0 0, .int .i64 0])) (tkV n f m g)) := by
      have e : tkV n f m g = [] := if_neg (by omega)
      show AnsTn _ _ _ _
      rw [e]
      exact ⟨none, 0, rfl, lq_none _ _ _ _ _⟩
    have j : (30 : Int) < (n : Int) := by omega
    go_enter Try.func27, Try.ntmps27
    go_wp2
    go_ret2
    exact ⟨HA.out, Below.refl _ _⟩
  have j : ¬ (30 : Int) < (n : Int) := by omega
  have HV : Hid (tkV n f m g = tkK n f g m) := if_pos (by omega)
  have hnw := il_news (h.alloc (.cells #[] 3))
  have HL : Hid (∀ k, (tkK n f g k).length ≤ 30) := fun k => tkK_len f g (by omega) k
  have H0 : Hid (tkK n f g 0 = fnL n f) := rfl
  have HN : Hid (∀ k, tkK n f g (k + 1) = tkS (tkK n f g k) (g (k * 2)) (g (k * 2 + 1))) := fun _ => rfl
  go_enter Try.func27, Try.ntmps27
  go_upto_region 4 with (first | (at_builtin; refine wpList_append_own _ rfl _ _ 32 rfl w.heap.size 3 i0 (.int .i64 0) 1 8 Try.underlying32 hi hz0 hz1 hz2 rfl (by decide) _ _ _ rfl (own_new0 w w.heap.size (fun _ => 0) (Nat.le_refl _)) ⟨b, 0, none⟩ n c (vL f n) rfl (by rw [vL_len, Nat.mul_one]) hnw (vL_one f n) (by unfold maxLen; omega) (by omega) (by simp) ?_; intro v1 w1 hown1 hgrow1 _) | fail)
  have hO1 : Own w1 w.heap.size v1 n f := own_app0 hown1
  have hB1 : Below w.heap.size w w1 := ((Below.refl w.heap.size w).alloc (Nat.le_refl _) _).grown hgrow1 (by simp) (fun q hq => by simp [Value.ownBlock, Act.eval] at hq; omega)
  have hO1' : ∃ a c, v1 = .slice a (tkK n f g 0).length c ∧ Own w1 w.heap.size v1 (tkK n f g 0).length (gl (tkK n f g 0)) := by
    obtain ⟨sa, sc, rfl⟩ := hO1.shape
    rw [H0.out, fnL_len]
    exact ⟨sa, sc, rfl, own_cg hO1 fun i hi => (fnL_gl hi).symm⟩
  clear hown1 hgrow1 hnw hO1 h H0
  generalize tkK n f g = T at *
  obtain ⟨sa, sc, rfl, hO1⟩ := hO1'
  go_wp2_with fail
  go_loopw [6, 17] (fun v i wr => ∃ (k : Nat) (sa : Option Addr) (sc : Nat), k ≤ m ∧ i = .int .i64 (k : Int) ∧ v = .slice sa (T k).length sc ∧ Own wr w.heap.size v (T k).length (gl (T k)) ∧ Below w.heap.size w wr) (fun _ i _ => m - (intOf i).toNat)
  case atStart => exact ⟨0, sa, sc, Nat.zero_le _, rfl, rfl, hO1, hB1⟩
  case round =>
    obtain ⟨k, sa', sc', hk, rfl, rfl, hO, hB⟩ := hrel
    clear hO1 hB1
    by_cases hlt : k < m
    · obtain ⟨gb, go_, rfl, gl_, y0, y1⟩ := il_two (hg.below hB) hlt
      have j5 : (k : Int) < (m : Int) := by omega
      have HT := HN.out k
      have hl := HL.out k
      generalize hX : g (k * 2) = X at *
      generalize hY : g (k * 2 + 1) = Y at *
      generalize hT1 : T (k + 1) = T1 at HT
      generalize hTk : T k = Tk at *
      have b3 := bx_new (w := wr) [.int .i64 X, .int .i64 Y] 43 rfl
      have z0 := b3.c0
      have z1 := b3.c1
      have hBt : Below w.heap.size w (wr.alloc (.cells #[.int .i64 X, .int .i64 Y] 43)) := hB.alloc hB.size _
      have hOt := hO.below ((Below.refl wr.heap.size wr).alloc (Nat.le_refl _) (.cells #[.int .i64 X, .int .i64 Y] 43))
      clear b3
      have HHT : Hid (T1 = tkS Tk X Y) := HT
      have HTe : Hid (T (k + 1) = T1) := hT1
      clear HT hTk hX hY hT1
      by_cases hc : X = (Tk.length : Int) ∧ Tk.length < 30
      · have HT2 : Hid (T1 = Tk ++ [Y]) := by show T1 = _; rw [HHT.out, tkS, if_pos hc]
        have e1 : (X == (Tk.length : Int)) = true := by simp [hc.1]
        have e2 : (Tk.length : Int) < 30 := by omega
        clear HHT hc
        go_upto_region 7 with fail
        generalize wr.alloc (.cells #[.int .i64 X, .int .i64 Y] 43) = wt at *
        go_wp2_with (first | (at_builtin; refine wpList_append_own _ rfl _ _ 32 rfl w.heap.size 3 i0 (.int .i64 0) 1 8 Try.underlying32 hi hz0 hz1 hz2 rfl (by decide) _ _ _ rfl (hOt.below ((Below.refl _ _).alloc (Nat.le_refl _) _)) ⟨wt.heap.size, 0, none⟩ 1 1 [.int .i64 Y] rfl rfl (cell_one_new _ _ _) (fun y hy => by simp at hy; subst hy; rfl) (by unfold maxLen; omega) (by omega) (by have := hBt.size; rw [size_al]; omega) ?_; intro v2 w2 hown2 hgrow2 _) | fail)
        have hB2 : Below w.heap.size w w2 := (hBt.alloc hBt.size _).grown hgrow2 (by rw [size_al]; have := hBt.size; omega) (fun q hq => (World.ownsRow.lt hOt q hq).1)
        have hO2 := own_snoc hown2
        rw [← HT2.out, ← HTe.out] at hO2
        obtain ⟨sa2, sc2, rfl⟩ := hO2.shape
        exact ⟨⟨k + 1, sa2, sc2, by omega, by go_num, rfl, hO2, hB2⟩, by simp [intOf]; omega⟩
      · have HT2 : Hid (T1 = Tk) := by show T1 = _; rw [HHT.out, tkS, if_neg hc]
        clear HHT
        by_cases hx : X = (Tk.length : Int)
        · have e1 : (X == (Tk.length : Int)) = true := by simp [hx]
          have e2 : ¬ (Tk.length : Int) < 30 := by omega
          clear hx hc
          go_wp2
          refine ⟨⟨k + 1, sa', sc', by omega, by go_num, ?_, ?_, hBt⟩, by simp [intOf]; omega⟩
          · rw [HTe.out, HT2.out]
          · rw [HTe.out, HT2.out]; exact hOt
        · have e1 : (X == (Tk.length : Int)) = false := by simp [hx]
          clear hx hc
          go_wp2
          refine ⟨⟨k + 1, sa', sc', by omega, by go_num, ?_, ?_, hBt⟩, by simp [intOf]; omega⟩
          · rw [HTe.out, HT2.out]
          · rw [HTe.out, HT2.out]; exact hOt
    · have ek : k = m := by omega
      subst ek
      go_wp2
      go_ret2
      refine ⟨?_, hB⟩
      rw [HV.out]
      exact ansTn_own hO
end Go.Proofs.Ytbhfkhlhfpmkmaa
