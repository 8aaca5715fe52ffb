/- The sum of what the three parts tell. -/
import Derived.Test.YtnoaonflphameaaHdTell
import Derived.Deep.RegionWith
namespace Go.Proofs.Ytnoaonflphameaa
open Go.RowKit

/-- what is summed behind k parts -/
def accA (l : Lp) (h : Hd) (m : Int) : Nat → Int
  | 0 => 0
  | 1 => wrap64 (wrap64 (l.P * m))
  | 2 => wrap64 (wrap64 (wrap64 (l.P * m)) + wrap64 (l.I * sumI l h m))
  | _ => wrap64 (wrap64 (wrap64 (wrap64 (l.P * m)) + wrap64 (l.I * sumI l h m)) + wrap64 (l.D * chgI h m))
def accB (l : Lp) (h : Hd) (m : Int) : Nat → Int
  | 0 => 0
  | 1 => 0
  | _ => wrap64 (sumI l h m)
theorem mt0 (l : Lp) (w : World) : (method 132 96 (.agg #[.int .i64 l.P]) "loop.example/g00047/impl.tell").run Try.prog w = .ok (92, .agg #[.int .i64 l.P]) w := by kernel_rfl
theorem ix0 (l : Lp) (w : World) : (Instr.index 102 (.agg #[.iface 96 (.agg #[.int .i64 l.P]), .iface 98 (.agg #[.int .i64 l.I, .int .i64 l.W]), .iface 99 (.agg #[.int .i64 l.D])]) (.int .i64 0)).run Try.prog w = .ok (.iface 96 (.agg #[.int .i64 l.P])) w := by kernel_rfl
theorem mt1 (l : Lp) (w : World) : (method 132 98 (.agg #[.int .i64 l.I, .int .i64 l.W]) "loop.example/g00047/impl.tell").run Try.prog w = .ok (93, .agg #[.int .i64 l.I, .int .i64 l.W]) w := by kernel_rfl
theorem ix1 (l : Lp) (w : World) : (Instr.index 102 (.agg #[.iface 96 (.agg #[.int .i64 l.P]), .iface 98 (.agg #[.int .i64 l.I, .int .i64 l.W]), .iface 99 (.agg #[.int .i64 l.D])]) (.int .i64 1)).run Try.prog w = .ok (.iface 98 (.agg #[.int .i64 l.I, .int .i64 l.W])) w := by kernel_rfl
theorem mt2 (l : Lp) (w : World) : (method 132 99 (.agg #[.int .i64 l.D]) "loop.example/g00047/impl.tell").run Try.prog w = .ok (94, .agg #[.int .i64 l.D]) w := by kernel_rfl
theorem ix2 (l : Lp) (w : World) : (Instr.index 102 (.agg #[.iface 96 (.agg #[.int .i64 l.P]), .iface 98 (.agg #[.int .i64 l.I, .int .i64 l.W]), .iface 99 (.agg #[.int .i64 l.D])]) (.int .i64 2)).run Try.prog w = .ok (.iface 99 (.agg #[.int .i64 l.D])) w := by kernel_rfl

theorem ret_wound {fn : Func} {t : Tmp} {R : Ending → World → Prop} {a : Act} {w : World} {b : Nat} {x y : Int} (h : fn.results = #[.cell t 81]) (hp : a.tmps.getD t undef = .pointer (some ⟨b, 0, none⟩)) (c : Bx w b [.int .i64 x, .int .i64 y]) (hd : a.defers = [])
    (hR : R (.returned (wd x y)) w) : bodyPost Try.prog fn R .ret a w := by
  refine bodyPost_ret ?_ hd hR
  have hp' : a.tmps[t]?.getD undef = .pointer (some ⟨b, 0, none⟩) := by simpa using hp
  simp [results, h, hp', asAddr, loadVar, go_sem, c.c0, c.c1]

set_option maxHeartbeats 2000000 in
set_option maxRecDepth 20000 in
theorem told_acc (l : Lp) (h : Hd) (m : Int) (w : World) (g : goodH l h = true) (hm : -2000000 ≤ m ∧ m ≤ 2000000) :
    Calls Try.prog 46 #[lv l, hv h, .int .i64 m] w fun e w' => e = .returned (wd (accA l h m 3) (accB l h m 3)) ∧ Below w.heap.size w w' := by
  obtain ⟨z0, z1, hB0⟩ := boxes_lh l h w
  have z2 : Bx (((w.alloc (lvo l)).alloc (hvo h)).alloc (.cells #[.int .i64 0, .int .i64 0] 81)) (w.heap.size + 1 + 1) [.int .i64 0, .int .i64 0] := bx_new _ _ (by simp only [size_al])
  have z3 : Bx ((((w.alloc (lvo l)).alloc (hvo h)).alloc (.cells #[.int .i64 0, .int .i64 0] 81)).alloc (.cells #[.int .i64 0, .int .i64 0] 81)) (w.heap.size + 1 + 1 + 1) [.int .i64 0, .int .i64 0] := bx_new _ _ (by simp only [size_al])
  have y1 := (z1.alloc (.cells #[.int .i64 0, .int .i64 0] 81)).alloc (.cells #[.int .i64 0, .int .i64 0] 81)
  have y2 := z2.alloc (.cells #[.int .i64 0, .int .i64 0] 81)
  have hB1 : Below w.heap.size w ((((w.alloc (lvo l)).alloc (hvo h)).alloc (.cells #[.int .i64 0, .int .i64 0] 81)).alloc (.cells #[.int .i64 0, .int .i64 0] 81)) := (hB0.alloc (by simp only [size_al]; omega) _).alloc (by simp only [size_al]; omega) _
  have HB : Hid (Below w.heap.size w ((((w.alloc (lvo l)).alloc (hvo h)).alloc (.cells #[.int .i64 0, .int .i64 0] 81)).alloc (.cells #[.int .i64 0, .int .i64 0] 81))) := hB1
  clear z0 z1 z2 hB0 hB1
  obtain ⟨g1, g2, -⟩ := goodH_p g
  obtain ⟨gP, gI, gD, gS, gM, gW, gL⟩ := goodL_p g1
  clear g g1
  go_enter Try.func46, Try.ntmps46
  go_wp2_with fail
  go_loopw [26] (fun i wr => ∃ k : Int, (0 ≤ k ∧ k ≤ 3) ∧ i = .int .i64 k ∧ Bx wr (w.heap.size + 1) (hvs h) ∧ Bx wr (w.heap.size + 1 + 1) [.int .i64 0, .int .i64 0] ∧ Bx wr (w.heap.size + 1 + 1 + 1) [.int .i64 (accA l h m k.toNat), .int .i64 (accB l h m k.toNat)] ∧ Below w.heap.size w wr) (fun i _ => 3 - (intOf i).toNat)
  case atStart => exact ⟨0, by omega, rfl, y1, y2, z3, HB.out⟩
  case round =>
    obtain ⟨k, hk, rfl, b1, b2, b3', hB⟩ := hrel
    clear y1 y2 z3 HB
    rcases (by omega : k = 0 ∨ k = 1 ∨ k = 2 ∨ k = 3) with rfl | rfl | rfl | rfl
    · have b3 : Bx wr (w.heap.size + 1 + 1 + 1) [.int .i64 (0), .int .i64 (0)] := b3'
      clear b3' hk
      have mt := mt0 l
      have ix := ix0 l
      obtain ⟨q0, q1, q2, q3⟩ := hold_at b1
      have p0 := b3.c0
      have p1 := b3.c1
      go_wp2_with fail
      have hw0 := Below.refl wr.heap.size wr
      go_region_with (first | (go_at_call 92; refine (tellM_any l.P m h _).mono ?_; rintro e w1 ⟨rfl, hb1⟩; have hw1 := stepA hw0.drew hb1; clear hb1; have d0 := (b3.on hw1).c0; have d1 := (b3.on hw1).c1) | (go_at_call 72; refine (plusI_any 0 0 _ _).mono ?_; rintro e w2 ⟨rfl, hb2⟩; have hw2 := stepA hw1 hb2; clear hb2; have c0 := (b3.on hw2).c0; have c1 := (b3.on hw2).c1; have f0 := (b3.on hw2).fz 0; have f1 := (b3.on hw2).fz 1) | (fail))
      all_goals
        go_wp2
        exact ⟨⟨1, by omega, rfl, ((b1.on hw2).far _ (by omega)).far _ (by omega), ((b2.on hw2).far _ (by omega)).far _ (by omega), ((b3.on hw2).set 0 (by simp) _).set 1 (by simp) _, ((stepA hB hw2).setCell (p := ⟨_, 0, none⟩) (by simp; omega) _).setCell (p := ⟨_, 1, none⟩) (by simp; omega) _⟩, by simp [intOf]⟩
    · have b3 : Bx wr (w.heap.size + 1 + 1 + 1) [.int .i64 (wrap64 (wrap64 (l.P * m))), .int .i64 (0)] := b3'
      clear b3' hk
      have mt := mt1 l
      have ix := ix1 l
      generalize ea : wrap64 (wrap64 (l.P * m)) = a at b3
      have HE0 : Hid (wrap64 (wrap64 (l.P * m)) = a) := ea
      clear ea
      obtain ⟨q0, q1, q2, q3⟩ := hold_at b1
      have p0 := b3.c0
      have p1 := b3.c1
      go_wp2_with fail
      have hw0 := Below.refl wr.heap.size wr
      go_region_with (first | (go_at_call 93; refine (tellS_any l.I l.W m h _ gW (by omega) hm).mono ?_; rintro e w1 ⟨rfl, hb1⟩; have hw1 := stepA hw0.drew hb1; clear hb1; have d0 := (b3.on hw1).c0; have d1 := (b3.on hw1).c1) | (go_at_call 72; refine (plusW_any a 0 _ _ _).mono ?_; rintro e w2 ⟨rfl, hb2⟩; have hw2 := stepA hw1 hb2; clear hb2; have c0 := (b3.on hw2).c0; have c1 := (b3.on hw2).c1; have f0 := (b3.on hw2).fz 0; have f1 := (b3.on hw2).fz 1) | (fail))
      all_goals
        go_wp2
        have e0 := HE0.out
        subst e0
        exact ⟨⟨2, by omega, rfl, ((b1.on hw2).far _ (by omega)).far _ (by omega), ((b2.on hw2).far _ (by omega)).far _ (by omega), ((b3.on hw2).set 0 (by simp) _).set 1 (by simp) _, ((stepA hB hw2).setCell (p := ⟨_, 0, none⟩) (by simp; omega) _).setCell (p := ⟨_, 1, none⟩) (by simp; omega) _⟩, by simp [intOf]⟩
    · have b3 : Bx wr (w.heap.size + 1 + 1 + 1) [.int .i64 (wrap64 (wrap64 (wrap64 (l.P * m)) + wrap64 (l.I * sumI l h m))), .int .i64 (wrap64 (sumI l h m))] := b3'
      clear b3' hk
      have mt := mt2 l
      have ix := ix2 l
      generalize ea : wrap64 (wrap64 (wrap64 (l.P * m)) + wrap64 (l.I * sumI l h m)) = a at b3
      generalize eb : wrap64 (sumI l h m) = b at b3
      have HE0 : Hid (wrap64 (wrap64 (wrap64 (l.P * m)) + wrap64 (l.I * sumI l h m)) = a) := ea
      clear ea
      have HE1 : Hid (wrap64 (sumI l h m) = b) := eb
      clear eb
      obtain ⟨q0, q1, q2, q3⟩ := hold_at b1
      have p0 := b3.c0
      have p1 := b3.c1
      go_wp2_with fail
      have hw0 := Below.refl wr.heap.size wr
      go_region_with (first | (go_at_call 94; refine (tellC_any l.D m h _ g2.2.2 hm).mono ?_; rintro e w1 ⟨rfl, hb1⟩; have hw1 := stepA hw0.drew hb1; clear hb1; have d0 := (b3.on hw1).c0; have d1 := (b3.on hw1).c1) | (go_at_call 72; refine (plusI_any a b _ _).mono ?_; rintro e w2 ⟨rfl, hb2⟩; have hw2 := stepA hw1 hb2; clear hb2; have c0 := (b3.on hw2).c0; have c1 := (b3.on hw2).c1; have f0 := (b3.on hw2).fz 0; have f1 := (b3.on hw2).fz 1) | (fail))
      all_goals
        go_wp2
        have e0 := HE0.out
        subst e0
        have e1 := HE1.out
        subst e1
        exact ⟨⟨3, by omega, rfl, ((b1.on hw2).far _ (by omega)).far _ (by omega), ((b2.on hw2).far _ (by omega)).far _ (by omega), ((b3.on hw2).set 0 (by simp) _).set 1 (by simp) _, ((stepA hB hw2).setCell (p := ⟨_, 0, none⟩) (by simp; omega) _).setCell (p := ⟨_, 1, none⟩) (by simp; omega) _⟩, by simp [intOf]⟩
    · have b3 : Bx wr (w.heap.size + 1 + 1 + 1) [.int .i64 (wrap64 (wrap64 (wrap64 (wrap64 (l.P * m)) + wrap64 (l.I * sumI l h m)) + wrap64 (l.D * chgI h m))), .int .i64 (wrap64 (sumI l h m))] := b3'
      clear b3' hk
      generalize ea : wrap64 (wrap64 (wrap64 (wrap64 (l.P * m)) + wrap64 (l.I * sumI l h m)) + wrap64 (l.D * chgI h m)) = a at b3
      generalize eb : wrap64 (sumI l h m) = b at b3
      have HE0 : Hid (wrap64 (wrap64 (wrap64 (wrap64 (l.P * m)) + wrap64 (l.I * sumI l h m)) + wrap64 (l.D * chgI h m)) = a) := ea
      have HE1 : Hid (wrap64 (sumI l h m) = b) := eb
      clear ea eb
      have p0 := b3.c0
      have p1 := b3.c1
      have r0 := b2.c0
      have r1 := b2.c1
      have s0 := b2.fz 0
      have s1 := b2.fz 1
      go_wp2
      refine ret_wound rfl rfl ((b2.set 0 (by simp) _).set 1 (by simp) _) rfl ⟨?_, (hB.setCell (p := ⟨_, 0, none⟩) (by simp; omega) _).setCell (p := ⟨_, 1, none⟩) (by simp; omega) _⟩
      have e0 := HE0.out
      have e1 := HE1.out
      subst e0 e1
      rfl
theorem wrap_in {n : Int} (h0 : -9223372036854775808 ≤ n) (h1 : n ≤ 9223372036854775807) : wrap64 n = n := by unfold wrap64; omega
theorem wrap_wrap (n : Int) : wrap64 (wrap64 n) = wrap64 n := by unfold wrap64; omega
theorem told_any (l : Lp) (h : Hd) (m : Int) (w : World) (g : goodH l h = true) (hm : -2000000 ≤ m ∧ m ≤ 2000000) :
    Calls Try.prog 46 #[lv l, hv h, .int .i64 m] w fun e w' => e = .returned (wd (shrI l h m) (sumI l h m)) ∧ Below w.heap.size w w' := by
  have ea : accA l h m 3 = shrI l h m := by
    show wrap64 (wrap64 (wrap64 (wrap64 (l.P * m)) + wrap64 (l.I * sumI l h m)) + wrap64 (l.D * chgI h m)) = _
    unfold shrI
    rw [wrap_wrap]
  have eb : accB l h m 3 = sumI l h m := by
    show wrap64 (sumI l h m) = _
    obtain ⟨g1, -, -⟩ := goodH_p g
    obtain ⟨-, -, -, -, -, gW, -⟩ := goodL_p g1
    have := cut_in (n := h.sum + m) (lo := -l.W) (hi := l.W) (by omega)
    unfold sumI
    exact wrap_in (by omega) (by omega)
  rw [← ea, ← eb]
  exact told_acc l h m w g hm
end Go.Proofs.Ytnoaonflphameaa
