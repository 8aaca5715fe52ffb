/- The walk of the law on ReadWish. -/
import Derived.Test.YtmlfijapndkfhaaDoorQReSpA
namespace Go.Proofs.YtmlfijapndkfhaaDoor
open Go.RowKit
theorem AnsWr.len {w w' : World} {e : Ending} {r : Except (Nat × Int) WS} (h : AnsWr w w' e r) : (rdR r).length ≤ 6 ∧ (rdA r).length ≤ 6 := by
  rcases r with ⟨k, x⟩ | s
  · exact ⟨Nat.zero_le _, Nat.zero_le _⟩
  · obtain ⟨_, _, _, _, _, _, hok, _⟩ := h
    exact ⟨hok.r, hok.a⟩
set_option maxRecDepth 20000 in
set_option maxHeartbeats 8000000 in
theorem readAll (s : ByteArray) (a : Nat → Addr) (w : World) (hS : Se w a) (hT : U8 w) (hK : s.size ≤ 1048576 → Calls Tryd.prog 11 #[.string s] w fun e w' => AnsSr w' e (rwV s) ∧ Below w.heap.size w w') :
    Calls Tryd.prog 4 #[.string s] w fun e w' => e = .returned (.bool true) ∧ Below w.heap.size w w' := by
  by_cases hs : 1048576 < s.size
  · have hj : (1048576 : Int) < (s.size : Int) := by omega
    clear hS hT hK
    go_enter Tryd.func4, Tryd.ntmps4
    go_wp2
    go_ret
    exact ⟨rfl, Below.refl _ _⟩
  · have hj : ¬ (1048576 : Int) < (s.size : Int) := by omega
    have HS : Hid (Se w a) := hS
    have HT : Hid (U8 w) := hT
    have k1 := hK (by omega)
    have KI : Hid (∀ w, Se w a → U8 w → Calls Tryd.prog 8 #[.string s] w fun e w' => AnsWr w w' e (rwV s) ∧ Below w.heap.size w w') := fun w h1 h2 => iRead s a w h1 h2
    generalize rwV s = V at *
    clear hS hT hK
    go_enter Tryd.func4, Tryd.ntmps4
    go_wp2_with fail
    refine k1.mono ?_
    rintro e w1 ⟨⟨ra, rc, aa, ac, rfl, s1, s2⟩, hb1⟩
    clear k1
    have hA : Below w1.heap.size w1 (w1.alloc (.cells #[.slice ra (rdR V).length rc, .slice aa (rdA V).length ac, .int .i64 (rdK V), .int .i64 (rdX V)] 30)) := (Below.refl _ _).alloc (Nat.le_refl _) _
    have z1 := bx_new (w := w1) [.slice ra (rdR V).length rc, .slice aa (rdA V).length ac, .int .i64 (rdK V), .int .i64 (rdX V)] 30 rfl
    have t1 := s1.below hA
    have t2 := s2.below hA
    have hB2 := hb1.trans (hA.mono hb1.size)
    clear s1 s2 hb1 hA
    go_upto_region 4 with fail
    generalize w1.alloc (.cells #[.slice ra (rdR V).length rc, .slice aa (rdA V).length ac, .int .i64 (rdK V), .int .i64 (rdX V)] 30) = w2 at *
    have hl1 := z1.lt
    have k2 := KI.out w2 (HS.out.on hB2) (HT.out.below hB2)
    go_wp2_with fail
    refine k2.mono ?_
    rintro e w3 ⟨hQ, hb3⟩
    clear k2
    obtain ⟨hn, hm⟩ := hQ.len
    obtain ⟨ga, gc, ha, hc, rfl, hWQ⟩ := hQ.wq hb3.size
    clear hQ
    generalize hNR : (rdR V).length = n at *
    generalize hNA : (rdA V).length = m at *
    generalize hFR : gS (rdR V) = F at *
    generalize hFA : gS (rdA V) = G at *
    generalize hKK : rdK V = K at *
    generalize hXX : rdX V = X at *
    have HV : Hid ((rdR V).length = n ∧ (rdA V).length = m ∧ gS (rdR V) = F ∧ gS (rdA V) = G ∧ rdK V = K ∧ rdX V = X) := ⟨hNR, hNA, hFR, hFA, hKK, hXX⟩
    clear hNR hNA hFR hFA hKK hXX
    have hn1 : n ≤ 1048576 := by omega
    have hm1 : m ≤ 1048576 := by omega
    have hA4 : Below w3.heap.size w3 (w3.alloc (.cells #[.slice ga n gc, .slice ha m hc, .int .i64 K, .int .i64 X] 30)) := (Below.refl _ _).alloc (Nat.le_refl _) _
    have z4 := bx_new (w := w3) [.slice ga n gc, .slice ha m hc, .int .i64 K, .int .i64 X] 30 rfl
    have hWQ4 := hWQ.on hA4
    have hB24 := hb3.trans (hA4.mono hb3.size)
    have z14 := z1.on hB24
    have U1 : Hid (SL w2 ra n F) := t1
    have U2 : Hid (SL w2 aa m G) := t2
    have t14 := t1.below hB24
    have t24 := t2.below hB24
    have h34 := hA4.size
    have h23 := hb3.size
    clear hWQ hA4 hb3 z1 t1 t2
    go_upto_region 5 with fail
    generalize w3.alloc (.cells #[.slice ga n gc, .slice ha m hc, .int .i64 K, .int .i64 X] 30) = w4 at *
    have x0 := z14.c0
    have x1 := z14.c1
    have x2 := z14.c2
    have x3 := z14.c3
    have y0 := z4.c0
    have y1 := z4.c1
    have y2 := z4.c2
    have y3 := z4.c3
    go_wp2_with fail
    refine (eqWr ga ha ra aa n m gc hc rc ac K X F G w4 hn1 hm1 hWQ4.sl1 hWQ4.sl2 t14 t24).mono ?_
    rintro e w5 ⟨rfl, hb5⟩
    have z45 := z4.on hb5
    have z15 := z14.on hb5
    have hB25 := hB24.trans (hb5.mono hB24.size)
    have hWQ5 := hWQ4.on hb5
    have hB5 := stepA (hB2.trans (hB24.mono hB2.size)) hb5
    have h45 := hb5.size
    clear x0 x1 x2 x3 y0 y1 y2 y3 hb5 hWQ4 t14 t24 z14 z4 hB24
    have y0 := z45.c0
    have y1 := z45.c1
    have y2 := z45.c2
    have y3 := z45.c3
    obtain ⟨M, hM, hM0⟩ : ∃ M : Int, ((1 + n + m : Nat) : Int) = M ∧ 0 ≤ M := ⟨_, rfl, by omega⟩
    have kM := markWr ga ha n gc m hc w2.heap.size w3.heap.size K X F G w5 hn1 hm1 (by omega) hWQ5
    have KH : Hid (∀ w, SL w ga n (fun i => mkT (1 + i)) → SL w ha m (fun i => mkT (1 + n + i)) → Calls Tryd.prog 14 #[wrd ga n gc ha m hc K X, .int .i64 1] w fun e w' => e = .returned (.int .i64 M) ∧ Below w.heap.size w w') := fun w h1 h2 => by
      have := heldWr ga ha n gc m hc K X w hn1 hm1 h1 h2
      rw [hM] at this
      exact this
    rw [hM] at kM
    clear hM
    go_wp2_with fail
    refine kM.mono ?_
    rintro e w6 ⟨rfl, ⟨m1, m2⟩, hT6⟩
    have z46 := z45.turns hT6 (by omega)
    have z16 := z15.turns hT6 (by omega)
    have hB26 : Below w2.heap.size w2 w6 := hB25.trans (hT6.below (Nat.le_refl _) hB25.size)
    have hB6 := hB5.trans (hT6.below hB2.size hB5.size)
    clear kM y0 y1 y2 y3 z45 z15 hT6 hWQ5 hB5 hB25
    have n0 : ¬ M < 0 := by omega
    have n1 : (M != M) = false := by simp
    have y0 := z46.c0
    have y1 := z46.c1
    have y2 := z46.c2
    have y3 := z46.c3
    go_wp2_with fail
    refine (KH.out w6 m1 m2).mono ?_
    rintro e w7 ⟨rfl, hb7⟩
    have z47 := z46.on hb7
    have z17 := z16.on hb7
    have q1 := m1.below hb7
    have q2 := m2.below hb7
    have hB27 := hB26.trans (hb7.mono hB26.size)
    have hB7 := stepA hB6 hb7
    clear y0 y1 y2 y3 hb7 z46 z16 m1 m2 hB26 hB6
    have k8 := KI.out w7 (HS.out.on hB7) (HT.out.below hB7)
    go_wp2_with fail
    refine k8.mono ?_
    rintro e w8 ⟨hQ, hb8⟩
    clear k8
    obtain ⟨ja, jc, oa, oc, rfl, hWQ⟩ := hQ.wq hb8.size
    clear hQ
    obtain ⟨rfl, rfl, rfl, rfl, rfl, rfl⟩ := HV.out
    clear HV
    generalize (rdR V).length = n at *
    generalize (rdA V).length = m at *
    generalize gS (rdR V) = F at *
    generalize gS (rdA V) = G at *
    generalize rdK V = K at *
    generalize rdX V = X at *
    have hA9 : Below w8.heap.size w8 (w8.alloc (.cells #[.slice ja n jc, .slice oa m oc, .int .i64 K, .int .i64 X] 30)) := (Below.refl _ _).alloc (Nat.le_refl _) _
    have z7 := bx_new (w := w8) [.slice ja n jc, .slice oa m oc, .int .i64 K, .int .i64 X] 30 rfl
    have hWQ9 := hWQ.on hA9
    have hB79 := hb8.trans (hA9.mono hb8.size)
    have z49 := z47.on hB79
    have z19 := z17.on hB79
    have q19 := q1.below hB79
    have q29 := q2.below hB79
    have hB29 := hB27.trans (hB79.mono hB27.size)
    have hB9 := stepA hB7 hB79
    clear hWQ hA9 hb8 hB79 z47 z17 q1 q2 hB27 hB7
    go_upto_region 16 with fail
    generalize w8.alloc (.cells #[.slice ja n jc, .slice oa m oc, .int .i64 K, .int .i64 X] 30) = w9 at *
    have x0 := z19.c0
    have x1 := z19.c1
    have x2 := z19.c2
    have x3 := z19.c3
    have y0 := z7.c0
    have y1 := z7.c1
    have y2 := z7.c2
    have y3 := z7.c3
    go_wp2_with fail
    refine (eqWr ja oa ra aa n m jc oc rc ac K X F G w9 hn1 hm1 hWQ9.sl1 hWQ9.sl2 (U1.out.below hB29) (U2.out.below hB29)).mono ?_
    rintro e w10 ⟨rfl, hb10⟩
    have z410 := z49.on hb10
    have p1 := q19.below hb10
    have p2 := q29.below hb10
    have hB10 := stepA hB9 hb10
    clear x0 x1 x2 x3 y0 y1 y2 y3 hb10 z7 z19 z49 hWQ9 q19 q29 hB29 hB9
    have y0 := z410.c0
    have y1 := z410.c1
    have y2 := z410.c2
    have y3 := z410.c3
    go_wp2_with fail
    refine (KH.out w10 p1 p2).mono ?_
    rintro e w11 ⟨rfl, hb11⟩
    have hB11 := stepA hB10 hb11
    clear y0 y1 y2 y3 hb11 z410 p1 p2 hB10
    go_wp2
    go_ret
    exact ⟨rfl, hB11⟩
end Go.Proofs.YtmlfijapndkfhaaDoor
