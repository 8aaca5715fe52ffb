/- readWish, walked. -/
import Derived.Test.YtmlfijapndkfhaaDoorQReTa
import Derived.Test.YtmlfijapndkfhaaDoorQReTi
import Derived.Laws.ResultCell
import Derived.Stop.IfaceNil
namespace Go.Proofs.YtmlfijapndkfhaaDoor
open Go.RowKit
theorem ret_wish {fn : Func} {t t2 : Tmp} {R : Ending → World → Prop} {a : Act} {w : World} {b : Nat} {u v : Value} (h : fn.results = #[.cell t 25, .tmp t2]) (hp : a.tmps.getD t undef = .pointer (some ⟨b, 0, none⟩)) (c0 : w.cell? ⟨b, 0, none⟩ = some u) (c1 : w.cell? ⟨b, 1, none⟩ = some v) (hd : a.defers = [])
    (hR : R (.returned (.tuple #[.agg #[u, v], a.tmps.getD t2 undef])) w) : bodyPost Tryd.prog fn R .ret a w := by
  refine bodyPost_ret ?_ hd hR
  rw [results_cell_tmp h, hp]
  simp [asAddr, loadVar, go_sem, c0, c1]
theorem oddR_le (f : Nat → Int) (n : Nat) : ∀ q i r, i ≤ n + 4 → (oddR f n q i r).1 ≤ n
  | 0, _, _, _ => by unfold oddR; simp only; omega
  | q + 1, i, r, h => by
    unfold oddR
    split
    · split
      · simp only; omega
      · have := rnK_le f n i
        exact oddR_le f n q _ _ (by omega)
    · simp only; omega
theorem oddU_le (f : Nat → Int) (n : Nat) : (oddU f n 0 0).1 ≤ n := oddR_le f n _ 0 0 (by omega)
theorem tk_mem {s : ByteArray} : ∀ q i, s.size - i ≤ q → ∀ x ∈ tks s i, x.1 < s.size ∧ x.2.size ≤ s.size
  | 0, i, h, x, hx => by rw [tks_end (by omega)] at hx; cases hx
  | q + 1, i, h, x, hx => by
    by_cases c : i < s.size
    · by_cases b : bt s i = 32
      · rw [tks_sp c b] at hx
        exact tk_mem q (i + 1) (by omega) x hx
      · rw [tks_tok c b] at hx
        rcases List.mem_cons.1 hx with rfl | hx
        · refine ⟨c, ?_⟩
          simp only [ByteArray.size_extract]
          omega
        · have := enK_gt c b
          exact tk_mem q (enK s i) (by omega) x hx
    · rw [tks_end c] at hx; cases hx
/-- what readWish tells -/
def AnsRd (w w' : World) (e : Ending) (a : Nat → Addr) (r : Except (Nat × Int) WS) : Prop :=
  match r with
  | .error (k, x) => e = .returned (.tuple #[.agg #[.slice none 0 0, .slice none 0 0], atB x (a k)]) ∧ 1 ≤ k ∧ k ≤ 5
  | .ok s' => ∃ ra rc aa ac, e = .returned (.tuple #[.agg #[.slice ra s'.R.length rc, .slice aa s'.A.length ac], .nilIface]) ∧ (OrS w' w.heap.size (.slice ra s'.R.length rc) s'.R ∧ OrS w' w.heap.size (.slice aa s'.A.length ac) s'.A) ∧ WsOk s' ∧ ∀ q, (Value.slice ra s'.R.length rc).ownBlock = some q → (Value.slice aa s'.A.length ac).ownBlock ≠ some q
theorem OrS.low {w : World} {base base' : Nat} {v : Value} {l : List ByteArray} (h : OrS w base v l) (hb : base' ≤ base) : OrS w base' v l := by
  obtain ⟨hl, h0 | ⟨g, cap, cur, h1, h2, h3, h4⟩⟩ := h
  · exact ⟨hl, .inl h0⟩
  · exact ⟨hl, .inr ⟨g, cap, cur, h1, Nat.le_trans hb h2, h3, h4⟩⟩
set_option maxHeartbeats 2000000 in
set_option maxHeartbeats 2000000 in
set_option maxHeartbeats 2000000 in
set_option maxHeartbeats 2000000 in
set_option maxHeartbeats 2000000 in
theorem rw_long (s : ByteArray) (a : Nat → Addr) (w : World) (hS : Se w a) (h : 200 < s.size) :
    Calls Tryd.prog 22 #[.string s] w fun e w' => AnsRd w w' e a (rwV s) ∧ Below w.heap.size w w' := by
  have hj : (200 : Int) < (s.size : Int) := by omega
  have hA : Below w.heap.size w (w.alloc (.cells #[.slice none 0 0, .slice none 0 0] 25)) := (Below.refl _ _).alloc (Nat.le_refl _) _
  have bR := bx_new (w := w) [.slice none 0 0, .slice none 0 0] 25 rfl
  have hS1 := hS.on hA
  have hSl := hS.l
  have hV : rwV s = .error (5, 0) := by unfold rwV; rw [if_pos h]
  rw [hV]
  go_enter Tryd.func22, Tryd.ntmps22
  go_upto_region 1 with fail
  generalize w.alloc (.cells #[.slice none 0 0, .slice none 0 0] 25) = w1 at *
  have ge := hS1.c5
  have n1 : ¬ w.heap.size = 0 := by have := hSl; omega
  have n2 : ¬ 0 = w.heap.size := by have := hSl; omega
  have y0 := bR.c0
  have y1 := bR.c1
  have f0 := bR.fz 0
  have f1 := bR.fz 1
  have yl := bR.lt
  have hO9 := ((Only.refl w.heap.size w1).set 0 (.slice none 0 0)).set 1 (.slice none 0 0)
  have rE := ((bR.set 0 (by simp) (.slice none 0 0)).set 1 (by simp) (.slice none 0 0)).on (Below.refl _ _).drew
  have hB9 := (hA.trans hO9.below).drew
  clear hO9
  go_upto_region 2 with fail
  go_region
  go_wp2
  refine ret_wish Tryd.results22 rfl rE.c0 rE.c1 rfl ?_
  exact ⟨⟨rfl, by decide, by decide⟩, hB9⟩
set_option maxRecDepth 20000 in
set_option maxHeartbeats 8000000 in
theorem rw_short (s : ByteArray) (a : Nat → Addr) (w : World) (hS : Se w a) (hT : U8 w) (h : s.size ≤ 200) :
    Calls Tryd.prog 22 #[.string s] w fun e w' => AnsRd w w' e a (rwV s) ∧ Below w.heap.size w w' := by
  have hj : ¬ (200 : Int) < (s.size : Int) := by omega
  have hA : Below w.heap.size w (w.alloc (.cells #[.slice none 0 0, .slice none 0 0] 25)) := (Below.refl _ _).alloc (Nat.le_refl _) _
  have bR := bx_new (w := w) [.slice none 0 0, .slice none 0 0] 25 rfl
  have hS1 := hS.on hA
  have hSl := hS.l
  obtain ⟨V, hV⟩ : ∃ V, rwV s = V := ⟨_, rfl⟩
  rw [hV]
  have HV : Hid (wsL s.size (tks s 0) ⟨0, [], []⟩ = V) := by rw [← hV]; unfold rwV; rw [if_neg (by omega)]; exact rfl
  have HM : Hid (∀ x ∈ tks s 0, x.1 < s.size ∧ x.2.size ≤ s.size) := tk_mem _ 0 (Nat.le_refl _)
  have HL : Hid ((tks s 0).length ≤ 200) := by have := tk_len (s := s) _ 0 (Nat.le_refl _); show _ ≤ _; omega
  obtain ⟨l0, hl0⟩ : ∃ l0, l0 = tks s 0 := ⟨_, rfl⟩
  rw [← hl0] at HM HL HV
  have HX : Hid (l0 = tks s 0) := hl0
  clear hV hl0
  go_enter Tryd.func22, Tryd.ntmps22
  go_upto_region 1 with fail
  generalize w.alloc (.cells #[.slice none 0 0, .slice none 0 0] 25) = w1 at *
  have hA2 : Below w1.heap.size w1 (w1.alloc (.cells #[.slice none 0 0, .slice none 0 0, .string ⟨#[]⟩] 78)) := (Below.refl _ _).alloc (Nat.le_refl _) _
  have bD := bx_new (w := w1) [.slice none 0 0, .slice none 0 0, .string ⟨#[]⟩] 78 rfl
  have hs12 := bR.lt
  go_upto_region 4 with fail
  generalize w1.alloc (.cells #[.slice none 0 0, .slice none 0 0, .string ⟨#[]⟩] 78) = w2 at *
  have kT := iTokens s w2 h
  rw [← HX.out] at kT
  clear HX
  go_wp2_with fail
  refine kT.mono ?_
  rintro e w3 ⟨⟨ta, tc, rfl, hQ⟩, hb3⟩
  clear kT
  have hRD0 : Rd w3 w1.heap.size w3.heap.size ⟨0, [], []⟩ none 0 none 0 := ⟨⟨Nat.lt_of_lt_of_le bD.lt hb3.size, Nat.le_refl _⟩, bD.on hb3, World.ownsRow_nil _ _ _ _, World.ownsRow_nil _ _ _ _, fun q hq => by cases hq⟩
  have HRD : Hid (∃ ra rc aa ac, Rd w3 w1.heap.size w3.heap.size ⟨0, [], []⟩ ra rc aa ac) := ⟨_, _, _, _, hRD0⟩
  have HBR : Hid (Bx w3 w.heap.size [.slice none 0 0, .slice none 0 0]) := (bR.on hA2).on hb3
  have HW : Hid (Below w.heap.size w w3) := hA.trans ((hA2.mono (Nat.le_of_lt hs12)).trans (hb3.mono (by have := bD.lt; omega)))
  have HQ : Hid (TQ w3 w2.heap.size ta l0) := hQ
  have hD2 : w1.heap.size < w2.heap.size := bD.lt
  have HK : Hid (Kb w1.heap.size w3.heap.size w3 w3) := Kb.refl _ _ _
  have HO : Hid (WsOk ⟨0, [], []⟩) := ws0
  have HE : Hid (wsL s.size (l0.drop 0) ⟨0, [], []⟩ = V) := HV.out
  have hB13 : w1.heap.size < w3.heap.size := Nat.lt_of_lt_of_le bD.lt hb3.size
  have HS : Hid (Se w a) := hS
  have HT : Hid (U8 w) := hT
  clear hA bR hS1 hA2 bD hb3 hQ hRD0 hS hT HV
  generalize w1.heap.size = D at *
  generalize hb0 : w3.heap.size = b0 at *
  have HB0 : Hid (w3.heap.size = b0) := hb0
  clear hb0
  go_wp2
  go_loopw [20] (fun i wr => ∃ (j : Nat) (st : WS), j ≤ l0.length ∧ i = .int .i64 (j : Int) ∧ Hid (∃ ra rc aa ac, Rd wr D b0 st ra rc aa ac) ∧ Hid (Bx wr w.heap.size [.slice none 0 0, .slice none 0 0]) ∧ Hid (Below w.heap.size w wr) ∧ Hid (Kb D b0 w3 wr) ∧ Hid (WsOk st) ∧ Hid (wsL s.size (l0.drop j) st = V)) (fun i _ => l0.length - (intOf i).toNat)
  case atStart => exact ⟨0, ⟨0, [], []⟩, Nat.zero_le _, rfl, HRD, HBR, HW, HK, HO, HE⟩
  case round =>
    obtain ⟨j, st, hjl, rfl, HRr, HBr, HWr, HKr, HOr, HEr⟩ := hrel
    clear HRD HBR HW HK HO HE
    obtain ⟨wM, rfl⟩ : ∃ x, x = wr := ⟨wr, rfl⟩
    obtain ⟨ra, rc, aa, ac, hRd⟩ := HRr.out
    clear HRr
    by_cases hlt : j < l0.length
    · have j0 : (0 : Int) ≤ (j : Int) := by omega
      have j1 : (j : Int) < (l0.length : Int) := by omega
      obtain ⟨tb, rfl, htl, htc⟩ := HQ.out (by omega)
      obtain ⟨x0, x1⟩ := htc j _ (List.getElem?_eq_getElem hlt)
      obtain ⟨hq1, hq2⟩ := HM.out _ (List.getElem_mem hlt)
      have hdr := List.drop_eq_getElem_cons hlt
      have hE := HEr.out
      rw [hdr] at hE
      clear htc hdr
      obtain ⟨q, hq⟩ : ∃ q, q = l0[j] := ⟨_, rfl⟩
      rw [← hq] at x0 x1 hq1 hq2 hE
      obtain ⟨at', t⟩ := q
      simp only at x0 x1 hq1 hq2
      clear hq HEr
      have htn : tb ≠ D ∧ tb < b0 := ⟨fun e => by omega, by rw [← HB0.out]; exact htl.2⟩
      have hblk := HKr.out.block tb htn.2 htn.1
      have v0 := (cell_same hblk (j * 2)).trans x0
      have v1 := (cell_same hblk (j * 2 + 1)).trans x1
      have vl : tb < wM.heap.size := Nat.lt_of_lt_of_le htl.2 HKr.out.size
      have h1 : Below wM.heap.size wM (wM.alloc (.cells #[.int .i64 (at' : Int), .string t] 82)) := (Below.refl _ _).alloc (Nat.le_refl _) _
      have bT := bx_new (w := wM) [.int .i64 (at' : Int), .string t] 82 rfl
      have hW1 := HWr.out.trans (h1.mono HWr.out.size)
      have hBR1 := HBr.out.on h1
      have hRd1 := hRd.on h1
      have hK1 : Kb D b0 w3 (wM.alloc (.cells #[.int .i64 (at' : Int), .string t] 82)) := HKr.out.more h1 hRd.lb.2
      have hTl : D < wM.heap.size := by have := hRd.lb; omega
      go_upto_region 7 with fail
      generalize wM.alloc (.cells #[.int .i64 (at' : Int), .string t] 82) = w4 at *
      clear x0 x1 v0 v1 vl h1 hRd HBr HWr HKr hblk
      generalize wM.heap.size = TB at *
      have z0 := bT.c0
      have z1 := bT.c1
      have zl := bT.lt
      have kS := iStray t w4 (HT.out.below hW1)
      have hle := oddU_le (bt t) t.size
      have hsg := oddU_sign (bt t) t.size 0 0
      have HTk := fun w5 ra rc aa ac hR hSe ho => iTake w5 D b0 st ra rc aa ac a t at' hSe HOr.out hR (by omega) ho
      have HEQ : Hid ((match wsT (at', t) st with | .error e => .error e | .ok s' => wsL s.size (l0.drop (j + 1)) s') = V) := hE
      have HWT : Hid (0 ≤ (oddU (bt t) t.size 0 0).1 → wsT (at', t) st = .error (3, (at' : Int) + (oddU (bt t) t.size 0 0).1)) := fun h0 => by unfold wsT; simp only; rw [if_pos h0]
      clear hE
      generalize (oddU (bt t) t.size 0 0).1 = O at *
      go_wp2_with fail
      refine kS.mono ?_
      rintro e w5 ⟨rfl, hb5⟩
      have hW5 := hW1.trans (hb5.mono hW1.size)
      have hBR5 := hBR1.on hb5
      have hRd5 := hRd1.on hb5
      have hK5 := hK1.more hb5 hRd1.lb.2
      have bT5 := bT.on hb5
      have hS5 := HS.out.on hW5
      clear kS hb5 hW1 hBR1 hRd1 hK1 bT z0 z1 zl
      by_cases hO : 0 ≤ O
      · have c1 : (O != -1) = true := by simp; omega
        have hv := HEQ.out
        rw [HWT.out hO] at hv
        subst hv
        have ge := hS5.c3
        have n1 : ¬ w.heap.size = 1 := by have := hSl; omega
        have n2 : ¬ 1 = w.heap.size := by have := hSl; omega
        have y0 := hBR5.c0
        have y1 := hBR5.c1
        have f0 := hBR5.fz 0
        have f1 := hBR5.fz 1
        have yl := hBR5.lt
        have z0 := bT5.c0
        have zl := bT5.lt
        have n3 : ¬ TB = w.heap.size := by omega
        have n4 : ¬ w.heap.size = TB := by omega
        have i0 : 0 ≤ (at' : Int) := by omega
        clear HTk HEQ HWT hRd5 hK5
        have hO9 := ((Only.refl w.heap.size w5).set 0 (.slice none 0 0)).set 1 (.slice none 0 0)
        have rE := ((hBR5.set 0 (by simp) (.slice none 0 0)).set 1 (by simp) (.slice none 0 0)).on (Below.refl _ _).drew
        have hB9 := (hW5.trans hO9.below).drew
        clear hO9
        go_upto_region 9 with fail
        go_region
        go_wp2
        refine ret_wish Tryd.results22 rfl rE.c0 rE.c1 rfl ?_
        exact ⟨⟨rfl, by decide, by decide⟩, hB9⟩
      · have hO1 : O = -1 := by omega
        subst hO1
        have z1 := bT5.c1
        have zl := bT5.lt
        have kT := HTk w5 ra rc aa ac hRd5 hS5 (by omega)
        clear HTk HWT
        have hwt := fun s' => wsT_ok (q := (at', t)) (s' := s') HOr.out
        have HEQ : Hid ((match wsT (at', t) st with | .error e => .error e | .ok s' => wsL s.size (l0.drop (j + 1)) s') = V) := HEQ
        generalize wsT (at', t) st = r at *
        go_wp2_with fail
        refine kT.mono ?_
        rintro e w6 ⟨hA6, hb6⟩
        have hB6 := hb6.below hRd5.lb.1
        have hW6 := hW5.trans (hB6.mono (by omega))
        have hBR6 := hBR5.below hB6 (by omega)
        have hK6 := hK5.join hb6
        have hS6 := HS.out.on hW6
        clear kT z1 zl
        match r, hA6, HEQ, hwt with
        | .error (k, x), hA6, HEQ, hwt =>
          obtain ⟨rfl, hk15, rfl, hb6'⟩ := hA6
          have hv : (.error (k, (at' : Int)) : Except (Nat × Int) WS) = V := HEQ.out
          subst hv
          have bT6 := bT5.on hb6'
          have hne := run_neq_iface_nil (P := Tryd.prog) w6 50 (by kernel_rfl) 142 (.pointer (some (a k)))
          have y0 := hBR6.c0
          have y1 := hBR6.c1
          have f0 := hBR6.fz 0
          have f1 := hBR6.fz 1
          have yl := hBR6.lt
          have z0 := bT6.c0
          have zl := bT6.lt
          have n3 : ¬ TB = w.heap.size := by omega
          have n4 : ¬ w.heap.size = TB := by omega
          clear HEQ hRd5 hK5 hBR5 bT5 bT6 hb6 hb6' hwt
          have hO9 := ((Only.refl w.heap.size w6).set 0 (.slice none 0 0)).set 1 (.slice none 0 0)
          have rE := ((hBR6.set 0 (by simp) (.slice none 0 0)).set 1 (by simp) (.slice none 0 0)).on (Below.refl _ _).drew
          have hB9 := (hW6.trans hO9.below).drew
          clear hO9
          go_upto_region 12 with fail
          go_region
          go_wp2
          refine ret_wish Tryd.results22 rfl rE.c0 rE.c1 rfl ?_
          exact ⟨⟨rfl, hk15⟩, hB9⟩
        | .ok s', hA6, HEQ, hwt =>
          obtain ⟨rfl, ra', rc', aa', ac', hRd6⟩ := hA6
          have HRD6 : Hid (∃ ra rc aa ac, Rd w6 D b0 s' ra rc aa ac) := ⟨_, _, _, _, hRd6⟩
          have HBR6 : Hid (Bx w6 w.heap.size [.slice none 0 0, .slice none 0 0]) := hBR6
          have HW6 : Hid (Below w.heap.size w w6) := hW6
          have HK6 : Hid (Kb D b0 w3 w6) := hK6
          have HO6 : Hid (WsOk s') := hwt _ rfl
          have HE6 : Hid (wsL s.size (l0.drop (j + 1)) s' = V) := HEQ.out
          have hne := run_neq_nil_nil_at (P := Tryd.prog) w6 50 (by kernel_rfl)
          clear hRd6 hBR6 hW6 hK6 hwt HEQ hRd5 hK5 hBR5 bT5 hb6 hB6 hS6 hS5 hW5
          have hL := HL.out
          go_wp2
          go_roundw
          case rel => exact ⟨j + 1, s', by omega, by go_num, HRD6, HBR6, HW6, HK6, HO6, HE6⟩
          case measure => simp [intOf]; omega
    · have hjn : j = l0.length := by omega
      have j1 : ¬ (j : Int) < (l0.length : Int) := by omega
      have hE := HEr.out
      rw [List.drop_eq_nil_of_le (by omega)] at hE
      unfold wsL at hE
      have kL := iLacks wM D st ra rc aa ac HOr.out.p hRd.bx
      have hSM := HS.out.on HWr.out
      have hBM := HBr.out
      have hWM := HWr.out
      have hOk := HOr.out
      clear HEr HS HBr HWr HOr HQ HM
      by_cases hm : st.many = 0
      · rw [if_pos hm] at hE
        subst hE
        rw [decide_eq_true hm] at kL
        go_wp2_with fail
        refine kL.mono ?_
        rintro e w5 ⟨rfl, hw⟩
        have hs := hw.symm
        clear hw kL
        subst hs
        clear hRd hm hOk
        have ge := hSM.c2
        have n1 : ¬ w.heap.size = 2 := by have := hSl; omega
        have n2 : ¬ 2 = w.heap.size := by have := hSl; omega
        have y0 := hBM.c0
        have y1 := hBM.c1
        have f0 := hBM.fz 0
        have f1 := hBM.fz 1
        have yl := hBM.lt
        have hO9 := ((Only.refl w.heap.size wM).set 0 (.slice none 0 0)).set 1 (.slice none 0 0)
        have rE := ((hBM.set 0 (by simp) (.slice none 0 0)).set 1 (by simp) (.slice none 0 0)).on (Below.refl _ _).drew
        have hB9 := (hWM.trans hO9.below).drew
        clear hO9
        go_upto_region 15 with fail
        go_region
        go_wp2
        refine ret_wish Tryd.results22 rfl rE.c0 rE.c1 rfl ?_
        exact ⟨⟨rfl, by decide, by decide⟩, hB9⟩
      · rw [if_neg hm] at hE
        subst hE
        rw [decide_eq_false hm] at kL
        have y0 := hRd.bx.c0
        have y1 := hRd.bx.c1
        have yl := hRd.bx.lt
        have f0 := hBM.fz 0
        have f1 := hBM.fz 1
        have zl := hBM.lt
        have x0 := hBM.c0
        have x1 := hBM.c1
        have n1 : ¬ w.heap.size = D := by omega
        have n2 : ¬ D = w.heap.size := by omega
        have hO9 := ((Only.refl w.heap.size wM).set 0 (.slice ra st.R.length rc)).set 1 (.slice aa st.A.length ac)
        have rE := (hBM.set 0 (by simp) (.slice ra st.R.length rc)).set 1 (by simp) (.slice aa st.A.length ac)
        have hB9 := hWM.trans hO9.below
        have hbl : w.heap.size < b0 := Nat.lt_trans hs12 hRd.lb.1
        have hr := (hRd.r.same (w' := (wM.setCell ⟨w.heap.size, 0, none⟩ (.slice ra st.R.length rc)).setCell ⟨w.heap.size, 1, none⟩ (.slice aa st.A.length ac)) (fun q hq => hO9.block q (by have := (World.ownsRow.lt hRd.r q hq).1; omega))).low (base' := w.heap.size) (Nat.le_of_lt hbl)
        have ha := (hRd.a.same (w' := (wM.setCell ⟨w.heap.size, 0, none⟩ (.slice ra st.R.length rc)).setCell ⟨w.heap.size, 1, none⟩ (.slice aa st.A.length ac)) (fun q hq => hO9.block q (by have := (World.ownsRow.lt hRd.a q hq).1; omega))).low (base' := w.heap.size) (Nat.le_of_lt hbl)
        have hne := hRd.ne
        clear hO9 hRd hSM hBM hWM
        go_wp2_with fail
        refine kL.mono ?_
        rintro e w5 ⟨rfl, hw⟩
        have hs := hw.symm
        clear hw kL
        subst hs
        go_wp2
        refine ret_wish Tryd.results22 rfl rE.c0 rE.c1 rfl ?_
        exact ⟨⟨ra, rc, aa, ac, rfl, ⟨hr, ha⟩, hOk, hne⟩, hB9⟩
end Go.Proofs.YtmlfijapndkfhaaDoor
