/- Stamped words that are drawn (tools/gen_fm.py). -/
import Derived.Test.YteknkgfgefhloaaCurPk
import Derived.Test.YteknkgfgefhloaaCurNew
import Derived.Test.YteknkgfgefhloaaMgX
namespace Go.Proofs.Yteknkgfgefhloaa
open Go.RowKit
theorem OwnS.ge {w : World} {base : Nat} {v : Value} {k : Nat} {F : Nat → Int} (h : OwnS w base v k F) : ∀ q, v.ownBlock = some q → base ≤ q ∧ q < w.heap.size := fun q hq => World.ownsRow.lt h q hq
theorem OwnS.same {w w' : World} {base : Nat} {v : Value} {k : Nat} {F : Nat → Int} (h : OwnS w base v k F) (hb : ∀ q, v.ownBlock = some q → w'.heap[q]? = w.heap[q]?) : OwnS w' base v k F := by
  obtain ⟨hl, h0 | ⟨g, cap, cur, h1, h2, h3, h4⟩⟩ := h
  · exact ⟨hl, .inl h0⟩
  · exact ⟨hl, .inr ⟨g, cap, cur, h1, h2, (hb g (by rw [h1]; rfl)).trans h3, h4⟩⟩
theorem OwnS.il {w : World} {base : Nat} {v : Value} {k : Nat} {F : Nat → Int} (h : OwnS w base v k F) : ∃ a cap, v = .slice a k cap ∧ ((a = none ∧ k = 0 ∧ cap = 0) ∨ ∃ b o, a = some ⟨b, o, none⟩) ∧ IL w a (k * 3) F := by
  have h' := h
  obtain ⟨_, ⟨rfl, rfl⟩ | ⟨g, cap, cur, rfl, hb, hg, h3, _⟩⟩ := h
  · exact ⟨_, _, rfl, .inl ⟨rfl, rfl, rfl⟩, fun h0 => by omega⟩
  · refine ⟨_, _, rfl, .inr ⟨_, _, rfl⟩, fun h0 => ⟨g, 0, rfl, (Array.getElem?_eq_some_iff.1 hg).1, fun i hi => ?_⟩⟩
    rw [Nat.zero_add, World.ownsRow.cellAt h' i hi]
    exact vL_get hi
theorem turns_bl {lo hi B : Nat} {w w' w'' : World} (h : Turns lo hi w w') (k : Below B w' w'') (hB : w.heap.size ≤ B) : Turns lo hi w w'' :=
  ⟨k.os.trans h.os, k.tape.trans h.tape, k.output.trans h.output, Nat.le_trans h.size k.size, fun q hq hn => (k.block q (by omega)).trans (h.block q hq hn)⟩
/-- what stands while a word is drawn -/
structure Dt (w wx : World) (C B : Nat) (a : Option Addr) (len cap : Nat) (v : Value) (k : Nat) (F : Nat → Int) (n : Nat) (p q r : Int) : Prop where
  bx : Bx wx B [.int .i64 p, .int .i64 q, .int .i64 r]
  cur : Cur wx C a len cap n
  own : OwnS wx w.heap.size v k F
  nb : ∀ q, v.ownBlock = some q → q < B
  cb : C < B
  cw : C < w.heap.size ∧ w.heap.size ≤ B
  t : Turns C (C + 1) w wx
section
variable {w wx wy : World} {C B : Nat} {a : Option Addr} {len cap : Nat} {v : Value} {k : Nat} {F : Nat → Int} {n m : Nat} {p q r : Int}
theorem Dt.step (h : Dt w wx C B a len cap v k F n p q r) (o : Only C wx wy) (hc : Cur wy C a len cap m) : Dt w wy C B a len cap v k F m p q r := by
  have hcb := h.cb
  have hcw := h.cw
  refine ⟨h.bx.only (OnlyIn.of o (Nat.le_refl _) (Nat.lt_succ_self _)) (by omega), hc, h.own.same fun x hx => o.block x (by have := (h.own.ge x hx).1; omega), h.nb, h.cb, h.cw, h.t.trans (OnlyIn.of o (Nat.le_refl _) (Nat.lt_succ_self _)).turns⟩
theorem Dt.on (h : Dt w wx C B a len cap v k F n p q r) (hb : Below wx.heap.size wx wy) : Dt w wy C B a len cap v k F n p q r :=
  ⟨h.bx.on hb, h.cur.below hb h.cur.lt, h.own.same fun x hx => hb.block x (h.own.ge x hx).2, h.nb, h.cb, h.cw, h.t.trans (turns_of hb)⟩
theorem Dt.set (h : Dt w wx C B a len cap v k F n p q r) (x : Int) : Dt w (wx.setCell ⟨B, 2, none⟩ (.int .i64 x)) C B a len cap v k F n p q x := by
  have hcb := h.cb
  have o := (Only.refl B wx).set 2 (.int .i64 x)
  have hbl : Below B wx (wx.setCell ⟨B, 2, none⟩ (.int .i64 x)) := o.below
  exact ⟨h.bx.set 2 (by simp) (.int .i64 x), h.cur.below hbl h.cb, h.own.same fun y hy => o.block y (by have := h.nb y hy; omega), h.nb, h.cb, h.cw, turns_bl h.t hbl h.cw.2⟩
end
def DtE (w wx : World) (C B : Nat) (a : Option Addr) (len cap : Nat) (v : Value) (k : Nat) (F : Nat → Int) (bd : Nat) (p q : Int) : Prop := ∃ n r, n ≤ bd ∧ Dt w wx C B a len cap v k F n p q r
def AnsSt (w w' : World) (e : Ending) (C : Nat) (a : Option Addr) (len cap n0 : Nat) : Prop := ∃ v k F n', e = .returned v ∧ OwnS w' w.heap.size v k F ∧ k ≤ 7 ∧ n' ≤ n0 + 200 ∧ Cur w' C a len cap n' ∧ Turns C (C + 1) w w'
set_option maxRecDepth 20000 in
set_option maxHeartbeats 8000000 in
theorem stamped_any (C : Nat) (a : Option Addr) (len cap n0 : Nat) (w : World) (h : Cur w C a len cap n0) (hn0 : n0 ≤ 1000) :
    Calls Try.prog 37 #[.pointer (some ⟨C, 0, none⟩)] w fun e w' => AnsSt w w' e C a len cap n0 := by
  obtain ⟨ist, hist, hz0, hz1, hz2⟩ := infoSt
  go_enter Try.func37, Try.ntmps37
  go_wp2_with fail
  refine (pick_any C a len cap _ _ _ h (by omega)).mono ?_
  rintro e w1 ⟨r1, n1, rfl, p1, q1, -, m1, hc1, hO1⟩
  have hB1 : Turns C (C + 1) w w1 := (OnlyIn.of hO1 (Nat.le_refl _) (Nat.lt_succ_self _)).turns
  have hcw := h.lt
  have q1 := q1 (by omega)
  clear h hO1
  obtain ⟨r0, rfl⟩ : ∃ r0 : Nat, r1 = (r0 : Int) := ⟨r1.toNat, by omega⟩
  go_upto_region 4 with fail
  go_loopw [3, 4, 5] (fun v tx i wr => ∃ (k r m j : Nat) (t : Int) (F : Nat → Int), k ≤ j ∧ j + r ≤ 7 ∧ 0 ≤ t ∧ t ≤ 3 * (j : Int) ∧ tx = .int .i64 t ∧ i = .int .i64 (r : Int) ∧ m ≤ n0 + 2 + 12 * j ∧ OwnS wr w.heap.size v k F ∧ Cur wr C a len cap m ∧ Turns C (C + 1) w wr) (fun _ _ i _ => (intOf i).toNat)
  case atStart => exact ⟨0, r0, n1, 0, 0, fun _ => 0, Nat.le_refl _, by omega, by omega, by omega, rfl, rfl, by omega, World.ownsRow_nil _ _ _ _, hc1, hB1⟩
  case round =>
    obtain ⟨k, r, m, j, t, F, hkj, hjr, ht0, ht1, rfl, rfl, hm, hown, hcur, hB⟩ := hrel
    clear hc1 hB1
    by_cases hr : 0 < r
    · have j1 : (0 : Int) < (r : Int) := by omega
      go_wp2_with fail
      refine (pick_any C a len cap _ _ _ hcur (by omega)).mono ?_
      rintro e w2 ⟨r2, n2, rfl, p2, q2, -, m2, hc2, hO2⟩
      have q2 := q2 (by omega)
      have hown2 := hown.same (w' := w2) fun x hx => hO2.block x (by have := (hown.ge x hx).1; omega)
      have hB2 := hB.trans (OnlyIn.of hO2 (Nat.le_refl _) (Nat.lt_succ_self _)).turns
      clear hown hB hO2 hcur
      obtain ⟨t2, ht2⟩ : ∃ t2, t2 = t + r2 := ⟨_, rfl⟩
      have t20 : 0 ≤ t2 := by omega
      have t21 : t2 ≤ 3 * (j : Int) + 2 := by omega
      go_wp2_with fail
      rw [← ht2]
      clear ht2
      refine (pick_any C a len cap _ _ _ hc2 (by omega)).mono ?_
      rintro e w3 ⟨r3, n3, rfl, -, -, -, m3, hc3, hO3⟩
      have hown3 := hown2.same (w' := w3) fun x hx => hO3.block x (by have := (hown2.ge x hx).1; omega)
      have hB3 := hB2.trans (OnlyIn.of hO3 (Nat.le_refl _) (Nat.lt_succ_self _)).turns
      clear hown2 hB2 hO3 hc2
      have D4 : Dt w (w3.alloc (.cells #[.int .i64 t2, .int .i64 r3, .int .i64 t2] 29)) C w3.heap.size a len cap u3 k F n3 t2 r3 t2 := by
        have hb : Below w3.heap.size w3 (w3.alloc (.cells #[.int .i64 t2, .int .i64 r3, .int .i64 t2] 29)) := (Below.refl _ _).alloc (Nat.le_refl _) _
        exact ⟨bx_new _ _ rfl, hc3.below hb hc3.lt, hown3.same fun x hx => hb.block x (hown3.ge x hx).2, fun x hx => (hown3.ge x hx).2, hc3.lt, ⟨hcw, hB3.size⟩, hB3.trans (turns_of hb)⟩
      clear hown3 hB3 hc3
      go_upto_region 8 with fail
      generalize w3.alloc (.cells #[.int .i64 t2, .int .i64 r3, .int .i64 t2] 29) = wa at *
      generalize w3.heap.size = B at *
      go_wp2_with fail
      refine (one_any C a len cap _ _ _ D4.cur (by omega)).mono ?_
      rintro e w5 ⟨b5, n5, rfl, m5, hc5, hO5⟩
      have D5 := D4.step hO5 hc5
      clear hO5 hc5 D4
      go_upto_if 23 with fail
      go_cut [] from 23 to 26 (fun wx => DtE w wx C B a len cap u3 k F (m + 8) t2 r3)
      case first =>
        cases b5 with
        | false =>
          go_wp2_with fail
          go_meet
          case rel => exact ⟨_, _, by omega, D5⟩
        | true =>
          go_wp2_with fail
          refine (pick_any C a len cap _ _ _ D5.cur (by omega)).mono ?_
          rintro e w6 ⟨r6, n6, rfl, -, -, -, m6, hc6, hO6⟩
          have D6 := D5.step hO6 hc6
          have D7 := D6.set r6
          have x2 := D6.bx.c2
          have f2 := D6.bx.fz 2
          have xl := D6.bx.lt
          clear hO6 hc6 D5 D6
          go_wp2
          go_meet
          case rel => exact ⟨_, _, by omega, D7⟩
      case rest =>
        clear D5
        obtain ⟨n8, r8, m8, D8⟩ := hcut
        obtain ⟨w8, hw8⟩ : ∃ x, x = wc := ⟨wc, rfl⟩
        subst hw8
        obtain ⟨p8, hp8⟩ : ∃ p8, p8 = t2 := ⟨_, rfl⟩
        obtain ⟨q8, hq8⟩ : ∃ q8, q8 = r3 := ⟨_, rfl⟩
        rw [← hp8, ← hq8] at D8
        clear hp8 hq8
        have D9 : Dt w w8.drew C B a len cap u3 k F n8 p8 q8 r8 := D8.on (Below.refl _ _).drew
        obtain ⟨sa, sc, hsh⟩ := D8.own.shape
        subst hsh
        go_upto_region 10 with fail
        go_cut [43] from 27 to 43 (fun s43 wx => ∃ b : Bool, s43 = .bool b ∧ DtE w wx C B a len cap (.slice sa k sc) k F (m + 10) p8 q8)
        case first =>
          by_cases hk : k = 0
          · have ke : ((k : Int) == 0) = true := by simp [hk]
            clear hk
            refine wp_region_held (S := (fun _ => True)) (by kernel_rfl) ?_
            change wpAnyH _ _ _ _ _ _ _ _ (World.drew _)
            have hSw := (trivial : True)
            refine wpAnyH_take (i := 0) (v := .slice sa k sc) rfl (by kernel_rfl) (by kernel_rfl) (by kernel_rfl) (fun _ _ _ h => h) (Or.inl ⟨by rfl, ?_⟩) hSw ?_
            · intro wz hsz
              obtain ⟨⟩ := hsz
              go_simp
            try simp [Act.put]
            refine wpAnyH_take (i := 1) (v := .int .i64 (k : Int)) rfl (by kernel_rfl) (by kernel_rfl) (by kernel_rfl) (fun _ _ _ h => h) (Or.inl ⟨by rfl, ?_⟩) hSw ?_
            · intro wz hsz
              obtain ⟨⟩ := hsz
              go_simp
            try simp [Act.put]
            refine wpAnyH_take (i := 2) (v := .bool true) rfl (by kernel_rfl) (by kernel_rfl) (by kernel_rfl) (fun _ _ _ h => h) (Or.inl ⟨by rfl, ?_⟩) hSw ?_
            · intro wz hsz
              obtain ⟨⟩ := hsz
              go_simp
            try simp [Act.put]
            refine wpAnyH_take (i := 3) (v := .bool true) rfl (by kernel_rfl) (by kernel_rfl) (by kernel_rfl) (fun _ _ _ h => h) (Or.inl ⟨by rfl, ?_⟩) hSw ?_
            · intro wz hsz
              obtain ⟨⟩ := hsz
              go_simp
            try simp [Act.put]
            refine wpAnyH_take (i := 4) (v := undef) rfl (by kernel_rfl) (by kernel_rfl) (by kernel_rfl) (fun _ _ _ h => h) (Or.inr ⟨by kernel_rfl, rfl⟩) hSw ?_
            try simp [Act.put]
            refine wpAnyH_take (i := 5) (v := undef) rfl (by kernel_rfl) (by kernel_rfl) (by kernel_rfl) (fun _ _ _ h => h) (Or.inr ⟨by kernel_rfl, rfl⟩) hSw ?_
            try simp [Act.put]
            refine wpAnyH_take (i := 6) (v := undef) rfl (by kernel_rfl) (by kernel_rfl) (by kernel_rfl) (fun _ _ _ h => h) (Or.inr ⟨by kernel_rfl, rfl⟩) hSw ?_
            try simp [Act.put]
            refine wpAnyH_take (i := 7) (v := undef) rfl (by kernel_rfl) (by kernel_rfl) (by kernel_rfl) (fun _ _ _ h => h) (Or.inr ⟨by kernel_rfl, rfl⟩) hSw ?_
            try simp [Act.put]
            refine wpAnyH_take (i := 8) (v := undef) rfl (by kernel_rfl) (by kernel_rfl) (by kernel_rfl) (fun _ _ _ h => h) (Or.inr ⟨by kernel_rfl, rfl⟩) hSw ?_
            try simp [Act.put]
            refine wpAnyH_take (i := 9) (v := undef) rfl (by kernel_rfl) (by kernel_rfl) (by kernel_rfl) (fun _ _ _ h => h) (Or.inr ⟨by kernel_rfl, rfl⟩) hSw ?_
            try simp [Act.put]
            refine wpAnyH_take (i := 10) (v := undef) rfl (by kernel_rfl) (by kernel_rfl) (by kernel_rfl) (fun _ _ _ h => h) (Or.inr ⟨by kernel_rfl, rfl⟩) hSw ?_
            try simp [Act.put]
            refine wpAnyH_take (i := 11) (v := undef) rfl (by kernel_rfl) (by kernel_rfl) (by kernel_rfl) (fun _ _ _ h => h) (Or.inr ⟨by kernel_rfl, rfl⟩) hSw ?_
            try simp [Act.put]
            refine wpAnyH_take (i := 12) (v := .bool true) rfl (by kernel_rfl) (by kernel_rfl) (by kernel_rfl) (fun _ _ _ h => h) (Or.inl ⟨by rfl, ?_⟩) hSw ?_
            · intro wz hsz
              obtain ⟨⟩ := hsz
              go_simp
            try simp [Act.put]
            refine wpAnyH_take (i := 13) (v := .bool true) rfl (by kernel_rfl) (by kernel_rfl) (by kernel_rfl) (fun _ _ _ h => h) (Or.inl ⟨by rfl, ?_⟩) hSw ?_
            · intro wz hsz
              obtain ⟨⟩ := hsz
              go_simp
            try simp [Act.put]
            refine wpAnyH_take (i := 14) (v := undef) rfl (by kernel_rfl) (by kernel_rfl) (by kernel_rfl) (fun _ _ _ h => h) (Or.inr ⟨by kernel_rfl, rfl⟩) hSw ?_
            try simp [Act.put]
            refine wpAnyH_take (i := 15) (v := undef) rfl (by kernel_rfl) (by kernel_rfl) (by kernel_rfl) (fun _ _ _ h => h) (Or.inr ⟨by kernel_rfl, rfl⟩) hSw ?_
            try simp [Act.put]
            refine wpAnyH_take (i := 16) (v := .bool true) rfl (by kernel_rfl) (by kernel_rfl) (by kernel_rfl) (fun _ _ _ h => h) (Or.inl ⟨by rfl, ?_⟩) hSw ?_
            · intro wz hsz
              obtain ⟨⟩ := hsz
              go_simp
            try simp [Act.put]
            refine wpAnyH_done (by kernel_rfl) ?_ _
            go_wp2_with fail
            go_meet
            case rel => exact ⟨true, rfl, n8, r8, by omega, D9⟩
          · have ke : ((k : Int) == 0) = false := by simp; omega
            obtain ⟨k0, hk0⟩ : ∃ k0, k = k0 + 1 := ⟨k - 1, by omega⟩
            obtain ⟨g, cc, eg, hg, hcap, -⟩ := D8.own.at_ (by omega)
            cases eg
            have jw : IntKind.i64.wrap ((k : Int) - 1) = (k0 : Int) := by rw [IntWalk.i64_in _ ⟨by omega, by omega⟩]; omega
            have j0 : (0 : Int) ≤ (k0 : Int) := by omega
            have j2 : (k0 : Int) < (k : Int) := by omega
            have hsix : Hid (∀ (wy : World) (nn : Nat), Dt w wy C B a len cap (.slice (some ⟨g, 0, none⟩) k sc) k F nn p8 q8 r8 → wy.cell? ⟨B, 0, none⟩ = some (.int .i64 p8) ∧ wy.cell? ⟨B, 1, none⟩ = some (.int .i64 q8) ∧ wy.cell? ⟨B, 2, none⟩ = some (.int .i64 r8) ∧ wy.cell? ⟨g, k0 * 3, none⟩ = some (.int .i64 (F (k0 * 3))) ∧ wy.cell? ⟨g, k0 * 3 + 1, none⟩ = some (.int .i64 (F (k0 * 3 + 1))) ∧ wy.cell? ⟨g, k0 * 3 + 2, none⟩ = some (.int .i64 (F (k0 * 3 + 2)))) := fun wy nn D => by
              obtain ⟨g', c', e', _, _, hP⟩ := D.own.at_ (by omega)
              cases e'
              exact ⟨D.bx.c0, D.bx.c1, D.bx.c2, hP.c _ (by omega), hP.c _ (by omega), hP.c _ (by omega)⟩
            have kb := fun w => sBefore (F (k0 * 3)) (F (k0 * 3 + 1)) (F (k0 * 3 + 2)) p8 q8 r8 w
            generalize ltB2 (F (k0 * 3), F (k0 * 3 + 1), F (k0 * 3 + 2)) (p8, q8, r8) = T at kb
            generalize F (k0 * 3) = E0 at hsix kb
            generalize F (k0 * 3 + 1) = E1 at hsix kb
            generalize F (k0 * 3 + 2) = E2 at hsix kb
            clear hk hk0
            refine wp_region_held (S := (fun w' => w'.cell? ⟨B, 0, none⟩ = some (.int .i64 p8) ∧ w'.cell? ⟨B, 1, none⟩ = some (.int .i64 q8) ∧ w'.cell? ⟨B, 2, none⟩ = some (.int .i64 r8) ∧ w'.cell? ⟨g, k0 * 3, none⟩ = some (.int .i64 E0) ∧ w'.cell? ⟨g, k0 * 3 + 1, none⟩ = some (.int .i64 E1) ∧ w'.cell? ⟨g, k0 * 3 + 2, none⟩ = some (.int .i64 E2))) (by kernel_rfl) ?_
            change wpAnyH _ _ _ _ _ _ _ _ (World.drew _)
            have hSw := (hsix.out _ _ D9 : _ ∧ _ ∧ _ ∧ _ ∧ _ ∧ _)
            refine wpAnyH_take (i := 0) (v := .slice (some ⟨g, 0, none⟩) k sc) rfl (by kernel_rfl) (by kernel_rfl) (by kernel_rfl) (fun _ _ _ h => h) (Or.inl ⟨by rfl, ?_⟩) hSw ?_
            · intro wz hsz
              obtain ⟨e0, e1, e2, e3, e4, e5⟩ := hsz
              go_simp
            try simp [Act.put]
            refine wpAnyH_take (i := 1) (v := .int .i64 (k : Int)) rfl (by kernel_rfl) (by kernel_rfl) (by kernel_rfl) (fun _ _ _ h => h) (Or.inl ⟨by rfl, ?_⟩) hSw ?_
            · intro wz hsz
              obtain ⟨e0, e1, e2, e3, e4, e5⟩ := hsz
              go_simp
            try simp [Act.put]
            refine wpAnyH_take (i := 2) (v := .bool false) rfl (by kernel_rfl) (by kernel_rfl) (by kernel_rfl) (fun _ _ _ h => h) (Or.inl ⟨by rfl, ?_⟩) hSw ?_
            · intro wz hsz
              obtain ⟨e0, e1, e2, e3, e4, e5⟩ := hsz
              go_simp
            try simp [Act.put]
            refine wpAnyH_take (i := 3) (v := .bool false) rfl (by kernel_rfl) (by kernel_rfl) (by kernel_rfl) (fun _ _ _ h => h) (Or.inl ⟨by rfl, ?_⟩) hSw ?_
            · intro wz hsz
              obtain ⟨e0, e1, e2, e3, e4, e5⟩ := hsz
              go_simp
            try simp [Act.put]
            refine wpAnyH_take (i := 4) (v := .slice (some ⟨g, 0, none⟩) k sc) rfl (by kernel_rfl) (by kernel_rfl) (by kernel_rfl) (fun _ _ _ h => h) (Or.inl ⟨by rfl, ?_⟩) hSw ?_
            · intro wz hsz
              obtain ⟨e0, e1, e2, e3, e4, e5⟩ := hsz
              go_simp
            try simp [Act.put]
            refine wpAnyH_take (i := 5) (v := .slice (some ⟨g, 0, none⟩) k sc) rfl (by kernel_rfl) (by kernel_rfl) (by kernel_rfl) (fun _ _ _ h => h) (Or.inl ⟨by rfl, ?_⟩) hSw ?_
            · intro wz hsz
              obtain ⟨e0, e1, e2, e3, e4, e5⟩ := hsz
              go_simp
            try simp [Act.put]
            refine wpAnyH_take (i := 6) (v := .int .i64 (k : Int)) rfl (by kernel_rfl) (by kernel_rfl) (by kernel_rfl) (fun _ _ _ h => h) (Or.inl ⟨by rfl, ?_⟩) hSw ?_
            · intro wz hsz
              obtain ⟨e0, e1, e2, e3, e4, e5⟩ := hsz
              go_simp
            try simp [Act.put]
            refine wpAnyH_take (i := 7) (v := .int .i64 (k0 : Int)) rfl (by kernel_rfl) (by kernel_rfl) (by kernel_rfl) (fun _ _ _ h => h) (Or.inl ⟨by rfl, ?_⟩) hSw ?_
            · intro wz hsz
              obtain ⟨e0, e1, e2, e3, e4, e5⟩ := hsz
              go_simp
            try simp [Act.put]
            refine wpAnyH_take (i := 8) (v := .pointer (some ⟨g, k0 * 3, none⟩)) rfl (by kernel_rfl) (by kernel_rfl) (by kernel_rfl) (fun _ _ _ h => h) (Or.inl ⟨by rfl, ?_⟩) hSw ?_
            · intro wz hsz
              obtain ⟨e0, e1, e2, e3, e4, e5⟩ := hsz
              go_simp
              try (intro h9; omega)
            try simp [Act.put]
            refine wpAnyH_take (i := 9) (v := spv E0 E1 E2) rfl (by kernel_rfl) (by kernel_rfl) (by kernel_rfl) (fun _ _ _ h => h) (Or.inl ⟨by rfl, ?_⟩) hSw ?_
            · intro wz hsz
              obtain ⟨e0, e1, e2, e3, e4, e5⟩ := hsz
              go_simp
            try simp [Act.put]
            refine wpAnyH_take (i := 10) (v := spv p8 q8 r8) rfl (by kernel_rfl) (by kernel_rfl) (by kernel_rfl) (fun _ _ _ h => h) (Or.inl ⟨by rfl, ?_⟩) hSw ?_
            · intro wz hsz
              obtain ⟨e0, e1, e2, e3, e4, e5⟩ := hsz
              go_simp
            try simp [Act.put]
            refine wpAnyH_ready (rs := [11]) (by kernel_rfl) (by simp) ?_
            refine AllReadyH.cons rfl (fun K hK => ?_) AllReadyH.nil
            go_simp
            go_wp2_with (first | (go_at_call 45; refine (kb _).mono ?_; rintro e w10 ⟨rfl, hb10⟩) | (fail))
            have D10 := D9.on hb10
            refine hK.out _ _ (hsix.out _ _ D10) (fun hSn => ?_)
            clear hK K hSw
            have hSw := hSn
            clear hSn
            try simp [Act.put]
            cases T with
            | true =>
              refine wpAnyH_take (i := 12) (v := .bool true) rfl (by kernel_rfl) (by kernel_rfl) (by kernel_rfl) (fun _ _ _ h => h) (Or.inl ⟨by rfl, ?_⟩) hSw ?_
              · intro wz hsz
                obtain ⟨e0, e1, e2, e3, e4, e5⟩ := hsz
                go_simp
              try simp [Act.put]
              refine wpAnyH_take (i := 13) (v := .bool true) rfl (by kernel_rfl) (by kernel_rfl) (by kernel_rfl) (fun _ _ _ h => h) (Or.inl ⟨by rfl, ?_⟩) hSw ?_
              · intro wz hsz
                obtain ⟨e0, e1, e2, e3, e4, e5⟩ := hsz
                go_simp
              try simp [Act.put]
              refine wpAnyH_take (i := 14) (v := undef) rfl (by kernel_rfl) (by kernel_rfl) (by kernel_rfl) (fun _ _ _ h => h) (Or.inr ⟨by kernel_rfl, rfl⟩) hSw ?_
              try simp [Act.put]
              refine wpAnyH_take (i := 15) (v := undef) rfl (by kernel_rfl) (by kernel_rfl) (by kernel_rfl) (fun _ _ _ h => h) (Or.inr ⟨by kernel_rfl, rfl⟩) hSw ?_
              try simp [Act.put]
              refine wpAnyH_take (i := 16) (v := .bool true) rfl (by kernel_rfl) (by kernel_rfl) (by kernel_rfl) (fun _ _ _ h => h) (Or.inl ⟨by rfl, ?_⟩) hSw ?_
              · intro wz hsz
                obtain ⟨e0, e1, e2, e3, e4, e5⟩ := hsz
                go_simp
              try simp [Act.put]
              refine wpAnyH_done (by kernel_rfl) ?_ _
              go_wp2_with fail
              go_meet
              case rel => exact ⟨true, rfl, n8, r8, by omega, D10⟩
            | false =>
              refine wpAnyH_take (i := 12) (v := .bool false) rfl (by kernel_rfl) (by kernel_rfl) (by kernel_rfl) (fun _ _ _ h => h) (Or.inl ⟨by rfl, ?_⟩) hSw ?_
              · intro wz hsz
                obtain ⟨e0, e1, e2, e3, e4, e5⟩ := hsz
                go_simp
              try simp [Act.put]
              refine wpAnyH_take (i := 13) (v := .bool false) rfl (by kernel_rfl) (by kernel_rfl) (by kernel_rfl) (fun _ _ _ h => h) (Or.inl ⟨by rfl, ?_⟩) hSw ?_
              · intro wz hsz
                obtain ⟨e0, e1, e2, e3, e4, e5⟩ := hsz
                go_simp
              try simp [Act.put]
              refine wpAnyH_take (i := 14) (v := .pointer (some ⟨C, 0, none⟩)) rfl (by kernel_rfl) (by kernel_rfl) (by kernel_rfl) (fun _ _ _ h => h) (Or.inl ⟨by rfl, ?_⟩) hSw ?_
              · intro wz hsz
                obtain ⟨e0, e1, e2, e3, e4, e5⟩ := hsz
                go_simp
              try simp [Act.put]
              refine wpAnyH_ready (rs := [15]) (by kernel_rfl) (by simp) ?_
              refine AllReadyH.cons rfl (fun K hK => ?_) AllReadyH.nil
              go_simp
              go_wp2_with (first | (go_at_call 57; refine (one_any C a len cap _ _ _ D10.cur (by omega)).mono ?_; rintro e w11 ⟨b11, n11, rfl, m11, hc11, hO11⟩) | (fail))
              have D11 := D10.step hO11 hc11
              refine hK.out _ _ (hsix.out _ _ D11) (fun hSn => ?_)
              clear hK K hSw
              have hSw := hSn
              clear hSn
              try simp [Act.put]
              refine wpAnyH_take (i := 16) (v := .bool b11) rfl (by kernel_rfl) (by kernel_rfl) (by kernel_rfl) (fun _ _ _ h => h) (Or.inl ⟨by rfl, ?_⟩) hSw ?_
              · intro wz hsz
                obtain ⟨e0, e1, e2, e3, e4, e5⟩ := hsz
                go_simp
              try simp [Act.put]
              refine wpAnyH_done (by kernel_rfl) ?_ _
              go_wp2_with fail
              go_meet
              case rel => exact ⟨b11, rfl, n11, r8, by omega, D11⟩
        case rest =>
          clear D8 D9
          obtain ⟨b12, rfl, n12, r12, m12, D12⟩ := hcut
          obtain ⟨w12, hw12⟩ : ∃ x, x = wc := ⟨wc, rfl⟩
          subst hw12
          cases b12 with
          | false =>
            have hO := D12.own
            have hc := D12.cur
            have hb := D12.t
            clear D12
            go_wp2
            go_roundw
            case rel => exact ⟨k, r - 1, n12, j + 1, t2, F, by omega, by omega, t20, by omega, rfl, by go_num, by omega, hO, hc, hb⟩
            case measure => simp [intOf]; omega
          | true =>
            have x0 := D12.bx.c0
            have x1 := D12.bx.c1
            have x2 := D12.bx.c2
            have xl := D12.bx.lt
            have hO := D12.own
            have cl := D12.cur.lt
            have hsz := D12.t.size
            go_wp2_with (at_builtin; refine wpList_append_own _ rfl _ _ 23 rfl w.heap.size 29 ist (spv 0 0 0) 3 24 Try.underlying23 hist hz0 hz1 hz2 rfl (by decide) _ _ _ rfl (World.ownsRow.alloc hO _) ⟨w12.heap.size, 0, none⟩ 1 1 [.int .i64 p8, .int .i64 q8, .int .i64 r12] rfl rfl (new3 _ _ _ _ _) (fun x hx => by simp at hx; rcases hx with rfl | rfl | rfl <;> rfl) (by unfold maxLen; omega) (by omega) (by simp; omega) ?_; intro v' w22 hown' hgrow3 _)
            have hb22 : Below w.heap.size w12 w22 := ((Below.refl _ _).alloc (by omega) _).grown hgrow3 (by simp; omega) (fun q hq => (hO.ge q hq).1)
            have HO22 : OwnS w22 w.heap.size v' (k + 1) (apF F (k * 3) (fun i => cS (p8, q8, r12) i)) := own_appS (n := 1) (by simpa [vL, cS, List.range_succ] using hown')
            have hc22 := D12.cur.below hb22 hcw
            have hB22 := turns_bl D12.t hb22 (Nat.le_refl _)
            clear x0 x1 x2 xl hO hown' hgrow3 hb22 D12
            go_wp2
            go_roundw
            case rel => exact ⟨k + 1, r - 1, n12, j + 1, t2, _, by omega, by omega, t20, by omega, rfl, by go_num, by omega, HO22, hc22, hB22⟩
            case measure => simp [intOf]; omega
    · have e : r = 0 := by omega
      subst e
      obtain ⟨sa, sc, rfl⟩ := hown.shape
      have HO : Hid (OwnS wr w.heap.size (.slice sa k sc) k F) := hown
      clear hown
      go_wp2
      go_ret
      exact ⟨_, k, F, m, rfl, HO.out, by omega, by omega, hcur, hB⟩
end Go.Proofs.Yteknkgfgefhloaa
