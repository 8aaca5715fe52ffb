/- A round of dues, and DuesOf, as the program takes them. -/
import Derived.Test.YtjmdghkhapajiaaAsDuM
import Derived.Test.YtjmdghkhapajiaaAsWho
import Derived.Test.YtjmdghkhapajiaaTaB
import Derived.Deep.Cut
import Derived.BigQuiet
namespace Go.Proofs.Ytjmdghkhapajiaa
open Go.RowKit
theorem only_dr {b : Nat} {w w' : World} (h : Only b w w') (n : Nat) : Only b w (w'.drewN n) := ⟨h.os, h.tape, h.output, h.size, h.block⟩
theorem ip_dr {w : World} {b n : Nat} {F : Nat → Int} (h : IP w b n F) (k : Nat) : IP (w.drewN k) b n F := ⟨h.lt, h.c, h.fz⟩
theorem ip_drew {w : World} {b n : Nat} {F : Nat → Int} (h : IP w b n F) (k : Nat) {t : Nat} (ht : t < n) (v : Int) : IP ((w.drewN k).setCell ⟨b, t, none⟩ (.int .i64 v)) b n (put F t v) := (ip_dr h k).set ht v
theorem cell_dr (w : World) (k : Nat) {p : Addr} {v : Value} (h : w.cell? p = some v) : (w.drewN k).cell? p = some v := h
theorem fz_dr (w : World) (k : Nat) {p : Addr} {v : Bool} (h : w.frozen? p = v) : (w.drewN k).frozen? p = v := h
set_option maxHeartbeats 8000000 in
set_option maxRecDepth 20000 in
theorem lower_any (a : Option Addr) (n c : Nat) (A : Nat → Option Addr) (K C : Nat → Nat) (F : Nat → Nat → Int) (b : Option Addr) (d m : Nat) (g : Nat → Int) (Db dc : Nat) (D : Nat → Int) (L : Int) (w0 w : World) (ga : GA n m K F g) (hA : LL w0 a n A K C F) (hI2 : IL w0 b n g) (hB : Below w0.heap.size w0 w) (hDb : w0.heap.size ≤ Db) (hP0 : IP w Db n D) (hD : Bd n D L) (hL : L ≤ 30000000) :
    Calls Try.prog 40 #[.slice a n c, .slice b n d, .slice (some ⟨Db, 0, none⟩) n dc] w fun e w' => e = .returned (.bool (rndQ F g n D n)) ∧ IP w' Db n (rndD F g n D n) ∧ Only Db w w' := by
  have HP0 : Hid (IP w Db n D) := hP0
  clear hP0
  go_enter Try.func40, Try.ntmps40
  go_wp2_with fail
  go_loopw [7, 15] (fun x i wr => ∃ k : Nat, k ≤ n ∧ i = .int .i64 (k : Int) ∧ x = .bool (rndQ F g n D k) ∧ IP wr Db n (rndD F g n D k) ∧ Only Db w wr) (fun _ i _ => n - (intOf i).toNat)
  case atStart => exact ⟨0, Nat.zero_le _, rfl, rfl, HP0.out, Only.refl _ _⟩
  case round =>
    obtain ⟨k, hk, rfl, rfl, hP, hO⟩ := hrel
    clear HP0
    have i0 : (0 : Int) ≤ (k : Int) := by omega
    by_cases hlt : k < n
    · have i1 : (k : Int) < (n : Int) := by omega
      obtain ⟨w9, hw9⟩ : ∃ x, x = wr := ⟨wr, rfl⟩
      subst hw9
      have hBa := hB.trans (hO.below.mono hDb)
      obtain ⟨gb, go_, rfl, gl_, gc0⟩ := il_at1 hI2 (i := k) (by omega)
      obtain ⟨pb, po, rfl, pl_, pc0⟩ := ll_at1 hA hlt
      have hg := ga.bd k hlt
      have hKk := ga.gp.len k hlt
      obtain ⟨t, ht⟩ : ∃ t : Nat, g k = (t : Int) := ⟨(g k).toNat, by omega⟩
      have htn : t < n := by omega
      obtain ⟨rb, ro, hAk, rl_, rc0⟩ := hA.row k hlt (by omega)
      rw [hKk] at rc0
      rw [hAk, hKk] at pc0
      rw [ht] at gc0
      have x0 := (hBa.cell (p := ⟨gb, go_ + k, none⟩) gl_).trans gc0
      have x1 := (hBa.cell (p := ⟨pb, po + k, none⟩) pl_).trans pc0
      have i3 : (0 : Int) ≤ (t : Int) := by omega
      have i4 : (t : Int) < (n : Int) := by omega
      have hD1 := rndD_bd ga hD k hk
      have HEq : Hid (rndQ F g n D (k + 1) = rowQ F g k (rndD F g n D k) (rndQ F g n D k) n) := rfl
      have HEd : Hid (rndD F g n D (k + 1) = rowD F g k (rndD F g n D k) n) := rfl
      have HP1 : Hid (IP w9 Db n (rndD F g n D k)) := hP
      have hn6 := ga.gp.hi
      generalize C k = Ck at *
      generalize hq1 : rndQ F g n D k = q1 at HEq ⊢
      generalize hd1 : rndD F g n D k = D1 at HEq HEd HP1 hD1
      clear hg hKk hAk gc0 hP hq1 hd1
      go_wp2_with fail
      clear x0 x1
      obtain ⟨wa, hwa⟩ : ∃ x, x = w9 := ⟨w9, rfl⟩
      subst hwa
      go_loopw [7, 25] (fun x i wr => ∃ b : Nat, b ≤ n ∧ i = .int .i64 (b : Int) ∧ x = .bool (rowQ F g k D1 q1 b) ∧ IP wr Db n (rowD F g k D1 b) ∧ Only Db wa wr) (fun _ i _ => n - (intOf i).toNat)
      case atStart => exact ⟨0, Nat.zero_le _, rfl, rfl, HP1.out, Only.refl _ _⟩
      case round =>
        obtain ⟨b, hb, rfl, rfl, hP2, hO2⟩ := hrel
        clear HP1
        have i5 : (0 : Int) ≤ (b : Int) := by omega
        by_cases hbl : b < n
        · have i6 : (b : Int) < (n : Int) := by omega
          have hBw := hBa.trans (hO2.below.mono hDb)
          have hbd := rowD_bd ga hlt hD1 b hb
          have v1 := hbd b hbl
          have v2 := hbd t htn
          have v3 := ga.gp.bd k b hlt hbl
          have v4 := ga.gp.bd k t hlt htn
          have y0 := (hBw.cell (p := ⟨pb, po + k, none⟩) pl_).trans pc0
          have y1 := (hBw.cell (p := ⟨rb, ro + b, none⟩) rl_).trans (rc0 b hbl)
          have y2 := (hBw.cell (p := ⟨rb, ro + t, none⟩) rl_).trans (rc0 t htn)
          have z1 := hP2.c b hbl
          have z2 := hP2.c t htn
          have z3 := hP2.fz t
          have HQ : Hid (rowQ F g k D1 q1 (b + 1) = (rowQ F g k D1 q1 b || loB F g k b (rowD F g k D1 b))) := rfl
          have HD : Hid (rowD F g k D1 (b + 1) = lwD F g k b (rowD F g k D1 b)) := rfl
          have HLo : Hid (loB F g k b (rowD F g k D1 b) = decide (F k b + rowD F g k D1 b b - F k t < rowD F g k D1 b t)) := by show loB F g k b _ = _; unfold loB moS; rw [ht]; rfl
          have HLw : Hid (loB F g k b (rowD F g k D1 b) = true → lwD F g k b (rowD F g k D1 b) = put (rowD F g k D1 b) t (F k b + rowD F g k D1 b b - F k t)) := fun h => by show lwD F g k b _ = _; unfold lwD; rw [if_pos h]; unfold moS; rw [ht]; rfl
          have HLn : Hid (loB F g k b (rowD F g k D1 b) = false → lwD F g k b (rowD F g k D1 b) = rowD F g k D1 b) := fun h => by show lwD F g k b _ = _; unfold lwD; rw [if_neg (by rw [h]; decide)]
          generalize F k b = X at v3 y1 HLo HLw
          generalize F k t = Z at v4 y2 HLo HLw
          obtain ⟨D2, hD2⟩ : ∃ D2, D2 = rowD F g k D1 b := ⟨_, rfl⟩
          rw [← hD2] at v1 v2 z1 z2 HQ HD HLo HLw HLn hP2
          have HS : Hid (∀ v : Int, IP (wr.setCell ⟨Db, t, none⟩ (.int .i64 v)) Db n (put D2 t v)) := fun v => hP2.set htn v
          have HS2 : Hid (∀ v : Value, Only Db wa (wr.setCell ⟨Db, t, none⟩ v)) := fun v => hO2.set t v
          have HPn : Hid (IP wr Db n D2) := hP2
          generalize hY : D2 b = Y at v1 z1 HLo HLw
          generalize hU : D2 t = U at v2 z2 HLo
          clear hbd hY hU hD2 hP2 hD1 ga hBw hA hI2 rc0 pc0 hBa ht
          by_cases gl : X + Y - Z < U
          · have HL1 : Hid (loB F g k b D2 = true) := HLo.out.trans (decide_eq_true gl)
            have HX := HLw.out HL1.out
            have HX2 : Hid (rowD F g k D1 (b + 1) = put D2 t (X + Y - Z)) := HD.out.trans HX
            have HQ2 : Hid (rowQ F g k D1 q1 (b + 1) = true) := by show rowQ F g k D1 q1 (b + 1) = true; rw [HQ.out, HL1.out, Bool.or_true]
            clear HLo HLw HLn HX HQ HD HL1
            go_upto_region 8 with fail
            go_quiet (fail)
            have HS3 : Hid (IP ((wr.drewN nq).setCell ⟨Db, t, none⟩ (.int .i64 (X + Y - Z))) Db n (put D2 t (X + Y - Z))) := ip_drew HPn.out nq htn _
            have HS4 : Hid (Only Db wa ((wr.drewN nq).setCell ⟨Db, t, none⟩ (.int .i64 (X + Y - Z)))) := (only_dr hO2 nq).set t _
            have m1 := cell_dr wr nq z2
            have m2 := fz_dr wr nq z3
            generalize wr.drewN nq = w10 at HS3 HS4 m1 m2 ⊢
            go_wp2
            exact ⟨⟨b + 1, by omega, by go_num, by rw [HQ2.out], by rw [HX2.out]; exact HS3.out, HS4.out⟩, by simp [intOf]; omega⟩
          · have HL1 : Hid (loB F g k b D2 = false) := HLo.out.trans (decide_eq_false gl)
            have HX2 : Hid (rowD F g k D1 (b + 1) = D2) := HD.out.trans (HLn.out HL1.out)
            have HQ2 : Hid (rowQ F g k D1 q1 (b + 1) = rowQ F g k D1 q1 b) := by show rowQ F g k D1 q1 (b + 1) = _; rw [HQ.out, HL1.out, Bool.or_false]
            clear HLo HLw HLn HQ HD HL1
            go_upto_region 8 with fail
            go_quiet (fail)
            have HS3 : Hid (IP (wr.drewN nq) Db n D2) := ip_dr HPn.out nq
            have HS4 : Hid (Only Db wa (wr.drewN nq)) := only_dr hO2 nq
            have m1 := cell_dr wr nq z2
            generalize wr.drewN nq = w10 at HS3 HS4 m1 ⊢
            go_wp2
            exact ⟨⟨b + 1, by omega, by go_num, by rw [HQ2.out], by rw [HX2.out]; exact HS3.out, HS4.out⟩, by simp [intOf]; omega⟩
        · have hbn : b = n := by omega
          subst hbn
          clear hA hI2
          go_wp2
          exact ⟨⟨k + 1, by omega, by go_num, by rw [HEq.out], by rw [HEd.out]; exact hP2, hO.trans hO2⟩, by simp [intOf]; omega⟩
    · have hkn : k = n := by omega
      subst hkn
      clear hA hI2 hD
      go_wp2
      go_ret
      exact ⟨rfl, hP, hO⟩
end Go.Proofs.Ytjmdghkhapajiaa
