/- Talkers marked by the law, and looked at again. -/
import Derived.Test.YtldagjgpapnfpaaQBuMf
namespace Go.Proofs.Ytldagjgpapnfpaa
open Go.RowKit
/-- the mark with which talker i begins -/
def tkK (t : Tks) (K : Nat) : Nat → Nat
  | 0 => K
  | i + 1 => frK (t.N i) (tkK t K i) (t.qm i) + 3
/-- .. and behind its frames -/
def tkE (t : Tks) (K i : Nat) : Nat := frK (t.N i) (tkK t K i) (t.qm i)
/-- the first p talkers are marked -/
def mrT (t : Tks) (K p : Nat) : Tks := { t with I := fun i => if i < p then (fun q => ((frK (t.N i) (tkK t K i) q : Nat) : Int)) else t.I i, sh := fun i => if i < p then ((tkE t K i : Nat) : Int) else t.sh i, er := fun i => if i < p then ((tkE t K i + 1 : Nat) : Int) else t.er i, of := fun i => if i < p then (((tkE t K i + 2 : Nat) : Int) % 3 == 0) else t.of i }
def mrS (t : Tks) (S : Nat → Nat → Nat → Int) (K p i : Nat) : Nat → Nat → Int := if i < p then (fun q j => bK (frK (t.N i) (tkK t K i) q + 1 + j)) else S i
section
variable {w w' : World} {lo hi g n : Nat} {t t' : Tks} {S S' : Nat → Nat → Nat → Int} {QA : Nat → Option Addr} {QC D : Nat → Nat}
theorem TkP.cong (h : TkP w lo hi g n t S QA QC D) (e : ∀ i, i < n → t.qm i = t'.qm i ∧ t.sh i = t'.sh i ∧ t.er i = t'.er i ∧ t.of i = t'.of i ∧ t.I i = t'.I i ∧ t.N i = t'.N i ∧ S i = S' i) : TkP w lo hi g n t' S' QA QC D := by
  refine ⟨h.glo, h.gd, h.hi, h.mon, h.lt, fun i hi => ?_, h.fz, fun i hi => ?_, fun i hi => ?_⟩
  · obtain ⟨e1, e2, e3, e4, -⟩ := e i hi
    rw [← e1, ← e2, ← e3, ← e4]; exact h.c i hi
  · obtain ⟨e1, -, -, -, e5, e6, e7⟩ := e i hi
    rw [← e1, ← e5, ← e6, ← e7]; exact h.f i hi
  · rw [← (e i hi).1]; exact h.s i hi
theorem set_ot {w : World} {g j k : Nat} {v : Value} (h : k ≠ j) : (w.setCell ⟨g, j, none⟩ v).cell? ⟨g, k, none⟩ = w.cell? ⟨g, k, none⟩ := World.cell?_setCell_other _ _ _ _ (by first | (simp; done) | (simp; omega))
theorem TkP.kept (h : TkP w lo hi g n t S QA QC D) (j : Nat) (v : Value) : ∀ i, i < n → FrQ (w.setCell ⟨g, j, none⟩ v) (D i) (D (i + 1)) (QA i) (t.qm i) (t.I i) (t.N i) (S i) := fun i hi =>
  (h.f i hi).turns (OnlyIn.of ((Only.refl g w).set j v) (Nat.le_refl g) (Nat.lt_succ_self g)).turns (.inr (by have := (h.dlo (Nat.le_of_lt hi)).2; omega))
theorem TkP.s1 (h : TkP w lo hi g n t S QA QC D) {k : Nat} (x : Int) : TkP (w.setCell ⟨g, k * 4 + 1, none⟩ (.int .i64 x)) lo hi g n { t with sh := fun i => if i = k then x else t.sh i } S QA QC D := by
  refine ⟨h.glo, h.gd, h.hi, h.mon, by simpa using h.lt, fun i hi => ?_, fun i => by simpa using h.fz i, h.kept _ _, h.s⟩
  obtain ⟨c0, c1, c2, c3⟩ := h.c i hi
  refine ⟨(set_ot (by omega)).trans c0, ?_, (set_ot (by omega)).trans c2, (set_ot (by omega)).trans c3⟩
  by_cases e : i = k
  · subst e; simp only [if_true]; exact World.cell?_setCell_same _ _ _ c1
  · simp only [if_neg e]; exact (set_ot (by omega)).trans c1
theorem TkP.s2 (h : TkP w lo hi g n t S QA QC D) {k : Nat} (x : Int) : TkP (w.setCell ⟨g, k * 4 + 2, none⟩ (.int .i64 x)) lo hi g n { t with er := fun i => if i = k then x else t.er i } S QA QC D := by
  refine ⟨h.glo, h.gd, h.hi, h.mon, by simpa using h.lt, fun i hi => ?_, fun i => by simpa using h.fz i, h.kept _ _, h.s⟩
  obtain ⟨c0, c1, c2, c3⟩ := h.c i hi
  refine ⟨(set_ot (by omega)).trans c0, (set_ot (by omega)).trans c1, ?_, (set_ot (by omega)).trans c3⟩
  by_cases e : i = k
  · subst e; simp only [if_true]; exact World.cell?_setCell_same _ _ _ c2
  · simp only [if_neg e]; exact (set_ot (by omega)).trans c2
theorem TkP.s3 (h : TkP w lo hi g n t S QA QC D) {k : Nat} (x : Bool) : TkP (w.setCell ⟨g, k * 4 + 3, none⟩ (.bool x)) lo hi g n { t with of := fun i => if i = k then x else t.of i } S QA QC D := by
  refine ⟨h.glo, h.gd, h.hi, h.mon, by simpa using h.lt, fun i hi => ?_, fun i => by simpa using h.fz i, h.kept _ _, h.s⟩
  obtain ⟨c0, c1, c2, c3⟩ := h.c i hi
  refine ⟨(set_ot (by omega)).trans c0, (set_ot (by omega)).trans c1, (set_ot (by omega)).trans c2, ?_⟩
  by_cases e : i = k
  · subst e; simp only [if_true]; exact World.cell?_setCell_same _ _ _ c3
  · simp only [if_neg e]; exact (set_ot (by omega)).trans c3
theorem TkP.sQ (h : TkP w lo hi g n t S QA QC D) {k : Nat} (hk : k < n) (hT : Turns (D k) (D (k + 1)) w w') {I' : Nat → Int} {S' : Nat → Nat → Int} (hq : FrQ w' (D k) (D (k + 1)) (QA k) (t.qm k) I' (t.N k) S') : TkP w' lo hi g n { t with I := fun i => if i = k then I' else t.I i } (fun i => if i = k then S' else S i) QA QC D := by
  have hg := (h.dlo (Nat.le_of_lt hk)).2
  have e := hT.block g h.lt (by omega)
  refine ⟨h.glo, h.gd, h.hi, h.mon, Nat.lt_of_lt_of_le h.lt hT.size, fun j hj => ⟨(cell_same e _).trans (h.c j hj).1, (cell_same e _).trans (h.c j hj).2.1, (cell_same e _).trans (h.c j hj).2.2.1, (cell_same e _).trans (h.c j hj).2.2.2⟩, fun i => (frozen_same e i).trans (h.fz i), fun j hj => ?_, h.s⟩
  by_cases c : j = k
  · subst c; simp only [if_true]; exact hq
  · simp only [if_neg c]
    refine (h.f j hj).turns hT ?_
    by_cases c2 : j < k
    · exact .inl (mono_le h.mon k (by omega) (Nat.le_of_lt hk))
    · exact .inr (mono_le h.mon j (by omega) (Nat.le_of_lt hj))
end
theorem mrT_zero (t : Tks) (K : Nat) : mrT t K 0 = t := by unfold mrT; simp
theorem mrS_zero (t : Tks) (S : Nat → Nat → Nat → Int) (K : Nat) : mrS t S K 0 = S := by funext i; unfold mrS; simp
set_option maxRecDepth 20000 in
set_option maxHeartbeats 8000000 in
theorem markTk (a : Option Addr) (n cap K lo hi : Nat) (t : Tks) (S : Nat → Nat → Nat → Int) (w : World) (hn : n ≤ 1048576) (hq : ∀ i, i < n → t.qm i ≤ 1048576) (hN : ∀ i, i < n → ∀ j, j < t.qm i → t.N i j ≤ 1048576) (hK : ∀ i, i < n → (∀ j, j ≤ t.qm i → frK (t.N i) (tkK t K i) j ≤ 16777210)) (h : TkQ w lo hi a n t S) :
    Calls Try.prog 15 #[.slice a n cap, .int .i64 (K : Int)] w fun e w' => e = .returned (.int .i64 ((tkK t K n : Nat) : Int)) ∧ TkQ w' lo hi a n (mrT t K n) (mrS t S K n) ∧ Turns lo hi w w' := by
  by_cases h0 : 0 < n
  case neg =>
    obtain rfl : n = 0 := by omega
    go_enter Try.func15, Try.ntmps15
    go_wp2
    go_loopw [1, 5] (fun q i wr => i = .int .i64 0 ∧ q = .int .i64 (K : Int) ∧ wr = w) (fun _ _ _ => 0)
    case atStart => exact ⟨rfl, rfl, rfl⟩
    case round =>
      obtain ⟨rfl, rfl, hw⟩ := hrel
      subst hw
      go_wp2
      go_ret
      exact ⟨rfl, tkq_none _ _ _ _ _ _, turns_of (Below.refl _ _)⟩
  case pos =>
    obtain ⟨g, QA, QC, D, rfl, hP⟩ := h h0
    have HP0 : Hid (TkP w lo hi g n (mrT t K 0) (mrS t S K 0) QA QC D) := by show TkP _ _ _ _ _ _ _ _ _ _; rw [mrT_zero, mrS_zero]; exact hP
    have HN : Hid (∀ i, i < n → ∀ j, j < t.qm i → t.N i j ≤ 1048576) := hN
    have HQm : Hid (∀ i, i < n → t.qm i ≤ 1048576) := hq
    have HK : Hid (∀ i, i < n → (∀ j, j ≤ t.qm i → frK (t.N i) (tkK t K i) j ≤ 16777210)) := hK
    clear h hP hN hK hq
    go_enter Try.func15, Try.ntmps15
    go_wp2
    go_loopw [1, 5] (fun q i wr => ∃ (k Q : Nat), k ≤ n ∧ i = .int .i64 (k : Int) ∧ q = .int .i64 (Q : Int) ∧ Hid (Q = tkK t K k) ∧ Hid (TkP wr lo hi g n (mrT t K k) (mrS t S K k) QA QC D) ∧ Turns lo hi w wr) (fun _ i _ => n - (intOf i).toNat)
    case atStart => exact ⟨0, K, Nat.zero_le _, rfl, rfl, (rfl : K = tkK t K 0), HP0, turns_of (Below.refl _ _)⟩
    case round =>
      obtain ⟨k, Q, hk, rfl, rfl, HQ, HP, hT⟩ := hrel
      clear HP0
      by_cases hlt : k < n
      · obtain ⟨c0, c1, c2, c3⟩ := HP.out.c k hlt
        have l0 := HP.out.lt
        have i0 : (0 : Int) ≤ (k : Int) := by omega
        have i1 : (k : Int) < (n : Int) := by omega
        have kM := markFr (QA k) (t.qm k) (QC k) Q (D k) (D (k + 1)) ((mrT t K k).I k) (t.N k) ((mrS t S K k) k) wr (HQm.out k hlt) (HN.out k hlt) (by rw [HQ.out]; have := HK.out k hlt (t.qm k) (Nat.le_refl _); omega) (fun j hj => by rw [HQ.out]; have := HK.out k hlt j (by omega); omega) (HP.out.f k hlt)
        obtain ⟨E, hE⟩ : ∃ E, E = frK (t.N k) Q (t.qm k) := ⟨_, rfl⟩
        rw [← hE] at kM
        have hEb : E ≤ 16777210 := by rw [hE, HQ.out]; exact HK.out k hlt _ (Nat.le_refl _)
        have HE : Hid (E = tkE t K k) := by show E = frK _ _ _; rw [hE, HQ.out]
        have HE3 : Hid (E + 3 = tkK t K (k + 1)) := by show E + 3 = frK _ _ _ + 3; rw [hE, HQ.out]
        have hlo := HP.out.dlo (Nat.le_of_lt hlt)
        have hhi := HP.out.dhi (show k + 1 ≤ n by omega)
        obtain ⟨X1, e1⟩ : ∃ X, X = QA k := ⟨_, rfl⟩
        obtain ⟨X2, e2⟩ : ∃ X, X = t.qm k := ⟨_, rfl⟩
        obtain ⟨X3, e3⟩ : ∃ X, X = QC k := ⟨_, rfl⟩
        have c0' : wr.cell? ⟨g, k * 4, none⟩ = some (.slice X1 X2 X3) := by rw [e1, e2, e3]; exact c0
        rw [← e1, ← e2, ← e3] at kM
        have HX : Hid (X1 = QA k ∧ X2 = t.qm k) := ⟨e1, e2⟩
        have HQ1 : Hid (Q = tkK t K k) := HQ
        clear e1 e2 e3 hE c0 c1 c2 c3 HQ
        go_wp2_with fail
        refine kM.mono ?_
        rintro e w5 ⟨rfl, hq5, hT5⟩
        obtain ⟨e1, e2⟩ := HX.out
        rw [e1, e2] at hq5
        have hP5 := HP.out.sQ hlt hT5 hq5
        have hT6 := hT.trans (hT5.wide hlo.1 hhi)
        clear kM hq5 hT5 hT HP e1 e2 c0'
        obtain ⟨b0, b1, b2, b3⟩ := hP5.c k hlt
        have l5 := hP5.lt
        have f1 := hP5.fz (k * 4 + 1)
        have f2 := hP5.fz (k * 4 + 2)
        have f3 := hP5.fz (k * 4 + 3)
        generalize (mrT t K k).sh k = Y1 at b1
        generalize (mrT t K k).er k = Y2 at b2
        generalize (mrT t K k).of k = Y3 at b3
        obtain ⟨Z, hZ⟩ : ∃ Z, Z = ((((E + 2 : Nat) : Int) % 3) == 0) := ⟨_, rfl⟩
        have hP6 := ((hP5.s1 (k := k) ((E : Nat) : Int)).s2 (k := k) ((E : Int) + 1)).s3 (k := k) Z
        have hO := (((Only.refl g w5).set (k * 4 + 1) (.int .i64 (E : Int))).set (k * 4 + 2) (.int .i64 ((E : Int) + 1))).set (k * 4 + 3) (.bool Z)
        have hT7 := hT6.trans (OnlyIn.of hO hP5.glo hP5.ghi).turns
        have HP7 : Hid (TkP _ lo hi g n (mrT t K (k + 1)) (mrS t S K (k + 1)) QA QC D) := hP6.cong fun i hi => by
          unfold mrT mrS
          by_cases c : i = k
          · subst c
            simp only [if_true, Nat.lt_irrefl, if_false, Nat.lt_succ_self]
            refine ⟨trivial, by rw [HE.out], by rw [HE.out]; first | rfl | (simp; done) | omega, by rw [hZ, HE.out], by rw [HQ1.out], trivial, by rw [HQ1.out]⟩
          · simp only [if_neg c]
            by_cases c2 : i < k
            · simp only [if_pos c2, if_pos (show i < k + 1 by omega)]
              exact ⟨trivial, trivial, trivial, trivial, trivial, trivial, trivial⟩
            · simp only [if_neg c2, if_neg (show ¬ i < k + 1 by omega)]
              exact ⟨trivial, trivial, trivial, trivial, trivial, trivial, trivial⟩
        have hz1 : (((E : Int) + 1 + 1) % 3 == 0) = Z := by rw [hZ]; congr 2
        have hz2 : (((E : Int) + 2) % 3 == 0) = Z := by rw [hZ]; congr 2
        clear hP5 hP6 hO hT6 hZ
        go_wp2
        exact ⟨⟨k + 1, E + 3, by omega, by go_num, by go_num, HE3, HP7, hT7⟩, by simp [intOf]; omega⟩
      · have hke : k = n := by omega
        subst hke
        go_wp2
        go_ret
        exact ⟨ret_int (by rw [HQ.out]), fun _ => ⟨_, _, _, _, rfl, HP.out⟩, hT⟩
end Go.Proofs.Ytldagjgpapnfpaa
