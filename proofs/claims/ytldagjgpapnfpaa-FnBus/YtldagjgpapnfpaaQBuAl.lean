/- RunBus in one word: what both bodies tell, whatever they are asked. -/
import Derived.Test.YtldagjgpapnfpaaQBuZb
import Derived.Test.YtldagjgpapnfpaaQBuMh
import Derived.Test.YtldagjgpapnfpaaQBuSk
namespace Go.Proofs.Ytldagjgpapnfpaa
open Go.RowKit
abbrev alT (t : Tks) (QA : Nat → Option Addr) (QC : Nat → Nat) (AA : Nat → Nat → Option Addr) (CC : Nat → Nat → Nat) : Tks := { t with qa := QA, qc := QC, A := AA, C := CC }
theorem tks_al (t : Tks) (QA QC AA CC) : ∀ n, tksB (alT t QA QC AA CC) n = tksB t n
  | 0 => rfl
  | n + 1 => by
    show (tksB (alT t QA QC AA CC) n && tgB t n) = (tksB t n && tgB t n)
    rw [tks_al t QA QC AA CC n]
theorem rb_al (t : Tks) (QA QC AA CC) (n : Nat) (R W : Int) (sn : Nat) : rbB (alT t QA QC AA CC) n R W sn = rbB t n R W sn := by
  unfold rbB
  rw [tks_al]
theorem ct_al (t : Tks) (QA QC AA CC) (LF : Nat → Nat) (SE EC : Nat → Int) : ∀ k, ctL (alT t QA QC AA CC) LF SE EC k = ctL t LF SE EC k
  | 0 => rfl
  | k + 1 => by
    unfold ctL
    rw [ct_al t QA QC AA CC LF SE EC k]
theorem nx_al (t : Tks) (QA QC AA CC) (LF : Nat → Nat) (l : List Nat) : nxK (alT t QA QC AA CC) LF l = nxK t LF l := rfl
theorem run_al (t : Tks) (QA QC AA CC) (n : Nat) (W : Int) (sp : Nat → Bool) : ∀ r, runS (alT t QA QC AA CC) n W sp r = runS t n W sp r
  | 0 => rfl
  | r + 1 => by
    show stpS (alT t QA QC AA CC) n W sp r (runS (alT t QA QC AA CC) n W sp r) = stpS t n W sp r (runS t n W sp r)
    rw [run_al t QA QC AA CC n W sp r]
    generalize runS t n W sp r = s
    have hc : conS (alT t QA QC AA CC) n W r s = conS t n W r s := ct_al t QA QC AA CC _ _ _ n
    unfold stpS
    simp only [hc, nx_al]
def ruS (t : Tks) (n : Nat) (W : Int) (sf : Nat → Int) (sn : Nat) (R : Int) : BS := runS t n W (fun r => hsB sf sn (r : Int)) R.toNat
def ruL (t : Tks) (n : Nat) (R W : Int) (sn : Nat) (sf : Nat → Int) : List (Int × Int × Int × Bool) := if rbB t n R W sn = true then (ruS t n W sf sn R).out else []
def ruN (t : Tks) (n : Nat) (R W : Int) (sn : Nat) : Nat := if rbB t n R W sn = true then n else 0
def ruT (t : Tks) (n : Nat) (R W : Int) (sn : Nat) (sf : Nat → Int) : Tks := nwT t (ruS t n W sf sn R).LF (ruS t n W sf sn R).EC
def ruW (t : Tks) (S : Nat → Nat → Nat → Int) (n : Nat) (R W : Int) (sn : Nat) (sf : Nat → Int) : Nat → Nat → Nat → Int := nwS S (ruS t n W sf sn R).LF
def AnsP (w w' : World) (e : Ending) (L N : Nat) (X Y Z : Nat → Int) (G : Nat → Bool) (T : Tks) (V : Nat → Nat → Nat → Int) (B : Bool) : Prop :=
  ∃ (a0 : Option Addr) (c0 : Nat) (a1 : Option Addr) (c1 base mid : Nat), e = .returned (.tuple #[.slice a0 L c0, .slice a1 N c1, .bool B]) ∧ w.heap.size ≤ base ∧ w.heap.size ≤ mid ∧ mid ≤ w'.heap.size ∧ SnQ w' base mid a0 L X Y Z G ∧ TkQ w' mid w'.heap.size a1 N T V
def AnsM (w' : World) (e : Ending) (L N : Nat) (X Y Z : Nat → Int) (G : Nat → Bool) (T : Tks) (V : Nat → Nat → Nat → Int) (B : Bool) : Prop :=
  ∃ (a0 : Option Addr) (c0 : Nat) (a1 : Option Addr) (c1 base : Nat) (QA : Nat → Option Addr) (QC : Nat → Nat) (AA : Nat → Nat → Option Addr) (CC : Nat → Nat → Nat), e = .returned (.tuple #[.slice a0 L c0, .slice a1 N c1, .bool B]) ∧ SnQ w' base w'.heap.size a0 L X Y Z G ∧ TkF w' a1 N (alT T QA QC AA CC) V
theorem snq_none (w : World) (lo hi : Nat) (a : Option Addr) (X Y Z : Nat → Int) (G : Nat → Bool) : SnQ w lo hi a 0 X Y Z G := fun h => absurd h (Nat.lt_irrefl _)
theorem tkf_none (w : World) (a : Option Addr) (t : Tks) (S : Nat → Nat → Nat → Int) : TkF w a 0 t S := ⟨⟨fun h => absurd h (Nat.lt_irrefl _), fun _ hi => absurd hi (Nat.not_lt_zero _)⟩, fun _ hi => absurd hi (Nat.not_lt_zero _), fun _ hi => absurd hi (Nat.not_lt_zero _), fun _ hi => absurd hi (Nat.not_lt_zero _)⟩
/-- the program -/
theorem iRunU (a : Option Addr) (n c lo hi : Nat) (t : Tks) (S : Nat → Nat → Nat → Int) (R W : Int) (sa : Option Addr) (sn sc : Nat) (sf : Nat → Int) (w : World) (hn : n ≤ 1048576) (hq : ∀ i, i < n → t.qm i ≤ 1048576) (hN : ∀ i, i < n → ∀ j, j < t.qm i → t.N i j ≤ 1048576) (hT : TkQ w lo hi a n t S) (hS : IL w sa sn sf) :
    Calls Try.prog 6 #[.slice a n c, .int .i64 R, .int .i64 W, .slice sa sn sc] w fun e w' => AnsP w w' e (ruL t n R W sn sf).length (ruN t n R W sn) (sn1 (ruL t n R W sn sf)) (sn2 (ruL t n R W sn sf)) (sn3 (ruL t n R W sn sf)) (sn4 (ruL t n R W sn sf)) (ruT t n R W sn sf) (ruW t S n R W sn sf) (rbB t n R W sn) ∧ Below w.heap.size w w' := by
  obtain ⟨QA, QC, AA, CC, hF⟩ := hT.tf
  cases hr : rbB t n R W sn with
  | false =>
    refine (iRun_no a n c (alT t QA QC AA CC) R W sa sn sc w hn hq hF.h ((rb_al t QA QC AA CC n R W sn).trans hr)).mono ?_
    rintro e w' ⟨rfl, hb⟩
    unfold ruL ruN
    rw [if_neg (by rw [hr]; decide), if_neg (by rw [hr]; decide)]
    exact ⟨⟨none, 0, none, 0, w.heap.size, w.heap.size, rfl, Nat.le_refl _, Nat.le_refl _, hb.size, snq_none _ _ _ _ _ _ _ _, tkq_none _ _ _ _ _ _⟩, hb⟩
  | true =>
    refine (iRun_in a n c (alT t QA QC AA CC) S R W sa sn sc sf w hF hN hS ((rb_al t QA QC AA CC n R W sn).trans hr)).mono ?_
    rintro e w' ⟨⟨sv, a1, c1, base, mid, he, h1, h2, h3, hO, hm, hQ, hs⟩, hb⟩
    obtain ⟨a0, c0, rfl⟩ := hO.shape
    rw [run_al] at he hO hQ hm
    unfold ruL ruN
    rw [if_pos hr, if_pos hr]
    exact ⟨⟨a0, c0, a1, c1, base, mid, he, h1, h2, h3, hO.sq hm, fun h0 => by
      obtain ⟨g, q1, q2, D, e, hP⟩ := hQ h0
      exact ⟨g, q1, q2, D, e, hP.cong fun i _ => ⟨rfl, rfl, rfl, rfl, rfl, rfl, rfl⟩⟩⟩, hb⟩
/-- the model -/
theorem sRunU (a : Option Addr) (n c lo hi : Nat) (t : Tks) (S : Nat → Nat → Nat → Int) (R W : Int) (sa : Option Addr) (sn sc : Nat) (sf : Nat → Int) (w : World) (hq : ∀ i, i < n → t.qm i ≤ 1048576) (hN : ∀ i, i < n → ∀ j, j < t.qm i → t.N i j ≤ 1048576) (hT : TkQ w lo hi a n t S) (hS : IL w sa sn sf) :
    Calls Try.prog 7 #[.slice a n c, .int .i64 R, .int .i64 W, .slice sa sn sc] w fun e w' => AnsM w' e (ruL t n R W sn sf).length (ruN t n R W sn) (sn1 (ruL t n R W sn sf)) (sn2 (ruL t n R W sn sf)) (sn3 (ruL t n R W sn sf)) (sn4 (ruL t n R W sn sf)) (ruT t n R W sn sf) (ruW t S n R W sn sf) (rbB t n R W sn) ∧ Below w.heap.size w w' := by
  obtain ⟨QA, QC, AA, CC, hF⟩ := hT.tf
  refine (sRun a n c (alT t QA QC AA CC) S R W sa sn sc sf w hF hq hN hS).mono ?_
  rintro e w' ⟨⟨hr, rfl⟩ | ⟨hr, hA⟩, hb⟩
  · rw [rb_al] at hr
    unfold ruL ruN
    rw [if_neg (by rw [hr]; decide), if_neg (by rw [hr]; decide), hr]
    exact ⟨⟨none, 0, none, 0, 0, t.qa, t.qc, t.A, t.C, rfl, snq_none _ _ _ _ _ _ _ _, tkf_none _ _ _ _⟩, hb⟩
  · rw [rb_al] at hr
    rw [run_al] at hA
    obtain ⟨sv, a1, c1, base, QA', QC', AA', CC', he, hO, hF'⟩ := hA
    obtain ⟨a0, c0, rfl⟩ := hO.shape
    unfold ruL ruN
    rw [if_pos hr, if_pos hr, hr]
    exact ⟨⟨a0, c0, a1, c1, base, QA', QC', AA', CC', he, hO.sq (fun q hq => (World.ownsRow.lt hO q hq).2), hF'⟩, hb⟩
theorem ru_len (t : Tks) (n : Nat) (R W : Int) (sn : Nat) (sf : Nat → Int) : (ruL t n R W sn sf).length ≤ 40 := by
  unfold ruL
  split
  · rename_i h
    obtain ⟨_, hg, ⟨r0, r1⟩, _⟩ := rbB_t h
    have := (run_ok t n W (fun r => hsB sf sn (r : Int)) (fun i hi => (tks_facts hg i hi).2.1) R.toNat).ln
    unfold ruS
    omega
  · exact Nat.zero_le _
theorem ru_num (t : Tks) (n : Nat) (R W : Int) (sn : Nat) (sf : Nat → Int) : ruN t n R W sn ≤ 6 ∧ (∀ i, i < ruN t n R W sn → (ruT t n R W sn sf).qm i ≤ 8 ∧ ∀ j, j < (ruT t n R W sn sf).qm i → (ruT t n R W sn sf).N i j ≤ 8) := by
  unfold ruN
  split
  · rename_i h
    obtain ⟨hn, hg, _⟩ := rbB_t h
    refine ⟨hn, fun i hi => ⟨?_, fun j hj => ?_⟩⟩
    · have := (tks_facts hg i hi).1
      show t.qm i - _ ≤ 8
      omega
    · have hj' : j < t.qm i - (ruS t n W sf sn R).LF i := hj
      exact tks_small hg i hi _ (by omega)
  · exact ⟨Nat.zero_le _, fun _ hi => absurd hi (Nat.not_lt_zero _)⟩
/-- talkers of two calls held against each other -/
theorem eqTa (a1 a2 : Option Addr) (n c1 c2 lo hi : Nat) (t : Tks) (QA QC AA CC) (S : Nat → Nat → Nat → Int) (w : World) (hn : n ≤ 1048576) (hq : ∀ i, i < n → t.qm i ≤ 1048576) (hN : ∀ i, i < n → ∀ j, j < t.qm i → t.N i j ≤ 1048576) (h1 : TkQ w lo hi a1 n t S) (h2 : TkF w a2 n (alT t QA QC AA CC) S) :
    Calls Try.prog 13 #[.slice a1 n c1, .slice a2 n c2] w fun e w' => e = .returned (.bool true) ∧ Below w.heap.size w w' := by
  obtain ⟨QA', QC', AA', CC', hF⟩ := h1.tf
  exact eqTalkerS_any a1 a2 n c1 c2 (alT t QA' QC' AA' CC') (alT t QA QC AA CC) S w hn hq hN ⟨rfl, rfl, rfl, rfl, rfl, rfl⟩ hF h2
theorem eqTb (a1 a2 : Option Addr) (n c1 c2 lo hi lo2 hi2 : Nat) (t : Tks) (S : Nat → Nat → Nat → Int) (w : World) (hn : n ≤ 1048576) (hq : ∀ i, i < n → t.qm i ≤ 1048576) (hN : ∀ i, i < n → ∀ j, j < t.qm i → t.N i j ≤ 1048576) (h1 : TkQ w lo hi a1 n t S) (h2 : TkQ w lo2 hi2 a2 n t S) :
    Calls Try.prog 13 #[.slice a1 n c1, .slice a2 n c2] w fun e w' => e = .returned (.bool true) ∧ Below w.heap.size w w' := by
  obtain ⟨QA', QC', AA', CC', hF⟩ := h2.tf
  exact eqTa a1 a2 n c1 c2 lo hi t QA' QC' AA' CC' S w hn hq hN h1 hF
theorem tkK_bd {t : Tks} {n : Nat} {l : Int} (hl : 0 ≤ l ∧ l ≤ 1048576) (h : 0 ≤ szTk t n l) : tkK t 1 n ≤ 16777216 := by
  unfold szTk at h
  split at h
  · omega
  · rename_i c
    have := szT_sum (t := t) (L := l - n) (n := n) (by omega) h 1 n (Nat.le_refl _)
    omega
end Go.Proofs.Ytldagjgpapnfpaa
