/- The bus: a list of talkers, whether all are good, and the speakers that are made of them. -/
import Derived.Test.YtldagjgpapnfpaaQSpS
namespace Go.Proofs.Ytldagjgpapnfpaa
open Go.RowKit
/-- the talkers of a list, by their number -/
structure Tks where
  qa : Nat → Option Addr
  qm : Nat → Nat
  qc : Nat → Nat
  sh : Nat → Int
  er : Nat → Int
  of : Nat → Bool
  I : Nat → Nat → Int
  A : Nat → Nat → Option Addr
  N : Nat → Nat → Nat
  C : Nat → Nat → Nat
structure TkH (w : World) (a : Option Addr) (n : Nat) (t : Tks) : Prop where
  out : 0 < n → ∃ b off, a = some ⟨b, off, none⟩ ∧ b < w.heap.size ∧ ∀ i, i < n → w.cell? ⟨b, off + i * 4, none⟩ = some (.slice (t.qa i) (t.qm i) (t.qc i)) ∧ w.cell? ⟨b, off + i * 4 + 1, none⟩ = some (.int .i64 (t.sh i)) ∧ w.cell? ⟨b, off + i * 4 + 2, none⟩ = some (.int .i64 (t.er i)) ∧ w.cell? ⟨b, off + i * 4 + 3, none⟩ = some (.bool (t.of i))
  fr : ∀ i, i < n → FrH w (t.qa i) (t.qm i) (t.I i) (t.A i) (t.N i) (t.C i)
theorem TkH.below {w w' : World} {a : Option Addr} {n : Nat} {t : Tks} (h : TkH w a n t) (hb : Below w.heap.size w w') : TkH w' a n t := by
  refine ⟨fun h0 => ?_, fun i hi => (h.fr i hi).below hb⟩
  obtain ⟨b, off, rfl, hl, hc⟩ := h.out h0
  exact ⟨b, off, rfl, Nat.lt_of_lt_of_le hl hb.size, fun i hi => ⟨(hb.cell (p := ⟨b, _, none⟩) hl).trans (hc i hi).1, (hb.cell (p := ⟨b, _, none⟩) hl).trans (hc i hi).2.1, (hb.cell (p := ⟨b, _, none⟩) hl).trans (hc i hi).2.2.1, (hb.cell (p := ⟨b, _, none⟩) hl).trans (hc i hi).2.2.2⟩⟩
def tgB (t : Tks) (i : Nat) : Bool := tkB (t.qm i) (t.I i) (t.N i) (t.sh i) (t.er i) (t.of i)
/-- the first k talkers are good -/
def tksB (t : Tks) : Nat → Bool
  | 0 => true
  | k + 1 => tksB t k && tgB t k
theorem tksB_no {t : Tks} {m k : Nat} (hk : k < m) (h : tgB t k = false) : tksB t m = false := by
  induction m with
  | zero => omega
  | succ m ih =>
    unfold tksB
    rcases Nat.lt_or_eq_of_le (Nat.le_of_lt_succ hk) with h1 | rfl
    · rw [ih h1]; rfl
    · rw [h, Bool.and_false]
set_option maxRecDepth 20000 in
set_option maxHeartbeats 4000000 in
theorem iTalkers (a : Option Addr) (n c : Nat) (t : Tks) (w : World) (hn : n ≤ 1048576) (hq : ∀ i, i < n → t.qm i ≤ 1048576) (hT : TkH w a n t) :
    Calls Try.prog 25 #[.slice a n c] w fun e w' => e = .returned (.bool (decide (n ≤ 6) && tksB t n)) ∧ Below w.heap.size w w' := by
  by_cases h6 : 6 < n
  · have j : (6 : Int) < (n : Int) := by omega
    rw [decide_eq_false (by omega), Bool.false_and]
    go_enter Try.func25, Try.ntmps25
    go_wp2
    go_ret
    exact ⟨rfl, Below.refl _ _⟩
  · have j : ¬ (6 : Int) < (n : Int) := by omega
    rw [decide_eq_true (by omega : n ≤ 6), Bool.true_and]
    have HT : Hid (TkH w a n t) := hT
    have HQ : Hid (∀ i, i < n → t.qm i ≤ 1048576) := hq
    have HNo : Hid (∀ k, k < n → tgB t k = false → tksB t n = false) := fun k hk h => tksB_no hk h
    clear hT hq
    generalize hV : tksB t n = V at *
    have HV : Hid (tksB t n = V) := hV
    clear hV
    go_enter Try.func25, Try.ntmps25
    go_wp2
    go_loopw [10] (fun i wr => ∃ k : Nat, k ≤ n ∧ i = .int .i64 (k : Int) ∧ Hid (tksB t k = true) ∧ Below w.heap.size w wr) (fun i _ => n - (intOf i).toNat)
    case atStart => exact ⟨0, Nat.zero_le _, rfl, (rfl : tksB t 0 = true), Below.refl _ _⟩
    case round =>
      obtain ⟨k, hk, rfl, HE, hB⟩ := hrel
      by_cases hlt : k < n
      · have hT2 := HT.out.below hB
        obtain ⟨b1, o1, rfl, l1, hc1⟩ := hT2.out (by omega)
        obtain ⟨y0, y1, y2, y3⟩ := hc1 k hlt
        have hFr := hT2.fr k hlt
        have i0 : (0 : Int) ≤ (k : Int) := by omega
        have i1 : (k : Int) < (n : Int) := by omega
        have hqk := HQ.out k hlt
        have HY : Hid (tgB t k = true → tksB t (k + 1) = true) := fun h => by rw [tksB, HE.out, h]; rfl
        have HN : Hid (tgB t k = false → V = false) := HNo.out k hlt
        unfold tgB at HY HN
        clear hc1 hT2 HE
        generalize t.qa k = X0 at *
        generalize t.qm k = X1 at *
        generalize t.qc k = X2 at *
        generalize t.sh k = X3 at *
        generalize t.er k = X4 at *
        generalize t.of k = X5 at *
        generalize t.I k = X6 at *
        generalize t.A k = X7 at *
        generalize t.N k = X8 at *
        generalize t.C k = X9 at *
        have hbt : Below wr.heap.size wr (wr.alloc (tkO X0 X1 X2 X3 X4 X5 51)) := (Below.refl _ _).alloc (Nat.le_refl _) _
        have b3 := bx_new (w := wr) (tkL X0 X1 X2 X3 X4 X5) 51 rfl
        have z0 := b3.c0
        have z1 := b3.c1
        have z2 := b3.c2
        have z3 := b3.c3
        have kG := iTalker X0 X1 X2 X6 X7 X8 X9 X3 X4 X5 _ hqk (hFr.below hbt)
        have hB3 := stepA hB hbt
        clear b3 hFr
        cases hg : tkB X1 X6 X8 X3 X4 X5 with
        | true =>
          rw [hg] at kG
          have HR : Hid (tksB t (k + 1) = true) := HY.out hg
          clear HY HN
          go_wp2_with fail
          refine kG.mono ?_
          rintro e w4 ⟨rfl, hb4⟩
          have hB4 := stepA hB3 hb4
          clear kG hb4 hB3 hbt
          go_wp2
          exact ⟨⟨k + 1, by omega, by go_num, HR, hB4⟩, by simp [intOf]; omega⟩
        | false =>
          rw [hg] at kG
          have HR : Hid (V = false) := HN.out hg
          clear HY HN
          go_wp2_with fail
          refine kG.mono ?_
          rintro e w4 ⟨rfl, hb4⟩
          have hB4 := stepA hB3 hb4
          clear kG hb4 hB3 hbt
          go_wp2
          go_ret
          exact ⟨by rw [HR.out]; rfl, hB4⟩
      · have hke : k = n := by omega
        have HR : Hid (V = true) := by show V = true; rw [← HV.out, ← hke]; exact HE.out
        have i1 : ¬ (k : Int) < (n : Int) := by omega
        clear HE HNo hke
        go_wp2
        go_ret
        exact ⟨by rw [HR.out]; rfl, hB⟩
end Go.Proofs.Ytldagjgpapnfpaa
