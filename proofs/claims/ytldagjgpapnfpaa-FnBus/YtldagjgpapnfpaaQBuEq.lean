/- Talkers compared by the law. -/
import Derived.Test.YtldagjgpapnfpaaQBuQ
import Derived.Test.YtldagjgpapnfpaaQBuR
import Derived.Deep.RegionHeld3
namespace Go.Proofs.Ytldagjgpapnfpaa
open Go.RowKit
theorem keepN {w w' : World} {b : Nat} {j : Nat} {v : Value} (h : w.cell? ⟨b, j, none⟩ = some v) (l : b < w.heap.size) (k : Below w.heap.size w w') : w'.cell? ⟨b, j, none⟩ = some v := (k.cell (p := ⟨b, j, none⟩) l).trans h
set_option maxRecDepth 20000 in
set_option maxHeartbeats 4000000 in
theorem eqFrameS_any (a1 a2 : Option Addr) (m c1 c2 : Nat) (I : Nat → Int) (A1 A2 : Nat → Option Addr) (N C1 C2 : Nat → Nat) (S : Nat → Nat → Int) (w : World) (hm : m ≤ 1048576) (hN : ∀ j, j < m → N j ≤ 1048576) (h1 : FrF w a1 m I A1 N C1 S) (h2 : FrF w a2 m I A2 N C2 S) :
    Calls Try.prog 54 #[.slice a1 m c1, .slice a2 m c2] w fun e w' => e = .returned (.bool true) ∧ Below w.heap.size w w' := by
  have H1 : Hid (FrF w a1 m I A1 N C1 S) := h1
  have H2 : Hid (FrF w a2 m I A2 N C2 S) := h2
  have HN : Hid (∀ j, j < m → N j ≤ 1048576) := hN
  clear h1 h2 hN
  go_enter Try.func54, Try.ntmps54
  go_wp2
  go_loopw [5] (fun i wr => ∃ k : Nat, k ≤ m ∧ i = .int .i64 k ∧ Below w.heap.size w wr) (fun i _ => m - (intOf i).toNat)
  case atStart => exact ⟨0, Nat.zero_le _, rfl, Below.refl _ _⟩
  case round =>
    obtain ⟨k, hk, rfl, hB⟩ := hrel
    by_cases hlt : k < m
    · have F1 := H1.out.below hB
      have F2 := H2.out.below hB
      obtain ⟨b1, o1, rfl, l1, d1⟩ := F1.h (by omega)
      obtain ⟨b2, o2, rfl, l2, d2⟩ := F2.h (by omega)
      obtain ⟨x0, x1⟩ := d1 k hlt
      obtain ⟨y0, y1⟩ := d2 k hlt
      have hlt' : (k : Int) < (m : Int) := by omega
      have hw0 := Below.refl wr.heap.size wr
      have kE := fun w2 hw => eqFrame_any (I k) (A1 k) (A2 k) (N k) (C1 k) (C2 k) (S k) w2 (HN.out k hlt) ((F1.y k hlt).below hw) ((F2.y k hlt).below hw)
      clear d1 d2 F1 F2
      generalize I k = X0 at *
      generalize A1 k = X1 at *
      generalize A2 k = X2 at *
      generalize N k = X3 at *
      generalize C1 k = X4 at *
      generalize C2 k = X5 at *
      go_wp2_with fail
      go_region_held3 (fun w' => w'.cell? ⟨b1, o1 + k * 2, none⟩ = some (.int .i64 X0) ∧ w'.cell? ⟨b1, o1 + k * 2 + 1, none⟩ = some (.slice X1 X3 X4) ∧ w'.cell? ⟨b2, o2 + k * 2, none⟩ = some (.int .i64 X0) ∧ w'.cell? ⟨b2, o2 + k * 2 + 1, none⟩ = some (.slice X2 X3 X5))
        (first | (exact ⟨keepN x0 l1 hw0.drew, keepN x1 l1 hw0.drew, keepN y0 l2 hw0.drew, keepN y1 l2 hw0.drew⟩) | (exact ⟨keepN x0 l1 hw1, keepN x1 l1 hw1, keepN y0 l2 hw1, keepN y1 l2 hw1⟩) | (fail))
        ((go_at_call 70; refine (kE _ hw0.drew).mono ?_; rintro e w1 ⟨rfl, hbn⟩; have hw1 := stepA hw0.drew hbn; clear hbn))
      go_wp2
      go_roundw
      case rel => exact ⟨k + 1, by omega, by go_num, hB.trans (hw1.mono hB.size)⟩
      case measure => simp [intOf]; omega
    · go_wp2
      go_ret
      exact ⟨rfl, hB⟩
set_option maxRecDepth 20000 in
set_option maxHeartbeats 4000000 in
theorem eqTalker_any (a1 a2 : Option Addr) (m c1 c2 : Nat) (sh er : Int) (of : Bool) (I : Nat → Int) (A1 A2 : Nat → Option Addr) (N C1 C2 : Nat → Nat) (S : Nat → Nat → Int) (w : World) (hm : m ≤ 1048576) (hN : ∀ j, j < m → N j ≤ 1048576) (h1 : FrF w a1 m I A1 N C1 S) (h2 : FrF w a2 m I A2 N C2 S) :
    Calls Try.prog 40 #[tkv a1 m c1 sh er of, tkv a2 m c2 sh er of] w fun e w' => e = .returned (.bool true) ∧ Below w.heap.size w w' := by
  have hb : Below w.heap.size w ((w.alloc (tkO a1 m c1 sh er of 51)).alloc (tkO a2 m c2 sh er of 51)) := ((Below.refl _ _).alloc (Nat.le_refl _) _).alloc (by simp) _
  have kE := eqFrameS_any a1 a2 m c1 c2 I A1 A2 N C1 C2 S ((w.alloc (tkO a1 m c1 sh er of 51)).alloc (tkO a2 m c2 sh er of 51)) hm hN (h1.below hb) (h2.below hb)
  have B1 := (bx_new (w := w) (tkL a1 m c1 sh er of) 51 rfl).alloc (tkO a2 m c2 sh er of 51)
  have B2 := bx_new (w := w.alloc (tkO a1 m c1 sh er of 51)) (tkL a2 m c2 sh er of) 51 rfl
  simp only [size_al] at B2
  have j1 : (of != of) = false := by cases of <;> rfl
  have j2 : (sh != sh) = false := by simp
  have j3 : (er != er) = false := by simp
  go_enter Try.func40, Try.ntmps40
  clear h1 h2 hN
  go_wp2_with fail
  refine kE.mono ?_
  rintro e w3 ⟨rfl, hb3⟩
  have D1 := B1.on hb3
  have D2 := B2.on hb3
  have hB3 := stepA hb hb3
  have x1 := D1.c1
  have x2 := D1.c2
  have x3 := D1.c3
  have y1 := D2.c1
  have y2 := D2.c2
  have y3 := D2.c3
  have l1 := D1.lt
  have l2 := D2.lt
  clear kE B1 B2 hb hb3 D1 D2
  go_wp2
  go_ret
  exact ⟨rfl, hB3⟩
set_option maxRecDepth 20000 in
set_option maxHeartbeats 4000000 in
theorem eqTalkerS_any (a1 a2 : Option Addr) (n c1 c2 : Nat) (t1 t2 : Tks) (S : Nat → Nat → Nat → Int) (w : World) (hn : n ≤ 1048576) (hq : ∀ i, i < n → t1.qm i ≤ 1048576) (hN : ∀ i, i < n → ∀ j, j < t1.qm i → t1.N i j ≤ 1048576) (he : t1.qm = t2.qm ∧ t1.sh = t2.sh ∧ t1.er = t2.er ∧ t1.of = t2.of ∧ t1.I = t2.I ∧ t1.N = t2.N) (h1 : TkF w a1 n t1 S) (h2 : TkF w a2 n t2 S) :
    Calls Try.prog 13 #[.slice a1 n c1, .slice a2 n c2] w fun e w' => e = .returned (.bool true) ∧ Below w.heap.size w w' := by
  obtain ⟨e1, e2, e3, e4, e5, e6⟩ := he
  have H1 : Hid (TkF w a1 n t1 S) := h1
  have H2 : Hid (TkF w a2 n t2 S) := h2
  have HN : Hid (∀ i, i < n → ∀ j, j < t1.qm i → t1.N i j ≤ 1048576) := hN
  have HQ : Hid (∀ i, i < n → t1.qm i ≤ 1048576) := hq
  have HE : Hid (t1.qm = t2.qm ∧ t1.sh = t2.sh ∧ t1.er = t2.er ∧ t1.of = t2.of ∧ t1.I = t2.I ∧ t1.N = t2.N) := ⟨e1, e2, e3, e4, e5, e6⟩
  clear h1 h2 hN hq e1 e2 e3 e4 e5 e6
  go_enter Try.func13, Try.ntmps13
  go_wp2
  go_loopw [5] (fun i wr => ∃ k : Nat, k ≤ n ∧ i = .int .i64 k ∧ Below w.heap.size w wr) (fun i _ => n - (intOf i).toNat)
  case atStart => exact ⟨0, Nat.zero_le _, rfl, Below.refl _ _⟩
  case round =>
    obtain ⟨k, hk, rfl, hB⟩ := hrel
    by_cases hlt : k < n
    · have F1 := H1.out.below hB
      have F2 := H2.out.below hB
      obtain ⟨b1, o1, rfl, l1, d1⟩ := F1.h.out (by omega)
      obtain ⟨b2, o2, rfl, l2, d2⟩ := F2.h.out (by omega)
      obtain ⟨x0, x1, x2, x3⟩ := d1 k hlt
      obtain ⟨y0, y1, y2, y3⟩ := d2 k hlt
      obtain ⟨e1, e2, e3, e4, e5, e6⟩ := HE.out
      have f2 := F2.fr hlt
      rw [← e1] at y0 f2
      rw [← e2] at y1
      rw [← e3] at y2
      rw [← e4] at y3
      rw [← e5, ← e6] at f2
      have hlt' : (k : Int) < (n : Int) := by omega
      have hw0 := Below.refl wr.heap.size wr
      have kE := fun w2 hw => eqTalker_any (t1.qa k) (t2.qa k) (t1.qm k) (t1.qc k) (t2.qc k) (t1.sh k) (t1.er k) (t1.of k) (t1.I k) (t1.A k) (t2.A k) (t1.N k) (t1.C k) (t2.C k) (S k) w2 (HQ.out k hlt) (HN.out k hlt) ((F1.fr hlt).below hw) (f2.below hw)
      clear d1 d2 F1 F2 f2 e1 e2 e3 e4 e5 e6
      generalize t1.qa k = X0 at *
      generalize t2.qa k = X1 at *
      generalize t1.qm k = X2 at *
      generalize t1.qc k = X3 at *
      generalize t2.qc k = X4 at *
      generalize t1.sh k = X5 at *
      generalize t1.er k = X6 at *
      generalize t1.of k = X7 at *
      go_wp2_with fail
      go_region_held3 (fun w' => w'.cell? ⟨b1, o1 + k * 4, none⟩ = some (.slice X0 X2 X3) ∧ w'.cell? ⟨b1, o1 + k * 4 + 1, none⟩ = some (.int .i64 X5) ∧ w'.cell? ⟨b1, o1 + k * 4 + 2, none⟩ = some (.int .i64 X6) ∧ w'.cell? ⟨b1, o1 + k * 4 + 3, none⟩ = some (.bool X7) ∧ w'.cell? ⟨b2, o2 + k * 4, none⟩ = some (.slice X1 X2 X4) ∧ w'.cell? ⟨b2, o2 + k * 4 + 1, none⟩ = some (.int .i64 X5) ∧ w'.cell? ⟨b2, o2 + k * 4 + 2, none⟩ = some (.int .i64 X6) ∧ w'.cell? ⟨b2, o2 + k * 4 + 3, none⟩ = some (.bool X7))
        (first | (exact ⟨keepN x0 l1 hw0.drew, keepN x1 l1 hw0.drew, keepN x2 l1 hw0.drew, keepN x3 l1 hw0.drew, keepN y0 l2 hw0.drew, keepN y1 l2 hw0.drew, keepN y2 l2 hw0.drew, keepN y3 l2 hw0.drew⟩) | (exact ⟨keepN x0 l1 hw1, keepN x1 l1 hw1, keepN x2 l1 hw1, keepN x3 l1 hw1, keepN y0 l2 hw1, keepN y1 l2 hw1, keepN y2 l2 hw1, keepN y3 l2 hw1⟩) | (fail))
        ((go_at_call 40; refine (kE _ hw0.drew).mono ?_; rintro e w1 ⟨rfl, hbn⟩; have hw1 := stepA hw0.drew hbn; clear hbn))
      go_wp2
      go_roundw
      case rel => exact ⟨k + 1, by omega, by go_num, hB.trans (hw1.mono hB.size)⟩
      case measure => simp [intOf]; omega
    · go_wp2
      go_ret
      exact ⟨rfl, hB⟩
end Go.Proofs.Ytldagjgpapnfpaa
