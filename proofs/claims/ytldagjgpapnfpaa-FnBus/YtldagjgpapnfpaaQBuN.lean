/- The bus: windows that begin, and who is next (tools/gen_bun.py). -/
import Derived.Test.YtldagjgpapnfpaaQBuO
import Derived.Test.YtldagjgpapnfpaaQArI
import Derived.Test.YtldagjgpapnfpaaQLsOwn
namespace Go.Proofs.Ytldagjgpapnfpaa
open Go.RowKit
section
variable {base : Nat} {w w' w3 : World} {v v' : Value} {k : Nat} {Pt : Nat → Nat} {t : Tks} {LF : Nat → Nat} {SE EC : Nat → Int}
theorem Bus.at (h : Bus base w v k Pt t LF SE EC) {i : Nat} (hi : i < k) : ∃ g c, v = .slice (some ⟨g, 0, none⟩) k c ∧ g < w.heap.size ∧ w.cell? ⟨g, i, none⟩ = some (.pointer (some ⟨Pt i, 0, none⟩)) := by
  have h' := h.own
  obtain ⟨_, ⟨_, h0⟩ | ⟨g, cap, cur, rfl, h2, h3, _⟩⟩ := h.own
  · omega
  · refine ⟨g, cap, rfl, (Array.getElem?_eq_some_iff.1 h3).1, ?_⟩
    rw [World.ownsRow.cellAt h' i (by omega)]
    simp [ptL, hi, ptV]
/-- one speaker has turned -/
theorem Bus.upd (h : Bus base w v k Pt t LF SE EC) {i : Nat} (hi : i < k) {lf : Nat} {se ec : Int} (hS : Spk w' (Pt i) (t.qa i) (t.qm i) (t.qc i) (t.sh i) (t.er i) (t.of i) lf se ec) (hO : Only (Pt i) w w') :
    Bus base w' v k Pt t (fun j => if j = i then lf else LF j) (fun j => if j = i then se else SE j) (fun j => if j = i then ec else EC j) := by
  refine ⟨?_, fun j hj => ?_, h.ge, h.nb, h.inj⟩
  · obtain ⟨hl, h0 | ⟨g, cap, cur, h1, h2, h3, h4⟩⟩ := h.own
    · exact ⟨hl, .inl h0⟩
    · refine ⟨hl, .inr ⟨g, cap, cur, h1, h2, (hO.block g (fun e => h.nb i hi (by rw [h1, ← e]; rfl))).trans h3, h4⟩⟩
  · by_cases c : j = i
    · subst c; rw [if_pos rfl, if_pos rfl, if_pos rfl]; exact hS
    · rw [if_neg c, if_neg c, if_neg c]
      have hs := h.sp j hj
      have e := hO.block (Pt j) (h.inj j i hj hi c)
      exact ⟨by rw [hO.size]; exact Bx.lt hs, fun q hq => (cell_same e q).trans (Bx.c hs q hq), fun q => (frozen_same e q).trans (Bx.fz hs q)⟩
theorem Bus.congr (h : Bus base w v k Pt t LF SE EC) {LF' : Nat → Nat} {SE' EC' : Nat → Int} (e1 : ∀ i, i < k → LF i = LF' i) (e2 : ∀ i, i < k → SE i = SE' i) (e3 : ∀ i, i < k → EC i = EC' i) : Bus base w v k Pt t LF' SE' EC' :=
  ⟨h.own, fun i hi => by rw [← e1 i hi, ← e2 i hi, ← e3 i hi]; exact h.sp i hi, h.ge, h.nb, h.inj⟩
end
/-- the speakers' own blocks alone have turned -/
structure OnlyS (Pt : Nat → Nat) (n : Nat) (w w' : World) : Prop where
  os : w'.os = w.os
  tape : w'.tape = w.tape
  output : w'.output = w.output
  size : w'.heap.size = w.heap.size
  block : ∀ q, (∀ i, i < n → q ≠ Pt i) → w'.heap[q]? = w.heap[q]?
theorem OnlyS.refl (Pt : Nat → Nat) (n : Nat) (w : World) : OnlyS Pt n w w := ⟨rfl, rfl, rfl, rfl, fun _ _ => rfl⟩
theorem OnlyS.set {Pt : Nat → Nat} {n : Nat} {w w' : World} (h : OnlyS Pt n w w') {i : Nat} (hi : i < n) (j : Nat) (u : Value) : OnlyS Pt n w (w'.setCell ⟨Pt i, j, none⟩ u) :=
  ⟨h.os, h.tape, h.output, by simpa using h.size, fun q hq => (Below.heap_setCell w' ⟨Pt i, j, none⟩ u q (hq i hi)).trans (h.block q hq)⟩
theorem OnlyS.below {Pt : Nat → Nat} {n B : Nat} {w w' : World} (h : OnlyS Pt n w w') (hB : ∀ i, i < n → B ≤ Pt i) : Below B w w' := ⟨h.os, h.tape, h.output, Nat.le_of_eq h.size.symm, fun q hq => h.block q (fun i hi => by have := hB i hi; omega)⟩
set_option maxRecDepth 20000 in
set_option maxHeartbeats 4000000 in
theorem begin_any (base : Nat) (x : Option Addr) (n c : Nat) (Pt : Nat → Nat) (t : Tks) (LF : Nat → Nat) (SE EC : Nat → Int) (w : World) (hn : n ≤ 6) (h : Bus base w (.slice x n c) n Pt t LF SE EC) :
    Calls Try.prog 27 #[.slice x n c] w fun e w' => e = .returned (.tuple #[]) ∧ Bus base w' (.slice x n c) n Pt t LF (fun _ => 0) EC ∧ OnlyS Pt n w w' := by
  have HS0 : Hid (Bus base w (.slice x n c) n Pt t LF (fun j => if j < 0 then 0 else SE j) EC) := h.congr (fun _ _ => rfl) (fun i _ => by simp) (fun _ _ => rfl)
  clear h
  go_enter Try.func27, Try.ntmps27
  go_wp2
  go_loopw [6] (fun i wr => ∃ k : Nat, k ≤ n ∧ i = .int .i64 (k : Int) ∧ Hid (Bus base wr (.slice x n c) n Pt t LF (fun j => if j < k then 0 else SE j) EC) ∧ OnlyS Pt n w wr) (fun i _ => n - (intOf i).toNat)
  case atStart => exact ⟨0, Nat.zero_le _, rfl, HS0, OnlyS.refl _ _ _⟩
  case round =>
    obtain ⟨k, hk, rfl, HS, hB⟩ := hrel
    clear HS0
    by_cases hlt : k < n
    · obtain ⟨g, c9, e9, hgl, hgc⟩ := HS.out.at hlt
      cases e9
      have hS := HS.out.sp k hlt
      have y5 := hS.c5
      have f5 := Bx.fz hS 5
      have l5 := Bx.lt hS
      have j0 : (0 : Int) ≤ (k : Int) := by omega
      have j1 : (k : Int) < (n : Int) := by omega
      have hU := HS.out.upd hlt (hS.s5 0) ((Only.refl (Pt k) wr).set 5 (.int .i64 0))
      have HU : Hid (Bus base (wr.setCell ⟨Pt k, 5, none⟩ (.int .i64 0)) (.slice (some ⟨g, 0, none⟩) n c) n Pt t LF (fun j => if j < k + 1 then 0 else SE j) EC) := hU.congr (fun i _ => by by_cases c1 : i = k <;> simp [c1]) (fun i _ => by
        by_cases c1 : i = k
        · simp [c1]
        · by_cases c2 : i < k
          · simp [c1, c2, show i < k + 1 by omega]
          · simp [c1, c2, show ¬ i < k + 1 by omega]) (fun i _ => by by_cases c1 : i = k <;> simp [c1])
      have hB2 := hB.set hlt 5 (.int .i64 0)
      clear hU hS HS
      go_wp2
      exact ⟨⟨k + 1, by omega, by go_num, HU, hB2⟩, by simp [intOf]; omega⟩
    · have hke : k = n := by omega
      subst hke
      have HE : Hid (Bus base wr (.slice x k c) k Pt t LF (fun _ => 0) EC) := HS.out.congr (fun _ _ => rfl) (fun i hi => by simp [hi]) (fun _ _ => rfl)
      clear HS
      go_wp2
      go_end0
      exact ⟨rfl, HE.out, hB⟩
/-- two lists that grow side by side -/
structure Tw (w wr : World) (v1 : Value) (k1 : Nat) (F : Nat → Int) (v2 : Value) (k2 : Nat) (G : Nat → Int) : Prop where
  o1 : Own wr w.heap.size v1 k1 F
  o2 : Own wr w.heap.size v2 k2 G
  d : ∀ q, v1.ownBlock = some q → v2.ownBlock ≠ some q
  bel : Below w.heap.size w wr
section
variable {w wr w' w3 : World} {v1 v2 v' : Value} {k1 k2 : Nat} {F G : Nat → Int} {o : Obj}
theorem Tw.on (h : Tw w wr v1 k1 F v2 k2 G) (b : Below wr.heap.size wr w') : Tw w w' v1 k1 F v2 k2 G := ⟨h.o1.below b, h.o2.below b, h.d, stepA h.bel b⟩
theorem own_kept {base : Nat} {v : Value} {k : Nat} {H : Nat → Int} {row : Option Nat} (h : Own wr base v k H) (hg : (wr.alloc o).grownBy w3 row) (hne : ∀ q, v.ownBlock = some q → row ≠ some q) : Own w3 base v k H := by
  obtain ⟨hl, h0 | ⟨g, cap, cur, h1, h2, h3, h4⟩⟩ := h
  · exact ⟨hl, .inl h0⟩
  · have hlt : g < wr.heap.size := (Array.getElem?_eq_some_iff.1 h3).1
    have ha := ((Below.refl wr.heap.size wr).alloc (Nat.le_refl _) o).block g hlt
    refine ⟨hl, .inr ⟨g, cap, cur, h1, h2, ?_, h4⟩⟩
    rw [hg.block g (by simp; omega) (fun e => hne g (by rw [h1]; rfl) e.symm), ha]
    exact h3
theorem Tw.app1 {x : Int} (h : Tw w wr v1 k1 F v2 k2 G) (ho : w3.ownsRow w.heap.size 3 1 v' (k1 + 1) (vL F k1 ++ [.int .i64 x])) (hg : (wr.alloc o).grownBy w3 v1.ownBlock) (hat : v'.ownBlock = v1.ownBlock ∨ v'.ownBlock = some (wr.alloc o).heap.size) : Tw w w3 v' (k1 + 1) (put F k1 x) v2 k2 G := by
  refine ⟨own_put ho, own_kept h.o2 hg (fun q hq e => h.d q e hq), fun q hq e => ?_, ?_⟩
  · rcases hat with h1 | h1
    · exact h.d q (h1.symm.trans hq) e
    · rw [h1] at hq
      have := Option.some.inj hq
      have := (World.ownsRow.lt h.o2 q e).2
      simp at *
      omega
  · exact h.bel.trans (((Below.refl w.heap.size wr).alloc h.bel.size o).grown hg (by simp; have := h.bel.size; omega) (fun q hq => (World.ownsRow.lt h.o1 q hq).1))
theorem Tw.app2 {x : Int} (h : Tw w wr v1 k1 F v2 k2 G) (ho : w3.ownsRow w.heap.size 3 1 v' (k2 + 1) (vL G k2 ++ [.int .i64 x])) (hg : (wr.alloc o).grownBy w3 v2.ownBlock) (hat : v'.ownBlock = v2.ownBlock ∨ v'.ownBlock = some (wr.alloc o).heap.size) : Tw w w3 v1 k1 F v' (k2 + 1) (put G k2 x) := by
  refine ⟨own_kept h.o1 hg (fun q hq e => h.d q hq e), own_put ho, fun q hq e => ?_, ?_⟩
  · rcases hat with h1 | h1
    · exact h.d q hq (h1.symm.trans e)
    · rw [h1] at e
      have := Option.some.inj e
      have := (World.ownsRow.lt h.o1 q hq).2
      simp at *
      omega
  · exact h.bel.trans (((Below.refl w.heap.size wr).alloc h.bel.size o).grown hg (by simp; have := h.bel.size; omega) (fun q hq => (World.ownsRow.lt h.o2 q hq).1))
end
/-- those who contend, of the first k; their first frames' ids -/
def ctL (t : Tks) (LF : Nat → Nat) (SE EC : Nat → Int) : Nat → List Nat
  | 0 => []
  | k + 1 => if myB (t.qm k) (t.sh k) (LF k) (SE k) (EC k) = true then ctL t LF SE EC k ++ [k] else ctL t LF SE EC k
def ctF (t : Tks) (LF : Nat → Nat) (l : List Nat) (j : Nat) : Int := t.I (l.getD j 0) (LF (l.getD j 0))
theorem ctL_len (t : Tks) (LF : Nat → Nat) (SE EC : Nat → Int) (k : Nat) : (ctL t LF SE EC k).length ≤ k := by
  induction k with
  | zero => exact Nat.le_refl _
  | succ k ih => unfold ctL; split <;> (try simp) <;> omega
theorem ctL_mem (t : Tks) (LF : Nat → Nat) (SE EC : Nat → Int) (k : Nat) : ∀ i ∈ ctL t LF SE EC k, i < k ∧ myB (t.qm i) (t.sh i) (LF i) (SE i) (EC i) = true := by
  induction k with
  | zero => intro i hi; cases hi
  | succ k ih =>
    intro i hi
    unfold ctL at hi
    split at hi
    · rename_i h
      rcases List.mem_append.1 hi with h1 | h1
      · have := ih i h1; exact ⟨by omega, this.2⟩
      · simp at h1; subst h1; exact ⟨by omega, h⟩
    · have := ih i hi; exact ⟨by omega, this.2⟩
end Go.Proofs.Ytldagjgpapnfpaa
