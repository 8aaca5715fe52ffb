/- The search begins: its tolls, its map and its heap are made. -/
import Derived.Test.YtfciecoigfnnhaaQWySr
import Derived.BigRegion
import Derived.Deep.RegionHeld
import Derived.Deep.RegionHeld3
import Derived.Deep.CutRange
import Derived.Deep.Cut
import Derived.Test.YtfciecoigfnnhaaQClVal
namespace Go.Proofs.Ytfciecoigfnnhaa
open Go.RowKit

theorem infoT : (Try.prog.info? 88).map (fun i => (i.zero, i.size, i.bytes)) = some (some (.agg #[.int .i64 0, .int .i64 0]), 2, 16) := by kernel_rfl
abbrev tlsO (n : Nat) : Obj := .cells (madeCells #[.int .i64 0, .int .i64 0] (n * 2)) 88
/-- make of n tolls -/
theorem run_make_tolls (n : Nat) (hn : n ≤ 1048576) (w : World) :
    (Instr.makeSlice 77 (.int .i64 (n : Int)) (.int .i64 (n : Int))).run Try.prog w = .ok (.slice (some ⟨w.heap.size, 0, none⟩) n n) (w.alloc (tlsO n)) := by
  obtain ⟨i, hi, hzz⟩ := Option.map_eq_some_iff.1 infoT
  simp only [Prod.mk.injEq] at hzz
  obtain ⟨hz, hs, hb⟩ := hzz
  have hr := run_make (P := Try.prog) w 77 88 i _ Try.underlying77 hi hz .i64 .i64 (n : Int) (n : Int) (by omega) (Int.le_refl _) (by rw [hb]; omega) (by omega)
  simp only [Int.toNat_natCast, hs] at hr
  exact hr
theorem made_tolls (w : World) (n : Nat) : IP (w.alloc (tlsO n)) w.heap.size (n * 2) (fun _ => 0) := by
  have hs : (madeCells #[Value.int .i64 0, .int .i64 0] (n * 2)).size = n * 2 := size_madeCells _ _
  have hr := World.rowIs_alloc w (madeCells #[Value.int .i64 0, .int .i64 0] (n * 2)) 88 (fun _ => .int .i64 0) (by
    intro j hj
    rw [hs] at hj
    rcases Nat.mod_two_eq_zero_or_one j with e | e <;> simp [madeCells, hj, e])
  rw [hs] at hr
  exact ⟨hr.lt, fun i hi => hr.cell hi, fun j => hr.frozen j⟩
abbrev srZ : Obj := .cells #[.int .i64 0, .int .i64 0, .slice none 0 0, .slice none 0 0, .map none, .slice none 0 0] 83
abbrev srL (W H : Int) (q : Option Addr) (n c Tb Mb : Nat) : List Value := [.int .i64 W, .int .i64 H, .slice q n c, .slice (some ⟨Tb, 0, none⟩) n n, .map (some Mb), .slice none 0 0]
/-- what is made at the beginning -/
def CutI (w1 wx : World) (W H : Int) (q : Option Addr) (n c : Nat) (s : Value) : Prop :=
  ∃ Sb Tb Mb, s = .pointer (some ⟨Sb, 0, none⟩) ∧ w1.heap.size ≤ Sb ∧ w1.heap.size ≤ Tb ∧ w1.heap.size ≤ Mb ∧ Tb ≠ Sb ∧ Mb ≠ Sb ∧ Tb ≠ Mb ∧ Bx wx Sb (srL W H q n c Tb Mb) ∧ IP wx Tb (n * 2) (fun _ => 0) ∧ LM wx Mb 0 (fun _ => false) ∧ Below w1.heap.size w1 wx

theorem al_keep (w : World) (o : Obj) : Below w.heap.size w (w.alloc o) := (Below.refl _ _).alloc (Nat.le_refl _) o
theorem al2_keep (w : World) (o o' : Obj) : Below w.heap.size w ((w.alloc o).alloc o') := stepA (al_keep w o) (al_keep _ o')
theorem al3_drew (w : World) (o o' o'' : Obj) : Below w.heap.size w (((w.alloc o).alloc o').alloc o'').drew := (stepA (al2_keep w o o') (al_keep _ o'')).drew
theorem ip_drew {w : World} {b n : Nat} {F : Nat → Int} (h : IP w b n F) : IP w.drew b n F := ⟨h.lt, h.c, h.fz⟩
end Go.Proofs.Ytfciecoigfnnhaa

/- What a region leaves that lays a step's toll into a new variable. -/
namespace Go.Proofs.Ytfciecoigfnnhaa
open Go.RowKit
/-- what a region leaves that lays a step's toll into a new variable -/
def CutT (wr wx : World) (u v : Int) (q : Bool) (s1 s2 : Value) : Prop := ∃ g, s1 = .pointer (some ⟨g, 0, none⟩) ∧ s2 = .bool q ∧ wr.heap.size ≤ g ∧ Bx wx g [.int .i64 u, .int .i64 v] ∧ Below wr.heap.size wr wx
end Go.Proofs.Ytfciecoigfnnhaa
