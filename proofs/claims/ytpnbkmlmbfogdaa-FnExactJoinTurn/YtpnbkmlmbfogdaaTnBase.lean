/- The two cells of a turn in memory; the law's own copies; the greatest common divisor, as both reckon it. -/
import Derived.Test.YtpnbkmlmbfogdaaTnMath
import Derived.WalkKit
import Derived.Deep.QuietTactic
import Derived.BigQuiet
import Derived.BigRegion
import Derived.Deep.RegionHeld3
import Derived.Below
import Derived.Handy
import Derived.Laws.ResultCell
namespace Go.Proofs.Ytpnbkmlmbfogdaa
open Go.RowKit

/-- a turn as a value -/
abbrev tn (p q : Int) : Value := .agg #[.int .i64 p, .int .i64 q]
/-- a number that an int holds -/
abbrev I64 (n : Int) : Prop := -9223372036854775808 ≤ n ∧ n ≤ 9223372036854775807
abbrev Half (n : Int) : Prop := -4611686018427387904 ≤ n ∧ n ≤ 4611686018427387904

theorem below_dr {B : Nat} {a w : World} (h : Below B a w) (n : Nat) : Below B a (w.drewN n) := ⟨h.os, h.tape, h.output, h.size, h.block⟩
theorem ret_bool {a b : Bool} (h : a = b) : Ending.returned (.bool a) = .returned (.bool b) := by rw [h]
theorem ret_int {a b : Int} (h : a = b) : Ending.returned (.int .i64 a) = .returned (.int .i64 b) := by rw [h]
theorem wrap_id {n : Int} (h0 : -9223372036854775808 ≤ n) (h1 : n ≤ 9223372036854775807) : wrap64 n = n := by unfold wrap64; omega

theorem wrap_min : wrap64 9223372036854775808 = -9223372036854775808 := by unfold wrap64; omega

/-- a block of two numbers -/
structure Box (w : World) (b : Nat) (p q : Int) : Prop where
  lt : b < w.heap.size
  c0 : w.cell? ⟨b, 0, none⟩ = some (.int .i64 p)
  c1 : w.cell? ⟨b, 1, none⟩ = some (.int .i64 q)
  f0 : w.frozen? ⟨b, 0, none⟩ = false
  f1 : w.frozen? ⟨b, 1, none⟩ = false
abbrev two (p q : Int) (t : TypeId) : Obj := .cells #[.int .i64 p, .int .i64 q] t

theorem Box.below {w w' : World} {B b : Nat} {p q : Int} (h : Box w b p q) (hb : Below B w w') (hB : b < B) : Box w' b p q := by
  obtain ⟨h0, h1, h2, h5, h6⟩ := h
  exact ⟨Nat.lt_of_lt_of_le h0 hb.size, (hb.cell (p := ⟨b, 0, none⟩) hB).trans h1, (hb.cell (p := ⟨b, 1, none⟩) hB).trans h2,
    (hb.frozen (p := ⟨b, 0, none⟩) hB).trans h5, (hb.frozen (p := ⟨b, 1, none⟩) hB).trans h6⟩
theorem Box.on {w w' : World} {b : Nat} {p q : Int} (h : Box w b p q) (hb : Below w.heap.size w w') : Box w' b p q := h.below hb h.lt
theorem box_new (w : World) (p q : Int) (t : TypeId) : Box (w.alloc (two p q t)) w.heap.size p q := by
  refine ⟨by simp, ?_, ?_, ?_, ?_⟩ <;> simp [go_sem]
theorem size_alloc (w : World) (o : Obj) : (w.alloc o).heap.size = w.heap.size + 1 := by simp
theorem Box.alloc {w : World} {b : Nat} {p q : Int} (h : Box w b p q) (o : Obj) : Box (w.alloc o) b p q := h.on ((Below.refl w.heap.size w).alloc (Nat.le_refl _) o)
theorem below_new {w w' : World} {o : Obj} (h : Below (w.alloc o).heap.size (w.alloc o) w') : Below w.heap.size w w' := ((Below.refl _ _).alloc (Nat.le_refl _) o).trans (h.mono (by rw [size_alloc]; exact Nat.le_succ _))
theorem below_on {w w1 w2 : World} (h : Below w.heap.size w w1) (k : Below w1.heap.size w1 w2) : Below w.heap.size w w2 := h.trans (k.mono h.size)

/-- boxes laid one behind the other, behind a call -/
theorem boxes1 {w w' : World} {p q : Int} {t : TypeId} (h : Below (w.alloc (two p q t)).heap.size (w.alloc (two p q t)) w') : Box w' w.heap.size p q ∧ Below w.heap.size w w' :=
  ⟨(box_new w p q t).on h, below_new h⟩
theorem boxes2 {w w' : World} {p q p' q' : Int} {t t' : TypeId} (h : Below ((w.alloc (two p q t)).alloc (two p' q' t')).heap.size ((w.alloc (two p q t)).alloc (two p' q' t')) w') :
    Box w' w.heap.size p q ∧ Box w' (w.heap.size + 1) p' q' ∧ Below w.heap.size w w' := by
  have h1 := boxes1 h
  rw [size_alloc] at h1
  exact ⟨((box_new w p q t).alloc _).on h, h1.1, below_new (below_new h)⟩
theorem boxes3 {w w' : World} {p q p' q' p'' q'' : Int} {t t' t'' : TypeId} (h : Below (((w.alloc (two p q t)).alloc (two p' q' t')).alloc (two p'' q'' t'')).heap.size (((w.alloc (two p q t)).alloc (two p' q' t')).alloc (two p'' q'' t'')) w') :
    Box w' w.heap.size p q ∧ Box w' (w.heap.size + 1) p' q' ∧ Box w' (w.heap.size + 1 + 1) p'' q'' ∧ Below w.heap.size w w' := by
  have h1 := boxes2 h
  rw [size_alloc] at h1
  exact ⟨(((box_new w p q t).alloc _).alloc _).on h, h1.1, h1.2.1, below_new (below_new (below_new h))⟩

/-- two cells written -/
abbrev setTwo (w : World) (b : Nat) (x y : Value) : World := (w.setCell ⟨b, 0, none⟩ x).setCell ⟨b, 1, none⟩ y
theorem heap_setTwo (w : World) (b : Nat) (x y : Value) (c : Nat) (h : c ≠ b) : (setTwo w b x y).heap[c]? = w.heap[c]? :=
  (Below.heap_setCell _ ⟨b, 1, none⟩ y c h).trans (Below.heap_setCell w ⟨b, 0, none⟩ x c h)
theorem Box.same {w w2 : World} {b : Nat} {p q : Int} (h : Box w b p q) (e : w2.heap[b]? = w.heap[b]?) (hs : w2.heap.size = w.heap.size) : Box w2 b p q :=
  ⟨hs ▸ h.lt, (World.cell?_of_block (w := w) e).trans h.c0, (World.cell?_of_block (w := w) e).trans h.c1,
    (World.frozen?_of_block (w := w) e).trans h.f0, (World.frozen?_of_block (w := w) e).trans h.f1⟩
theorem size_two (w : World) (b : Nat) (x y : Value) : (setTwo w b x y).heap.size = w.heap.size := by simp
theorem Box.far {w : World} {b b' : Nat} {p q : Int} {x y : Value} (h : Box w b p q) (hn : b ≠ b') : Box (setTwo w b' x y) b p q :=
  h.same (heap_setTwo w b' x y b hn) (size_two w b' x y)
theorem cell_set_same {w : World} {b o : Nat} {x v : Value} (h : w.cell? ⟨b, o, none⟩ = some v) : (w.setCell ⟨b, o, none⟩ x).cell? ⟨b, o, none⟩ = some x := World.cell?_setCell_same _ _ _ h
theorem cell_set_other {w : World} {b o o' : Nat} {x v : Value} (h : w.cell? ⟨b, o, none⟩ = some v) (hn : o ≠ o') : (w.setCell ⟨b, o', none⟩ x).cell? ⟨b, o, none⟩ = some v :=
  (World.cell?_setCell_other _ _ _ _ (by intro hh; cases hh; exact hn rfl)).trans h
theorem Box.set {w : World} {b : Nat} {p q : Int} (h : Box w b p q) (x y : Int) : Box (setTwo w b (.int .i64 x) (.int .i64 y)) b x y :=
  ⟨by simpa using h.lt, cell_set_other (cell_set_same h.c0) (by omega), cell_set_same (cell_set_other h.c1 (by omega)), by simpa using h.f0, by simpa using h.f1⟩
theorem below_two {B b : Nat} {w w1 : World} (h : Below B w w1) (hb : B ≤ b) (x y : Value) : Below B w (setTwo w1 b x y) :=
  (h.setCell (p := ⟨b, 0, none⟩) hb _).setCell (p := ⟨b, 1, none⟩) hb _

/-- a return of a turn out of its box -/
theorem ret_box {fn : Func} {t : Tmp} {R : Ending → World → Prop} {a : Act} {w : World} {b : Nat} {p q : Int} (h : fn.results = #[.cell t 25]) (hp : a.tmps.getD t undef = .pointer (some ⟨b, 0, none⟩)) (c : Box w b p q) (hd : a.defers = [])
    (hR : R (.returned (tn p q)) w) : bodyPost Try.prog fn R .ret a w := by
  refine bodyPost_ret ?_ hd hR
  have hp' : a.tmps[t]?.getD undef = .pointer (some ⟨b, 0, none⟩) := by simpa using hp
  simp [results, h, hp', asAddr, loadVar, go_sem, c.c0, c.c1]
theorem ret_box_tmp {fn : Func} {t u : Tmp} {R : Ending → World → Prop} {a : Act} {w : World} {b : Nat} {p q : Int} (h : fn.results = #[.cell t 25, .tmp u]) (hp : a.tmps.getD t undef = .pointer (some ⟨b, 0, none⟩)) (c : Box w b p q) (hd : a.defers = [])
    (hR : R (.returned (.tuple #[tn p q, a.tmps.getD u undef])) w) : bodyPost Try.prog fn R .ret a w := by
  refine bodyPost_ret ?_ hd hR
  rw [results_cell_tmp h, hp]
  simp [asAddr, loadVar, go_sem, c.c0, c.c1]

set_option maxHeartbeats 400000 in
theorem toTurn_any (a b : Int) (w : World) :
    Calls Try.prog 6 #[tn a b] w fun e w' => e = .returned (tn a b) ∧ Below w.heap.size w w' := by
  go_enter Try.func6, Try.ntmps6
  go_wp2
  go_returns
  refine ⟨rfl, ?_⟩
  repeat' (first | exact Below.refl _ _ | refine below_dr ?_ _ | refine Below.alloc ?_ (by simp <;> omega) _ | refine Below.setCell ?_ (by simp <;> omega) _)

set_option maxHeartbeats 400000 in
theorem eqTurn_any (a b : Int) (w : World) :
    Calls Try.prog 10 #[tn a b, tn a b] w fun e w' => e = .returned (.bool true) ∧ Below w.heap.size w w' := by
  go_enter Try.func10, Try.ntmps10
  go_wp2
  go_returns
  refine ⟨rfl, ?_⟩
  repeat' (first | exact Below.refl _ _ | refine below_dr ?_ _ | refine Below.alloc ?_ (by simp <;> omega) _ | refine Below.setCell ?_ (by simp <;> omega) _)

/-- the size of a number, as an int: the least int has none -/
def absW (n : Int) : Int := if n = -9223372036854775808 then n else (n.natAbs : Int)

set_option maxHeartbeats 400000 in
theorem l4Abs_any (n : Int) (w : World) (h : I64 n) :
    Calls Try.prog 11 #[.int .i64 n] w fun e w' => e = .returned (.int .i64 (absW n)) ∧ w' = w := by
  obtain ⟨h0, h1⟩ := h
  by_cases hm : n = -9223372036854775808
  · subst hm
    go_enter Try.func11, Try.ntmps11
    go_wp2
    go_ret
    exact ⟨ret_int (by unfold absW; rw [if_pos rfl]; first | rfl | exact wrap_min), rfl⟩
  by_cases hz : n < 0
  · go_enter Try.func11, Try.ntmps11
    go_wp2
    go_ret
    exact ⟨ret_int (by unfold absW; rw [if_neg hm]; omega), rfl⟩
  · go_enter Try.func11, Try.ntmps11
    go_wp2
    go_ret
    exact ⟨ret_int (by unfold absW; rw [if_neg hm]; omega), rfl⟩

theorem abs_half {n : Int} (h : Half n) : absW n = (n.natAbs : Int) := by unfold absW; rw [if_neg (by obtain ⟨h, _⟩ := h; omega)]

theorem gcd_next (m k : Nat) : Nat.gcd k (m % k) = Nat.gcd m k := by
  rw [Nat.gcd_comm m k, Nat.gcd_rec k m, Nat.gcd_comm]

set_option maxHeartbeats 400000 in
theorem l4Gcd_any (a b : Int) (w : World) (ha : Half a) (hb : Half b) :
    Calls Try.prog 12 #[.int .i64 a, .int .i64 b] w fun e w' => e = .returned (.int .i64 (Int.gcd a b : Int)) ∧ w' = w := by
  have la := fun w => l4Abs_any a w ⟨by omega, by omega⟩
  have lb := fun w => l4Abs_any b w ⟨by omega, by omega⟩
  rw [abs_half ha] at la
  rw [abs_half hb] at lb
  go_enter Try.func12, Try.ntmps12
  go_wp2_with fail
  refine (la _).mono ?_
  rintro e w' ⟨rfl, hw'⟩
  subst hw'
  go_wp2_with fail
  refine (lb _).mono ?_
  rintro e w'' ⟨rfl, hw''⟩
  subst hw''
  clear la lb
  go_wp2_with fail
  go_loop [0, 1] (fun x y => ∃ m k : Nat, x = .int .i64 (m : Int) ∧ y = .int .i64 (k : Int) ∧ (m : Int) ≤ 4611686018427387904 ∧ (k : Int) ≤ 4611686018427387904 ∧ Nat.gcd m k = Int.gcd a b) (fun _ y => (intOf y).toNat)
  case atStart => exact ⟨a.natAbs, b.natAbs, rfl, rfl, by omega, by omega, rfl⟩
  case round =>
    obtain ⟨m, k, rfl, rfl, hm, hk, hg⟩ := hrel
    by_cases hz : (k : Int) = 0
    · have hk0 : k = 0 := by omega
      subst hk0
      have HG : Hid (Nat.gcd m 0 = Int.gcd a b) := hg
      clear hg hz
      go_wp2
      go_ret
      exact ⟨ret_int (by rw [← HG.out, Nat.gcd_zero_right]), rfl⟩
    · have hz' : ((k : Int) != 0) = true := by simpa using hz
      have HG : Hid (Nat.gcd m k = Int.gcd a b) := hg
      clear hg
      have hlt : m % k < k := Nat.mod_lt _ (by omega)
      have HL : Hid (m % k < k) := hlt
      clear hlt
      go_wp2
      go_round
      case rel => exact ⟨k, m % k, rfl, rfl, hk, by have := HL.out; omega, (gcd_next m k).trans HG.out⟩
      case measure =>
        have := HL.out
        have e : ((m : Int) % (k : Int)) = ((m % k : Nat) : Int) := rfl
        simp only [intOf, e]
        omega

theorem gcd_step (m k : Int) : Int.gcd k (Int.tmod m k) = Int.gcd m k := by
  unfold Int.gcd
  rw [Int.natAbs_tmod]
  exact gcd_next _ _
theorem tmod_less (m k : Int) (hz : ¬ k = 0) : (Int.tmod m k).natAbs < k.natAbs := by
  rw [Int.natAbs_tmod]
  exact Nat.mod_lt _ (by omega)
theorem tmod_in (m k : Int) (hk : I64 k) (hz : ¬ k = 0) : I64 (Int.tmod m k) := by
  have := tmod_less m k hz
  unfold I64 at *
  omega

/-- the greatest common divisor as an int -/
def gcdW (a b : Int) : Int := if Int.gcd a b = 9223372036854775808 then -9223372036854775808 else (Int.gcd a b : Int)

set_option maxHeartbeats 400000 in
theorem common_any (a b : Int) (w : World) (ha : I64 a) (hb : I64 b) :
    Calls Try.prog 15 #[.int .i64 a, .int .i64 b] w fun e w' => e = .returned (.int .i64 (gcdW a b)) ∧ ∃ n, w' = w.drewN n := by
  go_enter Try.func15, Try.ntmps15
  go_wp2_with fail
  go_loopw [0, 1] (fun x y wr => ∃ (m k : Int) (n : Nat), x = .int .i64 m ∧ y = .int .i64 k ∧ (-9223372036854775808 ≤ m ∧ m ≤ 9223372036854775807) ∧ (-9223372036854775808 ≤ k ∧ k ≤ 9223372036854775807) ∧ Int.gcd m k = Int.gcd a b ∧ wr = w.drewN n) (fun _ y _ => (intOf y).natAbs)
  case atStart => exact ⟨a, b, 0, rfl, rfl, ha, hb, rfl, rfl⟩
  case round =>
    obtain ⟨m, k, n, rfl, rfl, hm, hk, hg, hw⟩ := hrel
    have HW : Hid (wr = w.drewN n) := hw
    clear hw
    have HG : Hid (Int.gcd m k = Int.gcd a b) := hg
    clear hg
    by_cases hz : k = 0
    · subst hz
      by_cases hl : m = -9223372036854775808
      · subst hl
        go_wp2
        all_goals
          go_ret
          refine ⟨ret_int ?_, n, HW.out⟩
          have hg := HG.out
          rw [Int.gcd_zero_right] at hg
          unfold gcdW
          first | (rw [← hg, if_pos (by omega)]; exact wrap_min) | (rw [← hg, if_pos (by omega)])
      · go_wp2
        all_goals
          go_ret
          refine ⟨ret_int ?_, n, HW.out⟩
          have hg := HG.out
          rw [Int.gcd_zero_right] at hg
          unfold gcdW
          rw [← hg, if_neg (by omega)]
          omega
    · have hz' : (k != 0) = true := by simpa using hz
      go_wp2_with fail
      go_region
      all_goals
        go_wp2
        go_round
        case rel =>
          exact ⟨k, Int.tmod m k, n + 1, rfl, rfl, hk, tmod_in m k hk hz, (gcd_step m k).trans HG.out, by rw [HW.out]; rfl⟩
        case measure =>
          simp only [intOf]
          exact tmod_less m k hz
end Go.Proofs.Ytpnbkmlmbfogdaa
