/- What the cursor draws: a number below another one, yes or no. -/
import Derived.Test.YtmlfijapndkfhaaDoorQCur
import Derived.Test.YtmlfijapndkfhaaDoorQLqBase
namespace Go.Proofs.YtmlfijapndkfhaaDoor
open Go.RowKit

theorem emod_le {x m : Int} (hx : 0 ≤ x) (hm : 0 < m) : x % m ≤ x := by
  have h := Int.emod_add_mul_ediv x m
  have h1 := Int.mul_nonneg (Int.le_of_lt hm) (Int.ediv_nonneg hx (Int.le_of_lt hm))
  omega
set_option maxHeartbeats 1000000 in
theorem pick_any (C : Nat) (a : Option Addr) (len cap n : Nat) (m : Int) (w : World) (h : Cur w C a len cap n) (hn : n ≤ 1000000) :
    Calls Tryd.prog 26 #[.pointer (some ⟨C, 0, none⟩), .int .i64 m] w fun e w' => ∃ (v : Int) (n' : Nat), e = .returned (.int .i64 v) ∧ 0 ≤ v ∧ (1 ≤ m → v < m) ∧ v ≤ 65535 ∧ n' ≤ n + 2 ∧ Cur w' C a len cap n' ∧ Only C w w' := by
  by_cases h1 : m ≤ 1
  · go_enter Tryd.func26, Tryd.ntmps26
    go_wp2
    go_ret
    exact ⟨0, n, rfl, by omega, by omega, by omega, by omega, h, Only.refl _ _⟩
  have hm0 : m ≠ 0 := by omega
  by_cases h2 : 200 < m
  · go_enter Tryd.func26, Tryd.ntmps26
    go_wp2_with fail
    refine (next_any C a len cap n w h (by omega)).mono ?_
    rintro e w1 ⟨x, rfl, hx, h1', hO1⟩
    clear h
    go_wp2_with fail
    refine (next_any C a len cap (n + 1) _ h1' (by omega)).mono ?_
    rintro e w2 ⟨y, rfl, hy, h2', hO2⟩
    clear h1'
    have hb : 0 ≤ (x * 256 + y) % m ∧ (x * 256 + y) % m < m ∧ (x * 256 + y) % m ≤ 65535 := by
      have := Int.emod_nonneg (x * 256 + y) hm0
      have := Int.emod_lt_of_pos (x * 256 + y) (show 0 < m by omega)
      have := emod_le (x := x * 256 + y) (m := m) (by omega) (by omega)
      omega
    go_wp2
    go_ret
    exact ⟨_, n + 1 + 1, rfl, hb.1, fun _ => hb.2.1, hb.2.2, by omega, h2', hO1.trans hO2⟩
  · go_enter Tryd.func26, Tryd.ntmps26
    go_wp2_with fail
    refine (next_any C a len cap n w h (by omega)).mono ?_
    rintro e w1 ⟨x, rfl, hx, h1', hO1⟩
    clear h
    have hb : 0 ≤ x % m ∧ x % m < m ∧ x % m ≤ 65535 := by
      have := Int.emod_nonneg x hm0
      have := Int.emod_lt_of_pos x (show 0 < m by omega)
      omega
    go_wp2
    go_ret
    exact ⟨_, n + 1, rfl, hb.1, fun _ => hb.2.1, hb.2.2, by omega, h1', hO1⟩

set_option maxHeartbeats 1000000 in
theorem one_any (C : Nat) (a : Option Addr) (len cap n : Nat) (m : Int) (w : World) (h : Cur w C a len cap n) (hn : n ≤ 1000000) :
    Calls Tryd.prog 57 #[.pointer (some ⟨C, 0, none⟩), .int .i64 m] w fun e w' => ∃ (q : Bool) (n' : Nat), e = .returned (.bool q) ∧ n' ≤ n + 2 ∧ Cur w' C a len cap n' ∧ Only C w w' := by
  go_enter Tryd.func57, Tryd.ntmps57
  go_wp2_with fail
  refine (pick_any C a len cap n m w h hn).mono ?_
  rintro e w1 ⟨x, n', rfl, -, -, -, hn', h', hO⟩
  clear h
  go_wp2
  go_ret
  exact ⟨_, n', rfl, hn', h', hO⟩

end Go.Proofs.YtmlfijapndkfhaaDoor

/- A row of ints that grows while a cursor is drawn from (as in ChEvD). -/
namespace Go.Proofs.YtmlfijapndkfhaaDoor
open Go.RowKit
theorem tn_only {C : Nat} {w w' : World} (h : Only C w w') : Turns C (C + 1) w w' := (OnlyIn.of h (Nat.le_refl _) (Nat.lt_succ_self _)).turns
theorem tn_below {lo hi B : Nat} {w w' w'' : World} (h : Turns lo hi w w') (k : Below B w' w'') (hB : w.heap.size ≤ B) : Turns lo hi w w'' :=
  ⟨k.os.trans h.os, k.tape.trans h.tape, k.output.trans h.output, Nat.le_trans h.size k.size, fun x hx hn => (k.block x (by omega)).trans (h.block x hx hn)⟩
/-- what stands while events are drawn -/
structure Es (w wx : World) (C : Nat) (a : Option Addr) (len cap n' : Nat) (v : Value) (k : Nat) (F : Nat → Int) : Prop where
  cur : Cur wx C a len cap n'
  own : Own wx w.heap.size v k F
  t : Turns C (C + 1) w wx
section
variable {w wx wy : World} {C : Nat} {a : Option Addr} {len cap n' n2 : Nat} {v v' : Value} {k : Nat} {F : Nat → Int}
theorem Es.step (h : Es w wx C a len cap n' v k F) (hc : Cur wy C a len cap n2) (o : Only C wx wy) (hC : C < w.heap.size) : Es w wy C a len cap n2 v k F :=
  ⟨hc, h.own.only o hC, h.t.trans (tn_only o)⟩
theorem Es.app {x : Int} (h : Es w wx C a len cap n' v k F) (ho : wy.ownsRow w.heap.size 3 1 v' (k + 1) (vL F k ++ [.int .i64 x])) (hg : (wx.alloc (.cells #[.int .i64 x] 3)).grownBy wy v.ownBlock) (hC : C < w.heap.size) : Es w wy C a len cap n' v' (k + 1) (put F k x) := by
  have hb : Below w.heap.size wx wy := ((Below.refl _ _).alloc h.t.size (.cells #[.int .i64 x] 3)).grown hg (by simp; have := h.t.size; omega) (fun q hq => (World.ownsRow.lt h.own q hq).1)
  exact ⟨h.cur.below hb hC, own_put ho, tn_below h.t hb (Nat.le_refl _)⟩
end
/-- how long a slice is -/
def lenV : Value → Nat
  | .slice _ n _ => n
  | _ => 0
end Go.Proofs.YtmlfijapndkfhaaDoor

/- One of some texts, drawn. -/
namespace Go.Proofs.YtmlfijapndkfhaaDoor
open Go.RowKit
/-- a row of texts in one block -/
def TP (w : World) (b n : Nat) (f : Nat → ByteArray) : Prop := b < w.heap.size ∧ ∀ i, i < n → w.cell? ⟨b, i, none⟩ = some (.string (f i))
theorem TP.only {w w' : World} {b n C : Nat} {f : Nat → ByteArray} (h : TP w b n f) (o : Only C w w') (hn : b ≠ C) : TP w' b n f :=
  ⟨by rw [o.size]; exact h.1, fun i hi => (cell_same (o.block b hn) _).trans (h.2 i hi)⟩
theorem lit_tp (w : World) (xs : List ByteArray) (t : TypeId) : TP (w.alloc (.cells (xs.map Value.string).toArray t)) w.heap.size xs.length (fun i => xs[i]!) := by
  have hr := World.rowIs_alloc w (xs.map Value.string).toArray t (fun i => .string xs[i]!) (by
    intro i hi
    have hi' : i < xs.length := by simpa using hi
    simp [hi'])
  have hs : (xs.map Value.string).toArray.size = xs.length := by simp
  rw [hs] at hr
  exact ⟨hr.lt, fun _ hi => hr.cell hi⟩
set_option maxHeartbeats 1000000 in
theorem of_any (C : Nat) (a : Option Addr) (len cap n : Nat) (L k c : Nat) (F : Nat → ByteArray) (w : World) (h : Cur w C a len cap n) (hn : n ≤ 1000000) (hL : TP w L k F) (hne : L ≠ C) (hk : 1 ≤ k) (hk2 : k ≤ 1000) :
    Calls Tryd.prog 28 #[.pointer (some ⟨C, 0, none⟩), .slice (some ⟨L, 0, none⟩) k c] w fun e w' => ∃ (i n' : Nat), i < k ∧ e = .returned (.string (F i)) ∧ n' ≤ n + 2 ∧ Cur w' C a len cap n' ∧ Only C w w' := by
  go_enter Tryd.func28, Tryd.ntmps28
  go_wp2_with fail
  refine (pick_any C a len cap n (k : Int) w h hn).mono ?_
  rintro e w1 ⟨x, n', rfl, hx0, hx1, -, hn', h', hO⟩
  have hx2 := hx1 (by omega)
  obtain ⟨i, rfl⟩ := Int.eq_ofNat_of_zero_le hx0
  have hi : i < k := by omega
  have hc := (hL.only hO hne).2 i hi
  clear h hx1 hL
  go_wp2
  go_ret
  exact ⟨i, n', hi, rfl, hn', h', hO⟩
/-- some text that is not too long was drawn -/
def AnsN (w w' : World) (e : Ending) (C : Nat) (a : Option Addr) (len cap n : Nat) : Prop := ∃ (s : ByteArray) (n' : Nat), e = .returned (.string s) ∧ s.size ≤ 1000 ∧ n' ≤ n + 2 ∧ Cur w' C a len cap n' ∧ Turns C (C + 1) w w'
theorem list_small (l : List ByteArray) (h : l.all (fun s => decide (s.size ≤ 1000)) = true) {i : Nat} (hi : i < l.length) : (l[i]!).size ≤ 1000 := by
  have := List.all_eq_true.1 h l[i]! (by simp [hi])
  exact of_decide_eq_true this
theorem lit_of (C : Nat) (a : Option Addr) (len cap n : Nat) (w : World) (h : Cur w C a len cap n) (hn : n ≤ 1000000) (xs : List ByteArray) (h1 : 1 ≤ xs.length) (h2 : xs.length ≤ 1000) (ha : xs.all (fun s => decide (s.size ≤ 1000)) = true) :
    Calls Tryd.prog 28 #[.pointer (some ⟨C, 0, none⟩), .slice (some ⟨w.heap.size, 0, none⟩) xs.length xs.length] (w.alloc (.cells (xs.map Value.string).toArray 9)) fun e w' => AnsN w w' e C a len cap n := by
  have hC := h.lt
  refine (of_any C a len cap n w.heap.size xs.length xs.length (fun i => xs[i]!) (w.alloc (.cells (xs.map Value.string).toArray 9)) (h.below ((Below.refl _ _).alloc (Nat.le_refl _) _) hC) hn (lit_tp w xs 9) (by omega) h1 h2).mono ?_
  rintro e w' ⟨i, n', hi, rfl, hn', hc, hO⟩
  exact ⟨_, n', rfl, list_small xs ha hi, hn', hc, (turns_of ((Below.refl _ _).alloc (Nat.le_refl _) _)).trans (tn_only hO)⟩
end Go.Proofs.YtmlfijapndkfhaaDoor
