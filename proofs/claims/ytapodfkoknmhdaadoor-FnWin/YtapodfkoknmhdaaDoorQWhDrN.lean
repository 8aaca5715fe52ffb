/- What FnWin draws: names and wishes. -/
import Derived.Test.YtapodfkoknmhdaaDoorQWhM
import Derived.Test.YtapodfkoknmhdaaDoorQWhWtP
import Derived.Test.YtapodfkoknmhdaaDoorQWhWish
namespace Go.Proofs.YtapodfkoknmhdaaDoor
open Go.RowKit
/-- a row of texts in one block -/
def TP (w : World) (b n : Nat) (f : Nat → ByteArray) : Prop := b < w.heap.size ∧ ∀ i, i < n → w.cell? ⟨b, i, none⟩ = some (.string (f i))
theorem TP.only {w w' : World} {b n C : Nat} {f : Nat → ByteArray} (h : TP w b n f) (o : Only C w w') (hn : b ≠ C) : TP w' b n f :=
  ⟨by rw [o.size]; exact h.1, fun i hi => (cell_same (o.block b hn) _).trans (h.2 i hi)⟩
theorem lit_tp (w : World) (xs : List ByteArray) (t : TypeId) : TP (w.alloc (.cells (xs.map Value.string).toArray t)) w.heap.size xs.length (fun i => xs[i]!) := by
  have hr := World.rowIs_alloc w (xs.map Value.string).toArray t (fun i => .string xs[i]!) (by
    intro i hi
    have hi' : i < xs.length := by simpa using hi
    simp [hi'])
  have hs : (xs.map Value.string).toArray.size = xs.length := by simp
  rw [hs] at hr
  exact ⟨hr.lt, fun _ hi => hr.cell hi⟩
set_option maxHeartbeats 1000000 in
theorem of_any (C : Nat) (a : Option Addr) (len cap n : Nat) (L k c : Nat) (F : Nat → ByteArray) (w : World) (h : Cur w C a len cap n) (hn : n ≤ 1000000) (hL : TP w L k F) (hne : L ≠ C) (hk : 1 ≤ k) (hk2 : k ≤ 1000) :
    Calls Tryd.prog 53 #[.pointer (some ⟨C, 0, none⟩), .slice (some ⟨L, 0, none⟩) k c] w fun e w' => ∃ (i n' : Nat), i < k ∧ e = .returned (.string (F i)) ∧ n' ≤ n + 2 ∧ Cur w' C a len cap n' ∧ Only C w w' := by
  go_enter Tryd.func53, Tryd.ntmps53
  go_wp2_with fail
  refine (pick_any C a len cap n (k : Int) w h hn).mono ?_
  rintro e w1 ⟨x, n', rfl, hx0, hx1, -, hn', h', hO⟩
  have hx2 := hx1 (by omega)
  obtain ⟨i, rfl⟩ := Int.eq_ofNat_of_zero_le hx0
  have hi : i < k := by omega
  have hc := (hL.only hO hne).2 i hi
  clear h hx1 hL
  go_wp2
  go_ret
  exact ⟨i, n', hi, rfl, hn', h', hO⟩
/-- some text that is not too long was drawn -/
def AnsN (w w' : World) (e : Ending) (C : Nat) (a : Option Addr) (len cap n : Nat) : Prop := ∃ (s : ByteArray) (n' : Nat), e = .returned (.string s) ∧ s.size ≤ 1000 ∧ n' ≤ n + 2 ∧ Cur w' C a len cap n' ∧ Turns C (C + 1) w w'
theorem list_small (l : List ByteArray) (h : l.all (fun s => decide (s.size ≤ 1000)) = true) {i : Nat} (hi : i < l.length) : (l[i]!).size ≤ 1000 := by
  have := List.all_eq_true.1 h l[i]! (by simp [hi])
  exact of_decide_eq_true this
theorem lit_of (C : Nat) (a : Option Addr) (len cap n : Nat) (w : World) (h : Cur w C a len cap n) (hn : n ≤ 1000000) (xs : List ByteArray) (h1 : 1 ≤ xs.length) (h2 : xs.length ≤ 1000) (ha : xs.all (fun s => decide (s.size ≤ 1000)) = true) :
    Calls Tryd.prog 53 #[.pointer (some ⟨C, 0, none⟩), .slice (some ⟨w.heap.size, 0, none⟩) xs.length xs.length] (w.alloc (.cells (xs.map Value.string).toArray 9)) fun e w' => AnsN w w' e C a len cap n := by
  have hC := h.lt
  refine (of_any C a len cap n w.heap.size xs.length xs.length (fun i => xs[i]!) (w.alloc (.cells (xs.map Value.string).toArray 9)) (h.below ((Below.refl _ _).alloc (Nat.le_refl _) _) hC) hn (lit_tp w xs 9) (by omega) h1 h2).mono ?_
  rintro e w' ⟨i, n', hi, rfl, hn', hc, hO⟩
  exact ⟨_, n', rfl, list_small xs ha hi, hn', hc, (turns_of ((Below.refl _ _).alloc (Nat.le_refl _) _)).trans (tn_only hO)⟩
set_option maxRecDepth 20000 in
set_option maxHeartbeats 2000000 in
theorem name_any (C : Nat) (a : Option Addr) (len cap n : Nat) (w : World) (h : Cur w C a len cap n) (hn : n ≤ 900000) :
    Calls Tryd.prog 114 #[.pointer (some ⟨C, 0, none⟩)] w fun e w' => AnsN w w' e C a len cap n := by
  have k1 := lit_of C a len cap n w h (by omega) [⟨#[100, 111, 99, 107]⟩, ⟨#[104, 97, 108, 108]⟩, ⟨#[112, 105, 116]⟩, ⟨#[108, 97, 98]⟩, ⟨#[84, 195, 188, 114]⟩, ⟨#[206, 182]⟩, ⟨#[208, 188, 208, 190, 209, 129, 209, 130]⟩, ⟨#[97]⟩, ⟨#[230, 151, 165, 230, 156, 172]⟩, ⟨#[97, 98, 99, 100, 101, 102, 103, 104, 105, 106, 107, 108]⟩, ⟨#[108, 105, 102, 116]⟩] (by decide) (by decide) rfl
  simp only [List.map_cons, List.map_nil, List.length_cons, List.length_nil, Nat.zero_add, Nat.reduceAdd] at k1
  go_enter Tryd.func114, Tryd.ntmps114
  go_wp2_with fail
  refine k1.mono ?_
  rintro e w' ⟨s, n', rfl, hs, hn', hc, hT⟩
  clear k1 h
  go_wp2
  go_ret
  exact ⟨s, n', rfl, hs, hn', hc, hT⟩
/-- what stands while names are drawn -/
structure Ns (w wx : World) (C : Nat) (a : Option Addr) (len cap n' : Nat) (v : Value) (l : List ByteArray) : Prop where
  cur : Cur wx C a len cap n'
  own : OwS wx w.heap.size v l
  t : Turns C (C + 1) w wx
  sm : ∀ s ∈ l, s.size ≤ 1000
section
variable {w wx wy : World} {C : Nat} {a : Option Addr} {len cap n' n2 : Nat} {v v' : Value} {l : List ByteArray} {s : ByteArray}
theorem OwS.turns {lo hi base : Nat} (h : OwS wx base v l) (k : Turns lo hi wx wy) (hd : hi ≤ base) : OwS wy base v l := by
  obtain ⟨hl, h | ⟨g, cap, cur, h1, h2, h3, h4⟩⟩ := h
  · exact ⟨hl, .inl h⟩
  · have hg : g < wx.heap.size := (Array.getElem?_eq_some_iff.1 h3).1
    exact ⟨hl, .inr ⟨g, cap, cur, h1, h2, (k.block g hg (by omega)).trans h3, h4⟩⟩
theorem Ns.step (h : Ns w wx C a len cap n' v l) (hc : Cur wy C a len cap n2) (k : Turns C (C + 1) wx wy) (hC : C < w.heap.size) : Ns w wy C a len cap n2 v l :=
  ⟨hc, h.own.turns k (by omega), h.t.trans k, h.sm⟩
theorem Ns.app {m : List ByteArray} {o : Obj} (h : Ns w wx C a len cap n' v l) (ho : OwS wy w.heap.size v' (l ++ m)) (hg : (wx.alloc o).grownBy wy v.ownBlock) (hm : ∀ s ∈ m, s.size ≤ 1000) (hC : C < w.heap.size) : Ns w wy C a len cap n' v' (l ++ m) := by
  have hb : Below w.heap.size wx wy := ((Below.refl _ _).alloc h.t.size o).grown hg (by simp; have := h.t.size; omega) (fun q hq => (World.ownsRow.lt h.own q hq).1)
  exact ⟨h.cur.below hb hC, ho, tn_below h.t hb (Nat.le_refl _), fun s hs => (List.mem_append.1 hs).elim (h.sm s) (hm s)⟩
end
/-- some names were drawn -/
def AnsNs (w w' : World) (e : Ending) (C : Nat) (a : Option Addr) (len cap n : Nat) : Prop := ∃ (x : Option Addr) (c n' : Nat) (l : List ByteArray), e = .returned (.slice x l.length c) ∧ l.length ≤ 100 ∧ l.length ≤ c ∧ (∀ i, i < l.length → (l[i]!).size ≤ 1000) ∧ SL w' x l.length (fun i => l[i]!) ∧ (∀ q, x = some q → w.heap.size ≤ q.block) ∧ n' ≤ n + 100 ∧ Cur w' C a len cap n' ∧ Turns C (C + 1) w w'
theorem Ns.ans {w wx : World} {C : Nat} {a : Option Addr} {len cap n' n : Nat} {v : Value} {l : List ByteArray} (h : Ns w wx C a len cap n' v l) (hl : l.length ≤ 100) (hn : n' ≤ n + 100) : AnsNs w wx (.returned v) C a len cap n := by
  have hs : ∀ i, i < l.length → (l[i]!).size ≤ 1000 := fun i hi => h.sm _ (by simp [hi])
  rcases h.own.shape with ⟨rfl, rfl⟩ | ⟨g, c, rfl, hb, _, hc⟩
  · exact ⟨none, 0, n', [], rfl, by simp, by simp, hs, SL.none _ _, (fun q hq => by cases hq), hn, h.cur, h.t⟩
  · exact ⟨_, c, n', l, rfl, hl, hc, hs, ows_sl h.own rfl, (fun q hq => by cases hq; exact hb), hn, h.cur, h.t⟩
theorem Ns.shape {w wx : World} {C : Nat} {a : Option Addr} {len cap n' : Nat} {v : Value} {l : List ByteArray} (h : Ns w wx C a len cap n' v l) : ∃ x c, v = .slice x l.length c ∧ SL wx x l.length (fun i => l[i]!) := by
  rcases h.own.shape with ⟨rfl, rfl⟩ | ⟨g, c, rfl, hb, _, hc⟩
  · exact ⟨none, 0, rfl, SL.none _ _⟩
  · exact ⟨_, c, rfl, ows_sl h.own rfl⟩
end Go.Proofs.YtapodfkoknmhdaaDoor
