/- l22Good (out of WhWish). -/
import Derived.Test.YtmlfijapndkfhaaDoorQFwC
import Derived.Test.YtmlfijapndkfhaaDoorQWhIn
import Derived.Test.YtmlfijapndkfhaaDoorQCurOf
import Derived.Test.YtmlfijapndkfhaaDoorQFwP
namespace Go.Proofs.YtmlfijapndkfhaaDoor
open Go.RowKit
abbrev wsO (a : Option Addr) (n c : Nat) (b : Option Addr) (m d : Nat) (t : TypeId) : Obj := .cells #[.slice a n c, .slice b m d] t
set_option maxHeartbeats 1000000 in
theorem sGood (a b : Option Addr) (n c m d : Nat) (f g : Nat → ByteArray) (w : World) (hn : n ≤ 1048576) (hm : m ≤ 1048576) (hc : n ≤ c) (hd : m ≤ d) (hf : ∀ i, i < n → (f i).size ≤ 1048576) (hg : ∀ i, i < m → (g i).size ≤ 1048576) (ha : SL w a n f) (hb : SL w b m g) :
    Calls Tryd.prog 21 #[wsv a n c b m d] w fun e w' => e = .returned (.bool (namB f n && namB g m)) ∧ Below w.heap.size w w' := by
  have hb0 : Below w.heap.size w (w.alloc (wsO a n c b m d 25)) := (Below.refl _ _).alloc (Nat.le_refl _) _
  have k1 := sNames a n c f (w.alloc (wsO a n c b m d 25)) hn hc hf (ha.alloc _)
  have k2 := sNames b m d g (w.alloc (wsO a n c b m d 25)) hm hd hg (hb.alloc _)
  generalize namB f n = A at *
  generalize namB g m = B at *
  cases A with
  | false =>
    clear k2
    go_enter Tryd.func21, Tryd.ntmps21
    go_wp2_with fail
    refine k1.mono ?_
    rintro e w1 ⟨rfl, hw1⟩
    have hs1 := hw1.symm
    clear hw1
    subst hs1
    go_wp2
    go_ret
    exact ⟨rfl, hb0⟩
  | true =>
    go_enter Tryd.func21, Tryd.ntmps21
    go_wp2_with fail
    refine k1.mono ?_
    rintro e w1 ⟨rfl, hw1⟩
    have hs1 := hw1.symm
    clear hw1
    subst hs1
    go_wp2_with fail
    refine k2.mono ?_
    rintro e w1 ⟨rfl, hw1⟩
    have hs1 := hw1.symm
    clear hw1
    subst hs1
    go_wp2
    go_ret
    exact ⟨rfl, hb0⟩
end Go.Proofs.YtmlfijapndkfhaaDoor

/- What FnWin draws: names and wishes. -/
namespace Go.Proofs.YtmlfijapndkfhaaDoor
open Go.RowKit
set_option maxRecDepth 20000 in
set_option maxHeartbeats 2000000 in
theorem name_any (C : Nat) (a : Option Addr) (len cap n : Nat) (w : World) (h : Cur w C a len cap n) (hn : n ≤ 900000) :
    Calls Tryd.prog 56 #[.pointer (some ⟨C, 0, none⟩)] w fun e w' => AnsN w w' e C a len cap n := by
  have k1 := lit_of C a len cap n w h (by omega) [⟨#[100, 111, 99, 107]⟩, ⟨#[104, 97, 108, 108]⟩, ⟨#[112, 105, 116]⟩, ⟨#[108, 97, 98]⟩, ⟨#[84, 195, 188, 114]⟩, ⟨#[206, 182]⟩, ⟨#[208, 188, 208, 190, 209, 129, 209, 130]⟩, ⟨#[97]⟩, ⟨#[230, 151, 165, 230, 156, 172]⟩, ⟨#[97, 98, 99, 100, 101, 102, 103, 104, 105, 106, 107, 108]⟩, ⟨#[108, 105, 102, 116]⟩] (by decide) (by decide) rfl
  simp only [List.map_cons, List.map_nil, List.length_cons, List.length_nil, Nat.zero_add, Nat.reduceAdd] at k1
  go_enter Tryd.func56, Tryd.ntmps56
  go_wp2_with fail
  refine k1.mono ?_
  rintro e w' ⟨s, n', rfl, hs, hn', hc, hT⟩
  clear k1 h
  go_wp2
  go_ret
  exact ⟨s, n', rfl, hs, hn', hc, hT⟩
/-- what stands while names are drawn -/
structure Ns (w wx : World) (C : Nat) (a : Option Addr) (len cap n' : Nat) (v : Value) (l : List ByteArray) : Prop where
  cur : Cur wx C a len cap n'
  own : OwS wx w.heap.size v l
  t : Turns C (C + 1) w wx
  sm : ∀ s ∈ l, s.size ≤ 1000
section
variable {w wx wy : World} {C : Nat} {a : Option Addr} {len cap n' n2 : Nat} {v v' : Value} {l : List ByteArray} {s : ByteArray}
theorem OwS.turns {lo hi base : Nat} (h : OwS wx base v l) (k : Turns lo hi wx wy) (hd : hi ≤ base) : OwS wy base v l := by
  obtain ⟨hl, h | ⟨g, cap, cur, h1, h2, h3, h4⟩⟩ := h
  · exact ⟨hl, .inl h⟩
  · have hg : g < wx.heap.size := (Array.getElem?_eq_some_iff.1 h3).1
    exact ⟨hl, .inr ⟨g, cap, cur, h1, h2, (k.block g hg (by omega)).trans h3, h4⟩⟩
theorem Ns.step (h : Ns w wx C a len cap n' v l) (hc : Cur wy C a len cap n2) (k : Turns C (C + 1) wx wy) (hC : C < w.heap.size) : Ns w wy C a len cap n2 v l :=
  ⟨hc, h.own.turns k (by omega), h.t.trans k, h.sm⟩
theorem Ns.app {m : List ByteArray} {o : Obj} (h : Ns w wx C a len cap n' v l) (ho : OwS wy w.heap.size v' (l ++ m)) (hg : (wx.alloc o).grownBy wy v.ownBlock) (hm : ∀ s ∈ m, s.size ≤ 1000) (hC : C < w.heap.size) : Ns w wy C a len cap n' v' (l ++ m) := by
  have hb : Below w.heap.size wx wy := ((Below.refl _ _).alloc h.t.size o).grown hg (by simp; have := h.t.size; omega) (fun q hq => (World.ownsRow.lt h.own q hq).1)
  exact ⟨h.cur.below hb hC, ho, tn_below h.t hb (Nat.le_refl _), fun s hs => (List.mem_append.1 hs).elim (h.sm s) (hm s)⟩
end
/-- some names were drawn -/
def AnsNs (w w' : World) (e : Ending) (C : Nat) (a : Option Addr) (len cap n : Nat) : Prop := ∃ (x : Option Addr) (c n' : Nat) (l : List ByteArray), e = .returned (.slice x l.length c) ∧ l.length ≤ 100 ∧ l.length ≤ c ∧ (∀ i, i < l.length → (l[i]!).size ≤ 1000) ∧ SL w' x l.length (fun i => l[i]!) ∧ (∀ q, x = some q → w.heap.size ≤ q.block) ∧ n' ≤ n + 100 ∧ Cur w' C a len cap n' ∧ Turns C (C + 1) w w'
theorem Ns.ans {w wx : World} {C : Nat} {a : Option Addr} {len cap n' n : Nat} {v : Value} {l : List ByteArray} (h : Ns w wx C a len cap n' v l) (hl : l.length ≤ 100) (hn : n' ≤ n + 100) : AnsNs w wx (.returned v) C a len cap n := by
  have hs : ∀ i, i < l.length → (l[i]!).size ≤ 1000 := fun i hi => h.sm _ (by simp [hi])
  rcases h.own.shape with ⟨rfl, rfl⟩ | ⟨g, c, rfl, hb, _, hc⟩
  · exact ⟨none, 0, n', [], rfl, by simp, by simp, hs, SL.none _ _, (fun q hq => by cases hq), hn, h.cur, h.t⟩
  · exact ⟨_, c, n', l, rfl, hl, hc, hs, ows_sl h.own rfl, (fun q hq => by cases hq; exact hb), hn, h.cur, h.t⟩
theorem Ns.shape {w wx : World} {C : Nat} {a : Option Addr} {len cap n' : Nat} {v : Value} {l : List ByteArray} (h : Ns w wx C a len cap n' v l) : ∃ x c, v = .slice x l.length c ∧ SL wx x l.length (fun i => l[i]!) := by
  rcases h.own.shape with ⟨rfl, rfl⟩ | ⟨g, c, rfl, hb, _, hc⟩
  · exact ⟨none, 0, rfl, SL.none _ _⟩
  · exact ⟨_, c, rfl, ows_sl h.own rfl⟩
end Go.Proofs.YtmlfijapndkfhaaDoor
