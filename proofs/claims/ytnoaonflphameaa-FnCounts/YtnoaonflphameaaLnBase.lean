/- Lists of pairs of ints in memory, each pair in a block of its own. -/
import Derived.Test.YtnoaonflphameaaLnMath
namespace Go.Proofs.Ytnoaonflphameaa
open Go.RowKit

def pr (x y : Int) (i : Nat) : Int := if i = 0 then x else y
abbrev hd2 (b : Nat) : Value := .slice (some ⟨b, 0, none⟩) 2 2
def hdL (B : Nat → Nat) (k : Nat) : List Value := (List.range k).map fun i => hd2 (B i)
theorem hdL_len (B : Nat → Nat) (k : Nat) : (hdL B k).length = k := by simp [hdL]
theorem hdL_get {B : Nat → Nat} {k i : Nat} (h : i < k) : (hdL B k)[i]? = some (hd2 (B i)) := by simp [hdL, h]
def upd (B : Nat → Nat) (k b : Nat) (i : Nat) : Nat := if i = k then b else B i
theorem hdL_upd (B : Nat → Nat) (k b : Nat) : hdL (upd B k b) (k + 1) = hdL B k ++ [hd2 b] := by
  unfold hdL
  rw [List.range_succ, List.map_append]
  congr 1
  · refine List.map_congr_left fun i hi => ?_
    have : i ≠ k := by have := List.mem_range.1 hi; omega
    simp [upd, this]
  · simp [upd]
theorem infoSl : (Try.prog.info? 23).map (fun i => (i.zero, i.size, i.bytes)) = some (some (.slice none 0 0), 1, 24) := by kernel_rfl

/-- a list of pairs of the call's own, that is appended to -/
structure OwnP (w : World) (base : Nat) (v : Value) (k : Nat) (B : Nat → Nat) (X Y : Nat → Int) : Prop where
  row : w.ownsRow base 23 1 v k (hdL B k)
  inn : ∀ i, i < k → base ≤ B i ∧ IP w (B i) 2 (pr (X i) (Y i))
  inj : ∀ i j, i < k → j < k → B i = B j → i = j
theorem OwnP.shape {w : World} {base : Nat} {v : Value} {k : Nat} {B : Nat → Nat} {X Y : Nat → Int} (h : OwnP w base v k B X Y) : ∃ a cap, v = .slice a k cap := by
  obtain ⟨_, ⟨rfl, rfl⟩ | ⟨g, cap, cur, rfl, _⟩⟩ := h.row
  · exact ⟨_, _, rfl⟩
  · exact ⟨_, _, rfl⟩
theorem OwnP.nil (w : World) (base : Nat) (X Y : Nat → Int) : OwnP w base (.slice none 0 0) 0 (fun _ => 0) X Y :=
  ⟨World.ownsRow_nil _ _ _ _, fun _ hi => absurd hi (Nat.not_lt_zero _), fun _ _ hi => absurd hi (Nat.not_lt_zero _)⟩
theorem pair_ip (w : World) (b : Nat) (x y : Int) (hb : b = w.heap.size) : IP (w.alloc (.cells #[.int .i64 x, .int .i64 y] 3)) b 2 (pr x y) := by
  subst hb
  have h := lit_ip w [x, y] 3
  refine h.congr fun i hi => ?_
  match i, hi with
  | 0, _ => rfl
  | 1, _ => rfl
theorem OwnP.head {w : World} {base : Nat} {v : Value} {k : Nat} {B : Nat → Nat} {X Y : Nat → Int} (h : OwnP w base v k B X Y) {i : Nat} (hi : i < k) : v.ownBlock ≠ some (B i) := by
  intro e
  have hr := h.row
  obtain ⟨_, ⟨rfl, rfl⟩ | ⟨g, cap, cur, rfl, _⟩⟩ := h.row
  · omega
  · have hg : g = B i := by simpa [Value.ownBlock] using e
    have c1 := World.ownsRow.cellAt hr 0 (by omega)
    rw [hdL_get (by omega)] at c1
    have c2 := (h.inn i hi).2.c 0 (by omega)
    rw [← hg, c1] at c2
    cases c2
theorem OwnP.step {wr w3 : World} {base : Nat} {v v' : Value} {k : Nat} {B : Nat → Nat} {X Y : Nat → Int} {x y : Int} (h : OwnP wr base v k B X Y) (hb : base ≤ wr.heap.size) (hX : X k = x) (hY : Y k = y)
    (hown : w3.ownsRow base 23 1 v' (k + 1) (hdL B k ++ [hd2 wr.heap.size]))
    (hgrow : ((wr.alloc (.cells #[.int .i64 x, .int .i64 y] 3)).alloc (.cells #[hd2 wr.heap.size] 23)).grownBy w3 v.ownBlock) : OwnP w3 base v' (k + 1) (upd B k wr.heap.size) X Y := by
  have hk : ∀ c, c < wr.heap.size + 1 → v.ownBlock ≠ some c → w3.heap[c]? = ((wr.alloc (.cells #[.int .i64 x, .int .i64 y] 3)).alloc (.cells #[hd2 wr.heap.size] 23)).heap[c]? := fun c hc hne => hgrow.block c (by simp; omega) (fun e => hne e.symm)
  have hsz : ((wr.alloc (.cells #[.int .i64 x, .int .i64 y] 3)).alloc (.cells #[hd2 wr.heap.size] 23)).heap.size ≤ w3.heap.size := hgrow.size
  have go : ∀ {c : Nat} {F : Nat → Int}, IP ((wr.alloc (.cells #[.int .i64 x, .int .i64 y] 3)).alloc (.cells #[hd2 wr.heap.size] 23)) c 2 F → c < wr.heap.size + 1 → v.ownBlock ≠ some c → IP w3 c 2 F := fun {c F} hP hc hne =>
    ⟨Nat.lt_of_lt_of_le hP.lt hsz, fun i hi => (cell_same (hk c hc hne) _).trans (hP.c i hi), fun j => (frozen_same (hk c hc hne) j).trans (hP.fz j)⟩
  have hal : Below wr.heap.size wr ((wr.alloc (.cells #[.int .i64 x, .int .i64 y] 3)).alloc (.cells #[hd2 wr.heap.size] 23)) := ((Below.refl _ _).alloc (Nat.le_refl _) _).alloc (by simp) _
  refine ⟨by rw [hdL_upd]; exact hown, fun i hi => ?_, fun i j hi hj => ?_⟩
  · unfold upd
    by_cases e : i = k
    · subst e
      rw [if_pos rfl, hX, hY]
      refine ⟨hb, go ?_ (by omega) ?_⟩
      · have h1 := pair_ip wr wr.heap.size x y rfl
        exact h1.below ((Below.refl _ _).alloc (Nat.le_refl _) _) h1.lt
      · intro e
        have := World.ownsRow.lt h.row _ e
        omega
    · rw [if_neg e]
      obtain ⟨h1, h2⟩ := h.inn i (by omega)
      have := h2.lt
      exact ⟨h1, go (h2.below hal h2.lt) (by omega) (h.head (by omega))⟩
  · unfold upd
    by_cases e1 : i = k
    · by_cases e2 : j = k
      · intro _; omega
      · rw [if_pos e1, if_neg e2]
        intro e
        have := (h.inn j (by omega)).2.lt
        omega
    · by_cases e2 : j = k
      · rw [if_neg e1, if_pos e2]
        intro e
        have := (h.inn i (by omega)).2.lt
        omega
      · rw [if_neg e1, if_neg e2]
        exact h.inj i j (by omega) (by omega)

/-- a list of pairs, in blocks from lo on, below hi -/
def LP (w : World) (lo hi : Nat) (a : Option Addr) (n : Nat) (X Y : Nat → Int) : Prop :=
  0 < n → ∃ (g : Nat) (B : Nat → Nat), a = some ⟨g, 0, none⟩ ∧ lo ≤ g ∧ g < hi ∧ g < w.heap.size ∧ (∀ i, i < n → w.cell? ⟨g, i, none⟩ = some (hd2 (B i))) ∧ (∀ i, i < n → lo ≤ B i ∧ B i < hi ∧ IP w (B i) 2 (pr (X i) (Y i))) ∧ (∀ i j, i < n → j < n → B i = B j → i = j)
theorem lp_none (w : World) (lo hi : Nat) (a : Option Addr) (X Y : Nat → Int) : LP w lo hi a 0 X Y := fun h => absurd h (Nat.lt_irrefl _)
theorem OwnP.lp {w : World} {base : Nat} {a : Option Addr} {k c : Nat} {B : Nat → Nat} {X Y : Nat → Int} (h : OwnP w base (.slice a k c) k B X Y) : LP w base w.heap.size a k X Y := fun h0 => by
  have hr := h.row
  obtain ⟨_, ⟨e, rfl⟩ | ⟨g, cap, cur, e, hg, hh, _⟩⟩ := h.row
  · omega
  · cases e
    have hlt : g < w.heap.size := (Array.getElem?_eq_some_iff.1 hh).1
    refine ⟨g, B, rfl, hg, hlt, hlt, fun i hi => ?_, fun i hi => ?_, h.inj⟩
    · rw [World.ownsRow.cellAt hr i (by omega)]; exact hdL_get hi
    · obtain ⟨h1, h2⟩ := h.inn i hi
      exact ⟨h1, h2.lt, h2⟩
theorem LP.on {w w' : World} {lo hi : Nat} {a : Option Addr} {n : Nat} {X Y : Nat → Int} (h : LP w lo hi a n X Y) (k : Below w.heap.size w w') : LP w' lo hi a n X Y := fun h0 => by
  obtain ⟨g, B, rfl, h1, h2, h3, h4, h5, h6⟩ := h h0
  exact ⟨g, B, rfl, h1, h2, Nat.lt_of_lt_of_le h3 k.size, fun i hi => (k.cell (p := ⟨g, i, none⟩) h3).trans (h4 i hi), fun i hi => ⟨(h5 i hi).1, (h5 i hi).2.1, (h5 i hi).2.2.below k (h5 i hi).2.2.lt⟩, h6⟩
theorem LP.turns {w w' : World} {lo hi lo' hi' : Nat} {a : Option Addr} {n : Nat} {X Y : Nat → Int} (h : LP w lo hi a n X Y) (k : Turns lo' hi' w w') (hd : hi ≤ lo' ∨ hi' ≤ lo) : LP w' lo hi a n X Y := fun h0 => by
  obtain ⟨g, B, rfl, h1, h2, h3, h4, h5, h6⟩ := h h0
  refine ⟨g, B, rfl, h1, h2, Nat.lt_of_lt_of_le h3 k.size, fun i hi => (cell_same (k.block g h3 (by omega)) _).trans (h4 i hi), fun i hi => ?_, h6⟩
  obtain ⟨b1, b2, b3⟩ := h5 i hi
  have e := k.block (B i) b3.lt (by omega)
  exact ⟨b1, b2, Nat.lt_of_lt_of_le b3.lt k.size, fun j hj => (cell_same e _).trans (b3.c j hj), fun j => (frozen_same e j).trans (b3.fz j)⟩
theorem LP.wide {w : World} {lo hi lo' hi' : Nat} {a : Option Addr} {n : Nat} {X Y : Nat → Int} (h : LP w lo hi a n X Y) (h0 : lo' ≤ lo) (h1 : hi ≤ hi') : LP w lo' hi' a n X Y := fun hn => by
  obtain ⟨g, B, rfl, b1, b2, b3, b4, b5, b6⟩ := h hn
  exact ⟨g, B, rfl, by omega, by omega, b3, b4, fun i hi => ⟨by have := (b5 i hi).1; omega, by have := (b5 i hi).2.1; omega, (b5 i hi).2.2⟩, b6⟩
end Go.Proofs.Ytnoaonflphameaa
