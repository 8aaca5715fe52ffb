/- Rows of a call's own, marked and looked at again. -/
import Derived.Test.YtbndhhjgjalecaaDoorQCwOw
import Derived.Test.YtbndhhjgjalecaaDoorQLqList
namespace Go.Proofs.YtbndhhjgjalecaaDoor
open Go.RowKit

/-- the list of rows lies in block g, row i in block B i; all between lo and hi, no two in one -/
structure Rq (w : World) (lo hi : Nat) (a : Option Addr) (m L : Nat) (R : Nat → Nat → Int) (g : Nat) (B C : Nat → Nat) : Prop where
  at_ : a = some ⟨g, 0, none⟩
  glo : lo ≤ g
  ghi : g < hi
  glt : g < w.heap.size
  cell : ∀ i, i < m → w.cell? ⟨g, i, none⟩ = some (.slice (some ⟨B i, 0, none⟩) L (C i))
  blo : ∀ i, i < m → lo ≤ B i
  bhi : ∀ i, i < m → B i < hi
  bg : ∀ i, i < m → B i ≠ g
  row : ∀ i, i < m → IP w (B i) L (R i)
  inj : ∀ i j, i < m → j < m → B i = B j → i = j
def RQ (w : World) (lo hi : Nat) (a : Option Addr) (m L : Nat) (R : Nat → Nat → Int) : Prop := 0 < m → ∃ g B C, Rq w lo hi a m L R g B C
section
variable {w w' : World} {lo hi lo' hi' : Nat} {a : Option Addr} {m L : Nat} {R R' : Nat → Nat → Int} {g : Nat} {B C : Nat → Nat}
theorem Rq.of (h : Rq w lo hi a m L R g B C) (hs : w.heap.size ≤ w'.heap.size) (hb : ∀ x, x < w.heap.size → (lo ≤ x ∧ x < hi) → w'.heap[x]? = w.heap[x]?) : Rq w' lo hi a m L R g B C :=
  ⟨h.at_, h.glo, h.ghi, Nat.lt_of_lt_of_le h.glt hs, fun i hi => (cell_same (hb g h.glt ⟨h.glo, h.ghi⟩) i).trans (h.cell i hi), h.blo, h.bhi, h.bg, fun i hi => by
    have hr := h.row i hi
    have e := hb (B i) hr.lt ⟨h.blo i hi, h.bhi i hi⟩
    exact ⟨Nat.lt_of_lt_of_le hr.lt hs, fun j hj => (cell_same e j).trans (hr.c j hj), fun j => (frozen_same e j).trans (hr.fz j)⟩, h.inj⟩
theorem RQ.on (h : RQ w lo hi a m L R) (k : Below w.heap.size w w') : RQ w' lo hi a m L R := fun h0 => by
  obtain ⟨g, B, C, q⟩ := h h0
  exact ⟨g, B, C, q.of k.size fun x hx _ => k.block x hx⟩
theorem RQ.turns (h : RQ w lo hi a m L R) (k : Turns lo' hi' w w') (hd : hi ≤ lo' ∨ hi' ≤ lo) : RQ w' lo hi a m L R := fun h0 => by
  obtain ⟨g, B, C, q⟩ := h h0
  exact ⟨g, B, C, q.of k.size fun x hx hy => k.block x hx (by omega)⟩
theorem RQ.congr (h : RQ w lo hi a m L R) (e : ∀ i, i < m → ∀ j, j < L → R i j = R' i j) : RQ w lo hi a m L R' := fun h0 => by
  obtain ⟨g, B, C, q⟩ := h h0
  exact ⟨g, B, C, q.at_, q.glo, q.ghi, q.glt, q.cell, q.blo, q.bhi, q.bg, fun i hi => (q.row i hi).congr (e i hi), q.inj⟩
theorem RQ.rr (h : RQ w lo hi a m L R) : RR w a m (fun _ => L) R := by
  by_cases h0 : 0 < m
  · obtain ⟨g, B, C, q⟩ := h h0
    exact ⟨fun i => some ⟨B i, 0, none⟩, C, fun _ => ⟨g, 0, q.at_, q.glt, fun i hi => by rw [Nat.zero_add]; exact q.cell i hi⟩, fun i hi => (q.row i hi).il⟩
  · exact ⟨fun _ => none, fun _ => 0, fun h => absurd h h0, fun i hi => absurd hi (by omega)⟩
theorem Ow.rq {base c : Nat} (h : Ow w base (.slice a m c) m L R B C) (hL : 0 < L) : RQ w base w.heap.size a m L R := fun h0 => by
  obtain ⟨g, cap, e, h1, h2, h3⟩ := h.some h0
  cases e
  exact ⟨g, B, C, rfl, h1, h2, h2, h3, h.low, fun i hi => (h.row i hi).lt, fun i hi => h.apart hL (by simp [Value.ownBlock]) hi, h.row, h.inj⟩
end
/-- the numbers that a marking writes -/
def mkR (k L : Nat) (i j : Nat) : Int := ((k + i * L : Nat) : Int) + (j : Int)
/-- the rows below p are marked -/
def mrk (k L : Nat) (R : Nat → Nat → Int) (p i : Nat) : Nat → Int := if i < p then mkR k L i else R i
set_option maxHeartbeats 2000000 in
theorem markR (a : Option Addr) (m cap k L lo hi : Nat) (R : Nat → Nat → Int) (w : World) (hm : m ≤ 5) (hL0 : 0 < L) (hL : 0 < m → L ≤ 1000) (hk : k ≤ 1000) (h : RQ w lo hi a m L R) :
    Calls Tryd.prog 24 #[.slice a m cap, .int .i64 (k : Int)] w fun e w' => e = .returned (.int .i64 ((k + m * L : Nat) : Int)) ∧ RQ w' lo hi a m L (mkR k L) ∧ Turns lo hi w w' := by
  by_cases h0 : 0 < m
  case neg =>
    have hm0 : m = 0 := by omega
    subst hm0
    go_enter Tryd.func24, Tryd.ntmps24
    go_wp2
    go_loopw [1, 5] (fun v i wr => v = .int .i64 (k : Int) ∧ i = .int .i64 0 ∧ wr = w) (fun _ _ _ => 0)
    case atStart => exact ⟨rfl, rfl, rfl⟩
    case round =>
      obtain ⟨rfl, rfl, hw⟩ := hrel
      have hw' := hw.symm
      clear hw
      subst hw'
      go_wp2
      go_ret
      exact ⟨ret_int (by simp), fun h => by omega, turns_of (Below.refl _ _)⟩
  case pos =>
    obtain ⟨g, B, C, hq⟩ := h h0
    obtain rfl := hq.at_
    have hL' := hL h0
    have HQ0 : Hid (Rq w lo hi (some ⟨g, 0, none⟩) m L (mrk k L R 0) g B C) := by
      have : mrk k L R 0 = R := by funext i; simp [mrk]
      rw [this]; exact hq
    clear hq h hL
    go_enter Tryd.func24, Tryd.ntmps24
    go_wp2
    go_loopw [1, 5] (fun v i wr => ∃ (p Q : Nat), v = .int .i64 (Q : Int) ∧ i = .int .i64 (p : Int) ∧ p ≤ m ∧ Q ≤ 1000 + p * 1000 ∧ Hid (Q = k + p * L) ∧ Hid (Rq wr lo hi (some ⟨g, 0, none⟩) m L (mrk k L R p) g B C) ∧ Turns lo hi w wr) (fun _ i _ => m - (intOf i).toNat)
    case atStart => exact ⟨0, k, rfl, rfl, Nat.zero_le _, by omega, (by show k = k + 0 * L; omega), HQ0, turns_of (Below.refl _ _)⟩
    case round =>
      obtain ⟨p, Q, rfl, rfl, hp, hQ, HQ, HR, hT⟩ := hrel
      by_cases hlt : p < m
      · have x0 := HR.out.cell p hlt
        have hrow := HR.out.row p hlt
        have hLQ : LQ wr (B p) (B p + 1) (some ⟨B p, 0, none⟩) L (mrk k L R p p) := fun _ => ⟨B p, rfl, Nat.le_refl _, Nat.lt_succ_self _, hrow⟩
        have j0 : (0 : Int) ≤ (p : Int) := by omega
        have j1 : (p : Int) < (m : Int) := by omega
        have kM := markT (some ⟨B p, 0, none⟩) L (C p) Q (B p) (B p + 1) (mrk k L R p p) wr (by omega) (by omega) hLQ
        have q1 : (0 : Int) ≤ (Q : Int) + (L : Int) := by omega
        clear hLQ hrow HQ0
        go_wp2_with fail
        refine kM.mono ?_
        rintro e w5 ⟨rfl, hL5, hT5⟩
        have hT6 := hT.trans (hT5.wide (HR.out.blo p hlt) (by have := HR.out.bhi p hlt; omega))
        have HR2 : Hid (Rq w5 lo hi (some ⟨g, 0, none⟩) m L (mrk k L R (p + 1)) g B C) := by
          have hR := HR.out
          refine ⟨rfl, hR.glo, hR.ghi, Nat.lt_of_lt_of_le hR.glt hT5.size, fun i hi => ?_, hR.blo, hR.bhi, hR.bg, fun i hi => ?_, hR.inj⟩
          · have := hR.bg p hlt
            exact (cell_same (hT5.block g hR.glt (by omega)) i).trans (hR.cell i hi)
          · by_cases e : i = p
            · subst e
              obtain ⟨b, e1, _, _, hI⟩ := hL5 hL0
              have e5 : b = B i := by cases e1; rfl
              rw [e5] at hI
              refine hI.congr fun j _ => ?_
              unfold mrk mkR
              rw [if_pos (by omega), ← HQ.out]
            · have hne : B i ≠ B p := fun e2 => e (hR.inj i p hi hlt e2)
              have hr := hR.row i hi
              have e2 := hT5.block (B i) hr.lt (by omega)
              have e3 : mrk k L R (p + 1) i = mrk k L R p i := by
                unfold mrk
                by_cases e4 : i < p
                · rw [if_pos e4, if_pos (by omega)]
                · rw [if_neg e4, if_neg (by omega)]
              rw [e3]
              exact ⟨Nat.lt_of_lt_of_le hr.lt hT5.size, fun j hj => (cell_same e2 j).trans (hr.c j hj), fun j => (frozen_same e2 j).trans (hr.fz j)⟩
        have HQ2 : Hid (Q + L = k + (p + 1) * L) := by have := HQ.out; show Q + L = k + (p + 1) * L; rw [Nat.add_mul]; omega
        clear hL5 hT5 HR HQ kM x0
        go_wp2
        exact ⟨⟨p + 1, Q + L, by go_num, by go_num, by omega, by omega, HQ2, HR2, hT6⟩, by simp [intOf]; omega⟩
      · have hpm : p = m := by omega
        subst hpm
        have HR2 : Hid (Rq wr lo hi (some ⟨g, 0, none⟩) p L (mkR k L) g B C) := by
          have hR := HR.out
          exact ⟨rfl, hR.glo, hR.ghi, hR.glt, hR.cell, hR.blo, hR.bhi, hR.bg, fun i hi => by have := hR.row i hi; unfold mrk at this; rwa [if_pos hi] at this, hR.inj⟩
        clear HR HQ0
        go_wp2
        go_ret
        exact ⟨ret_int (by rw [HQ.out]), fun _ => ⟨g, B, C, HR2.out⟩, hT⟩
set_option maxHeartbeats 2000000 in
theorem heldR (a : Option Addr) (m cap k L lo hi : Nat) (w : World) (hm : m ≤ 5) (hL : 0 < m → L ≤ 1000) (hk : k ≤ 1000) (h : RQ w lo hi a m L (mkR k L)) :
    Calls Tryd.prog 25 #[.slice a m cap, .int .i64 (k : Int)] w fun e w' => e = .returned (.int .i64 ((k + m * L : Nat) : Int)) ∧ w' = w := by
  by_cases h0 : 0 < m
  case neg =>
    have hm0 : m = 0 := by omega
    subst hm0
    go_enter Tryd.func25, Tryd.ntmps25
    go_wp2
    go_loopw [1, 5] (fun v i wr => v = .int .i64 (k : Int) ∧ i = .int .i64 0 ∧ wr = w) (fun _ _ _ => 0)
    case atStart => exact ⟨rfl, rfl, rfl⟩
    case round =>
      obtain ⟨rfl, rfl, hw⟩ := hrel
      have hw' := hw.symm
      clear hw
      subst hw'
      go_wp2
      go_ret
      exact ⟨ret_int (by simp), rfl⟩
  case pos =>
    obtain ⟨g, B, C, hq⟩ := h h0
    obtain rfl := hq.at_
    have hL' := hL h0
    have HR : Hid (Rq w lo hi (some ⟨g, 0, none⟩) m L (mkR k L) g B C) := hq
    clear hq h hL
    go_enter Tryd.func25, Tryd.ntmps25
    go_wp2
    go_loopw [1, 5] (fun v i wr => ∃ (p Q : Nat), v = .int .i64 (Q : Int) ∧ i = .int .i64 (p : Int) ∧ p ≤ m ∧ Q ≤ 1000 + p * 1000 ∧ Hid (Q = k + p * L) ∧ wr = w) (fun _ i _ => m - (intOf i).toNat)
    case atStart => exact ⟨0, k, rfl, rfl, Nat.zero_le _, by omega, (by show k = k + 0 * L; omega), rfl⟩
    case round =>
      obtain ⟨p, Q, rfl, rfl, hp, hQ, HQ, hw⟩ := hrel
      have hw' := hw.symm
      clear hw
      subst hw'
      by_cases hlt : p < m
      · have x0 := HR.out.cell p hlt
        have hrow := HR.out.row p hlt
        have hLQ : LQ w (B p) (B p + 1) (some ⟨B p, 0, none⟩) L (fun j => (Q : Int) + (j : Int)) := fun _ => ⟨B p, rfl, Nat.le_refl _, Nat.lt_succ_self _, hrow.congr fun j _ => by unfold mkR; rw [← HQ.out]⟩
        have j0 : (0 : Int) ≤ (p : Int) := by omega
        have j1 : (p : Int) < (m : Int) := by omega
        have kM := heldQ (some ⟨B p, 0, none⟩) L (C p) Q (B p) (B p + 1) w (by omega) (by omega) hLQ
        have q1 : (0 : Int) ≤ (Q : Int) + (L : Int) := by omega
        have HQ2 : Hid (Q + L = k + (p + 1) * L) := by have := HQ.out; show Q + L = k + (p + 1) * L; rw [Nat.add_mul]; omega
        clear hLQ hrow HQ
        go_wp2_with (first | (go_at_call 55; refine kM.mono ?_; rintro e9 w9 ⟨rfl, hw9⟩; have hs' := hw9.symm; clear hw9; subst hs') | (fail))
        exact ⟨⟨p + 1, Q + L, by go_num, by go_num, by omega, by omega, HQ2, trivial⟩, by simp [intOf]; omega⟩
      · have hpm : p = m := by omega
        subst hpm
        clear HR
        go_wp2
        go_ret
        exact ⟨ret_int (by rw [HQ.out]), rfl⟩
end Go.Proofs.YtbndhhjgjalecaaDoor
