/- Lists of lists of ints: what one in memory is; the law's own copies of them, compared; their size. -/
import Derived.Test.YtjmdghkhapajiabLqCopy
import Derived.Test.YtjmdghkhapajiabLqSz
import Derived.Test.YtjmdghkhapajiabCwRM
namespace Go.Proofs.Ytjmdghkhapajiab
open Go.RowKit
set_option maxHeartbeats 1000000 in
theorem copyRc (a : Option Addr) (n cap : Nat) (K : Nat → Nat) (F : Nat → Nat → Int) (w : World) (hn : n ≤ 1048576) (hK : ∀ i, i < n → K i ≤ 1048576) (h : RR w a n K F) :
    Calls Try.prog 6 #[.slice a n cap] w fun e w' => e = .returned (.slice (some ⟨w.heap.size, 0, none⟩) n n) ∧ RC w' (some ⟨w.heap.size, 0, none⟩) n K F ∧ Below w.heap.size w w' := by
  have hmk := run_make_row' (P := Try.prog) 22 23 (.slice none 0 0) 24 Try.underlying22 infoII rfl .i64 .i64 n (by omega) (by omega)
  have hr0 : (w.alloc (.cells (madeCells #[.slice none 0 0] n) 23)).rowIs w.heap.size 23 n (rwS (fun _ => none) (fun _ => 0) (fun _ => 0) 0) := (World.rowIs_made w (.slice none 0 0) n 23).congr fun i _ => by simp [rwS]
  have hb0 : Below w.heap.size w (w.alloc (.cells (madeCells #[.slice none 0 0] n) 23)) := (Below.refl _ _).alloc (Nat.le_refl _) _
  have HR : Hid ((w.alloc (.cells (madeCells #[.slice none 0 0] n) 23)).rowIs w.heap.size 23 n (rwS (fun _ => none) (fun _ => 0) (fun _ => 0) 0)) := hr0
  clear hr0
  obtain ⟨A, C, hA⟩ := h
  go_enter Try.func6, Try.ntmps6
  go_wp2
  clear hmk
  go_loopw [4] (fun i wr => ∃ (k : Nat) (A' : Nat → Option Addr) (C' K' : Nat → Nat), k ≤ n ∧ i = .int .i64 k ∧ wr.rowIs w.heap.size 23 n (rwS A' K' C' k) ∧ (∀ j, j < k → IL wr (A' j) (K j) (F j) ∧ K' j = K j ∧ C' j = K j) ∧ Below w.heap.size w wr) (fun i _ => n - (intOf i).toNat)
  case atStart => exact ⟨0, _, _, _, Nat.zero_le _, rfl, HR.out, fun j hj => absurd hj (Nat.not_lt_zero _), hb0⟩
  case round =>
    obtain ⟨k, A', C', K', hk, rfl, hrow, hIL, hbel⟩ := hrel
    clear HR hb0
    by_cases hlt : k < n
    · have hA1 := hA.below hbel
      obtain ⟨b, off, rfl, hbw, hcell⟩ := hA1.out (by omega)
      have hck := hcell k hlt
      have hkk := hK k hlt
      have hik := hA1.row k hlt
      have i0 : (0 : Int) ≤ (k : Int) := by omega
      have i1 : (k : Int) < (n : Int) := by omega
      clear hcell hA1
      go_wp2_with fail
      refine (copyQ (A k) (K k) (C k) (F k) _ hkk hik).mono ?_
      rintro e w1 ⟨rfl, hL1, hs1, hb1⟩
      have hl0 := hrow.lt
      have hrow1 := rowIs_below hrow hb1 hl0
      have ho : w1.cell? ⟨w.heap.size, k, none⟩ = some (.slice none 0 0) := by rw [hrow1.cell hlt]; simp [rwS]
      have hfz := hrow1.frozen k
      have hrow2 := rwS_step A' K' C' k (some ⟨wr.heap.size, 0, none⟩) (K k) (K k) hrow1
      have hO : Only w.heap.size w1 (w1.setCell ⟨w.heap.size, k, none⟩ (.slice (some ⟨wr.heap.size, 0, none⟩) (K k) (K k))) := (Only.refl _ _).set k _
      have hbel2 := (stepA hbel hb1).setCell (p := ⟨w.heap.size, k, none⟩) (Nat.le_refl _) (.slice (some ⟨wr.heap.size, 0, none⟩) (K k) (K k))
      have hIL2 : ∀ j, j < k + 1 → IL (w1.setCell ⟨w.heap.size, k, none⟩ (.slice (some ⟨wr.heap.size, 0, none⟩) (K k) (K k))) (if j = k then some ⟨wr.heap.size, 0, none⟩ else A' j) (K j) (F j) ∧ (if j = k then K k else K' j) = K j ∧ (if j = k then K k else C' j) = K j := by
        intro j hj
        by_cases e : j = k
        · subst e
          simp only [if_true]
          exact ⟨(hL1.only (OnlyIn.of hO (Nat.le_refl _) (Nat.lt_succ_self _)) (.inr (by omega))).il, trivial, trivial⟩
        · rw [if_neg e, if_neg e, if_neg e]
          obtain ⟨h1, h2⟩ := hIL j (by omega)
          refine ⟨fun h0 => ?_, h2⟩
          obtain ⟨b', o', e', hb', hc'⟩ := (h1.below hb1) h0
          by_cases e3 : b' = w.heap.size
          · exfalso
            subst e3
            have h5 := hc' 0 h0
            have hlt5 : o' + 0 < n := by
              rcases Nat.lt_or_ge (o' + 0) n with h6 | h6
              · exact h6
              · rw [rowIs_none hrow1 h6] at h5; cases h5
            rw [hrow1.cell hlt5] at h5
            unfold rwS at h5
            split at h5 <;> cases h5
          · exact ⟨b', o', e', by simpa using hb', fun i hi => (cell_same (hO.block b' e3) _).trans (hc' i hi)⟩
      clear hrow hIL hbel hrow1 hb1 hL1 hO hik hkk
      have HI : Hid (∀ j, j < k + 1 → IL (w1.setCell ⟨w.heap.size, k, none⟩ (.slice (some ⟨wr.heap.size, 0, none⟩) (K k) (K k))) (if j = k then some ⟨wr.heap.size, 0, none⟩ else A' j) (K j) (F j) ∧ (if j = k then K k else K' j) = K j ∧ (if j = k then K k else C' j) = K j) := hIL2
      have HW : Hid ((w1.setCell ⟨w.heap.size, k, none⟩ (.slice (some ⟨wr.heap.size, 0, none⟩) (K k) (K k))).rowIs w.heap.size 23 n (rwS (fun i => if i = k then some ⟨wr.heap.size, 0, none⟩ else A' i) (fun i => if i = k then K k else K' i) (fun i => if i = k then K k else C' i) (k + 1))) := hrow2
      clear hIL2 hrow2
      go_wp2
      exact ⟨⟨k + 1, _, _, _, by omega, by go_num, HW.out, HI.out, hbel2⟩, by simp [intOf]; omega⟩
    · have hke : k = n := by omega
      subst hke
      go_wp2
      go_ret
      refine ⟨rfl, ⟨A', C', ⟨fun _ => ⟨w.heap.size, 0, rfl, hrow.lt, fun i hi => ?_⟩, fun i hi => (hIL i hi).1⟩, fun i hi => by rw [(hIL i hi).2.2]; exact Nat.le_refl _⟩, hbel⟩
      rw [Nat.zero_add, hrow.cell hi]
      simp [rwS, hi, (hIL i hi).2.1]
theorem copyR (a : Option Addr) (n cap : Nat) (K : Nat → Nat) (F : Nat → Nat → Int) (w : World) (hn : n ≤ 1048576) (hK : ∀ i, i < n → K i ≤ 1048576) (h : RR w a n K F) :
    Calls Try.prog 6 #[.slice a n cap] w fun e w' => e = .returned (.slice (some ⟨w.heap.size, 0, none⟩) n n) ∧ RR w' (some ⟨w.heap.size, 0, none⟩) n K F ∧ Below w.heap.size w w' :=
  (copyRc a n cap K F w hn hK h).mono fun _ _ ⟨h1, h2, h3⟩ => ⟨h1, h2.rr, h3⟩
set_option maxHeartbeats 1000000 in
theorem eqR_any (a1 a2 : Option Addr) (n c1 c2 : Nat) (K : Nat → Nat) (F : Nat → Nat → Int) (w : World) (hn : n ≤ 1048576) (hK : ∀ i, i < n → K i ≤ 1048576) (h1 : RR w a1 n K F) (h2 : RR w a2 n K F) :
    Calls Try.prog 9 #[.slice a1 n c1, .slice a2 n c2] w fun e w' => e = .returned (.bool true) ∧ Below w.heap.size w w' := by
  obtain ⟨A1, C1, g1⟩ := h1
  obtain ⟨A2, C2, g2⟩ := h2
  go_enter Try.func9, Try.ntmps9
  go_wp2
  go_loopw [5] (fun i wr => ∃ k : Nat, k ≤ n ∧ i = .int .i64 k ∧ Below w.heap.size w wr) (fun i _ => n - (intOf i).toNat)
  case atStart => exact ⟨0, Nat.zero_le _, rfl, Below.refl _ _⟩
  case round =>
    obtain ⟨k, hk, rfl, hB⟩ := hrel
    by_cases hlt : k < n
    · have t1 := g1.below hB
      have t2 := g2.below hB
      obtain ⟨b1, o1, rfl, l1, x1⟩ := t1.out (by omega)
      obtain ⟨b2, o2, rfl, l2, x2⟩ := t2.out (by omega)
      have y1 := x1 k hlt
      have y2 := x2 k hlt
      have r1 := t1.row k hlt
      have r2 := t2.row k hlt
      have hkk := hK k hlt
      have hlt' : (k : Int) < (n : Int) := by omega
      have hw0 := Below.refl wr.heap.size wr
      clear x1 x2 t1 t2
      go_wp2_with fail
      go_region_held3 (fun w' => w'.cell? ⟨b1, o1 + k, none⟩ = some (.slice (A1 k) (K k) (C1 k)) ∧ w'.cell? ⟨b2, o2 + k, none⟩ = some (.slice (A2 k) (K k) (C2 k)))
        (first | (exact ⟨(hw0.drew.cell (p := ⟨b1, _, none⟩) l1).trans y1, (hw0.drew.cell (p := ⟨b2, _, none⟩) l2).trans y2⟩) | (exact ⟨(hw1.cell (p := ⟨b1, _, none⟩) l1).trans y1, (hw1.cell (p := ⟨b2, _, none⟩) l2).trans y2⟩) | (fail))
        ((go_at_call 10; refine (eqI_any (A1 k) (A2 k) (K k) (C1 k) (C2 k) (F k) _ hkk (r1.below hw0.drew) (r2.below hw0.drew)).mono ?_; rintro e w1 ⟨rfl, hbn⟩; have hw1 := stepA hw0.drew hbn; clear hbn))
      go_wp2
      go_roundw
      case rel => exact ⟨k + 1, by omega, by go_num, hB.trans (hw1.mono hB.size)⟩
      case measure => simp [intOf]; omega
    · go_wp2
      go_ret
      exact ⟨rfl, hB⟩
/-- what is left of a size, or -1 -/
def SzR (n : Nat) (K : Nat → Nat) (l : Int) (x : Int) : Prop := x = -1 ∨ (0 ≤ x ∧ x ≤ l ∧ (n : Int) ≤ l ∧ ∀ i, i < n → (K i : Int) ≤ l)
set_option maxHeartbeats 1000000 in
theorem szR (a : Option Addr) (n c : Nat) (K : Nat → Nat) (F : Nat → Nat → Int) (l : Int) (w : World) (h0 : 0 ≤ l) (h1 : l ≤ 1048576) (hn : n ≤ 9223372036854775807) (hK : ∀ i, i < n → K i ≤ 9223372036854775807) (h : RR w a n K F) :
    Calls Try.prog 4 #[.slice a n c, .int .i64 l] w fun e w' => ∃ x, e = .returned (.int .i64 x) ∧ SzR n K l x ∧ w' = w := by
  obtain ⟨A, C, g⟩ := h
  by_cases hl : l - (n : Int) < 0
  · go_enter Try.func4, Try.ntmps4
    go_wp2
    go_ret
    exact ⟨-1, rfl, .inl rfl, rfl⟩
  · have HL : Hid (¬ l - (n : Int) < 0) := hl
    go_enter Try.func4, Try.ntmps4
    go_wp2
    have hl2 := HL.out
    go_loopw [1, 5] (fun q i wr => ∃ (k : Nat) (x : Int), k ≤ n ∧ i = .int .i64 k ∧ q = .int .i64 x ∧ 0 ≤ x ∧ x ≤ l ∧ (∀ j, j < k → (K j : Int) ≤ l) ∧ wr = w) (fun _ i _ => n - (intOf i).toNat)
    case atStart => exact ⟨0, l - (n : Int), Nat.zero_le _, rfl, rfl, by omega, by omega, fun j hj => absurd hj (Nat.not_lt_zero _), rfl⟩
    case round =>
      obtain ⟨k, x, hk, rfl, rfl, hx0, hx1, hj, hw⟩ := hrel
      subst hw
      by_cases hlt : k < n
      · obtain ⟨b, off, rfl, hbw, hcell⟩ := g.out (by omega)
        have hck := hcell k hlt
        have hkk := hK k hlt
        have i0 : (0 : Int) ≤ (k : Int) := by omega
        have i1 : (k : Int) < (n : Int) := by omega
        clear hcell
        by_cases hq : (K k : Int) ≤ x
        · have hneg : ¬ x - (K k : Int) < 0 := by omega
          go_wp2_with fail
          refine (szI_in (A k) (K k) (C k) x _ hq (by omega)).mono ?_
          rintro e w1 ⟨rfl, hw1⟩
          have hs1 := hw1.symm
          clear hw1
          subst hs1
          go_wp2
          refine ⟨⟨k + 1, x - (K k : Int), by omega, by go_num, rfl, by omega, by omega, fun j hj' => ?_, trivial⟩, by simp [intOf]; omega⟩
          by_cases e : j = k
          · subst e; omega
          · exact hj j (by omega)
        · go_wp2_with fail
          refine (szI_out (A k) (K k) (C k) x _ (by omega) hx0 hkk).mono ?_
          rintro e w1 ⟨rfl, hw1⟩
          have hs1 := hw1.symm
          clear hw1
          subst hs1
          go_wp2
          go_ret
          exact ⟨-1, rfl, .inl rfl, rfl⟩
      · have hke : k = n := by omega
        subst hke
        go_wp2
        go_ret
        exact ⟨x, rfl, .inr ⟨hx0, hx1, by omega, hj⟩, rfl⟩
end Go.Proofs.Ytjmdghkhapajiab
