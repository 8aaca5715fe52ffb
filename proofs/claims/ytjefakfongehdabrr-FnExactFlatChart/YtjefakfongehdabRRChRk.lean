/- Lists of lists of different lengths, each in a block of its own: copied, their sizes, marked and looked at again. -/
import Derived.Test.YtjefakfongehdabRRCwRows
import Derived.Test.YtjefakfongehdabRRLqMark
namespace Go.Proofs.YtjefakfongehdabRR
open Go.RowKit

/-- how many numbers the first k rows have -/
def sumK (K : Nat → Nat) : Nat → Nat
  | 0 => 0
  | k + 1 => sumK K k + K k
theorem sumK_le (K : Nat → Nat) : ∀ (n i : Nat), i < n → sumK K i + K i ≤ sumK K n := by
  intro n
  induction n with
  | zero => intro i hi; omega
  | succ n ih =>
    intro i hi
    show sumK K i + K i ≤ sumK K n + K n
    by_cases e : i = n
    · subst e; exact Nat.le_refl _
    · have := ih i (by omega); omega
theorem sumK_mono (K : Nat → Nat) (n i : Nat) (h : i ≤ n) : sumK K i ≤ sumK K n := by
  by_cases e : i = n
  · subst e; exact Nat.le_refl _
  · have := sumK_le K n i (by omega); omega

/-- the list lies in block g, row i (where it has any) in a block of its own; all between lo and hi -/
structure Rk (w : World) (lo hi : Nat) (a : Option Addr) (n : Nat) (K : Nat → Nat) (R : Nat → Nat → Int) (g : Nat) (A : Nat → Option Addr) (C : Nat → Nat) : Prop where
  at_ : a = some ⟨g, 0, none⟩
  glo : lo ≤ g
  ghi : g < hi
  glt : g < w.heap.size
  cell : ∀ i, i < n → w.cell? ⟨g, i, none⟩ = some (.slice (A i) (K i) (C i))
  row : ∀ i, i < n → 0 < K i → ∃ B, A i = some ⟨B, 0, none⟩ ∧ lo ≤ B ∧ B < hi ∧ B ≠ g ∧ IP w B (K i) (R i)
  inj : ∀ i j, i < n → j < n → 0 < K i → 0 < K j → i ≠ j → A i ≠ A j
def RK (w : World) (lo hi : Nat) (a : Option Addr) (n : Nat) (K : Nat → Nat) (R : Nat → Nat → Int) : Prop := 0 < n → ∃ g A C, Rk w lo hi a n K R g A C
section
variable {w w' : World} {lo hi lo' hi' : Nat} {a : Option Addr} {n : Nat} {K : Nat → Nat} {R R' : Nat → Nat → Int} {g : Nat} {A : Nat → Option Addr} {C : Nat → Nat}
theorem Rk.of (h : Rk w lo hi a n K R g A C) (hs : w.heap.size ≤ w'.heap.size) (hb : ∀ x, x < w.heap.size → (lo ≤ x ∧ x < hi) → w'.heap[x]? = w.heap[x]?) : Rk w' lo hi a n K R g A C :=
  ⟨h.at_, h.glo, h.ghi, Nat.lt_of_lt_of_le h.glt hs, fun i hi => (cell_same (hb g h.glt ⟨h.glo, h.ghi⟩) i).trans (h.cell i hi), fun i hi h0 => by
    obtain ⟨B, e1, e2, e3, e4, hr⟩ := h.row i hi h0
    have e := hb B hr.lt ⟨e2, e3⟩
    exact ⟨B, e1, e2, e3, e4, Nat.lt_of_lt_of_le hr.lt hs, fun j hj => (cell_same e j).trans (hr.c j hj), fun j => (frozen_same e j).trans (hr.fz j)⟩, h.inj⟩
theorem RK.on (h : RK w lo hi a n K R) (k : Below w.heap.size w w') : RK w' lo hi a n K R := fun h0 => by
  obtain ⟨g, A, C, q⟩ := h h0
  exact ⟨g, A, C, q.of k.size fun x hx _ => k.block x hx⟩
theorem RK.turns (h : RK w lo hi a n K R) (k : Turns lo' hi' w w') (hd : hi ≤ lo' ∨ hi' ≤ lo) : RK w' lo hi a n K R := fun h0 => by
  obtain ⟨g, A, C, q⟩ := h h0
  exact ⟨g, A, C, q.of k.size fun x hx hy => k.block x hx (by omega)⟩
theorem RK.wide (h : RK w lo hi a n K R) (h0 : lo' ≤ lo) (h1 : hi ≤ hi') : RK w lo' hi' a n K R := fun hn => by
  obtain ⟨g, A, C, q⟩ := h hn
  exact ⟨g, A, C, q.at_, Nat.le_trans h0 q.glo, Nat.lt_of_lt_of_le q.ghi h1, q.glt, q.cell, fun i hi hk => by
    obtain ⟨B, e1, e2, e3, e4, hr⟩ := q.row i hi hk
    exact ⟨B, e1, Nat.le_trans h0 e2, Nat.lt_of_lt_of_le e3 h1, e4, hr⟩, q.inj⟩
theorem RK.rr (h : RK w lo hi a n K R) : RR w a n K R := by
  by_cases h0 : 0 < n
  · obtain ⟨g, A, C, q⟩ := h h0
    exact ⟨A, C, fun _ => ⟨g, 0, q.at_, q.glt, fun i hi => by rw [Nat.zero_add]; exact q.cell i hi⟩, fun i hi hk => by
      obtain ⟨B, e1, e2, e3, e4, hr⟩ := q.row i hi hk
      rw [e1]
      exact hr.il hk⟩
  · exact ⟨fun _ => none, fun _ => 0, fun h => absurd h h0, fun i hi => absurd hi (by omega)⟩
theorem rk_none (w : World) (lo hi : Nat) (a : Option Addr) (K : Nat → Nat) (R : Nat → Nat → Int) : RK w lo hi a 0 K R := fun h => absurd h (Nat.lt_irrefl _)
end
set_option maxHeartbeats 2000000 in
theorem copyK (a : Option Addr) (n cap : Nat) (K : Nat → Nat) (F : Nat → Nat → Int) (w : World) (hn : n ≤ 1048576) (hK : ∀ i, i < n → K i ≤ 1048576) (h : RR w a n K F) :
    Calls Try.prog 17 #[.slice a n cap] w fun e w' => e = .returned (.slice (some ⟨w.heap.size, 0, none⟩) n n) ∧ RK w' w.heap.size w'.heap.size (some ⟨w.heap.size, 0, none⟩) n K F ∧ Below w.heap.size w w' := by
  have hmk := run_make_row' (P := Try.prog) 27 40 (.slice none 0 0) 24 Try.underlying27 infoII rfl .i64 .i64 n (by omega) (by omega)
  have hr0 : (w.alloc (.cells (madeCells #[.slice none 0 0] n) 40)).rowIs w.heap.size 40 n (rwS (fun _ => none) K K 0) := (World.rowIs_made w (.slice none 0 0) n 40).congr fun i _ => by simp [rwS]
  have hb0 : Below w.heap.size w (w.alloc (.cells (madeCells #[.slice none 0 0] n) 40)) := (Below.refl _ _).alloc (Nat.le_refl _) _
  have HR : Hid ((w.alloc (.cells (madeCells #[.slice none 0 0] n) 40)).rowIs w.heap.size 40 n (rwS (fun _ => none) K K 0)) := hr0
  clear hr0
  obtain ⟨A, C, hA⟩ := h
  go_enter Try.func17, Try.ntmps17
  go_wp2
  clear hmk
  go_loopw [4] (fun i wr => ∃ (k : Nat) (A' : Nat → Option Addr), k ≤ n ∧ i = .int .i64 k ∧ wr.rowIs w.heap.size 40 n (rwS A' K K k) ∧ Hid (∀ j, j < k → 0 < K j → ∃ B, A' j = some ⟨B, 0, none⟩ ∧ w.heap.size < B ∧ B < wr.heap.size ∧ IP wr B (K j) (F j)) ∧ Hid (∀ i j, i < k → j < k → 0 < K i → 0 < K j → i ≠ j → A' i ≠ A' j) ∧ Below w.heap.size w wr) (fun i _ => n - (intOf i).toNat)
  case atStart => exact ⟨0, _, Nat.zero_le _, rfl, HR.out, fun j hj => absurd hj (Nat.not_lt_zero _), fun i j hi => absurd hi (Nat.not_lt_zero _), hb0⟩
  case round =>
    obtain ⟨k, A', hk, rfl, hrow, HI, HJ, hbel⟩ := hrel
    clear HR hb0
    by_cases hlt : k < n
    · have hA1 := hA.below hbel
      obtain ⟨b, off, rfl, hbw, hcell⟩ := hA1.out (by omega)
      have hck := hcell k hlt
      have hkk := hK k hlt
      have hik := hA1.row k hlt
      have i0 : (0 : Int) ≤ (k : Int) := by omega
      have i1 : (k : Int) < (n : Int) := by omega
      clear hcell hA1
      go_wp2_with fail
      refine (copyQ (A k) (K k) (C k) (F k) _ hkk hik).mono ?_
      rintro e w1 ⟨rfl, hL1, hs1, hb1⟩
      have hl0 := hrow.lt
      have hrow1 := rowIs_below hrow hb1 hl0
      have ho : w1.cell? ⟨w.heap.size, k, none⟩ = some (.slice none 0 0) := by rw [hrow1.cell hlt]; simp [rwS]
      have hfz := hrow1.frozen k
      have hrow2 := rwS_step A' K K k (some ⟨wr.heap.size, 0, none⟩) (K k) (K k) hrow1
      have hO : Only w.heap.size w1 (w1.setCell ⟨w.heap.size, k, none⟩ (.slice (some ⟨wr.heap.size, 0, none⟩) (K k) (K k))) := (Only.refl _ _).set k _
      have hbel2 := (stepA hbel hb1).setCell (p := ⟨w.heap.size, k, none⟩) (Nat.le_refl _) (.slice (some ⟨wr.heap.size, 0, none⟩) (K k) (K k))
      have eK : (fun i => if i = k then K k else K i) = K := by funext i; by_cases e : i = k <;> simp [e]
      rw [eK] at hrow2
      have HI2 : Hid (∀ j, j < k + 1 → 0 < K j → ∃ B, (if j = k then some ⟨wr.heap.size, 0, none⟩ else A' j) = some ⟨B, 0, none⟩ ∧ w.heap.size < B ∧ B < (w1.setCell ⟨w.heap.size, k, none⟩ (.slice (some ⟨wr.heap.size, 0, none⟩) (K k) (K k))).heap.size ∧ IP (w1.setCell ⟨w.heap.size, k, none⟩ (.slice (some ⟨wr.heap.size, 0, none⟩) (K k) (K k))) B (K j) (F j)) := fun j hj h0 => by
        by_cases e : j = k
        · subst e
          obtain ⟨b', e', h5, h6, h7⟩ := hL1 h0
          have : b' = wr.heap.size := by cases e'; rfl
          subst this
          rw [if_pos rfl]
          exact ⟨wr.heap.size, rfl, hl0, by simpa using hs1, h7.only hO (by omega)⟩
        · rw [if_neg e]
          obtain ⟨B, e1, e2, e3, e4⟩ := HI.out j (by omega) h0
          exact ⟨B, e1, e2, by have := hb1.size; simp; omega, (e4.below hb1 e3).only hO (by omega)⟩
      have HJ2 : Hid (∀ i j, i < k + 1 → j < k + 1 → 0 < K i → 0 < K j → i ≠ j → (if i = k then some (⟨wr.heap.size, 0, none⟩ : Addr) else A' i) ≠ (if j = k then some ⟨wr.heap.size, 0, none⟩ else A' j)) := fun i j hi hj h0 h0' hne => by
        by_cases e : i = k
        · rw [if_pos e, if_neg (by omega)]
          obtain ⟨B, e1, e2, e3, e4⟩ := HI.out j (by omega) h0'
          rw [e1]
          intro h9
          have : wr.heap.size = B := by cases h9; rfl
          omega
        · rw [if_neg e]
          by_cases e' : j = k
          · rw [if_pos e']
            obtain ⟨B, e1, e2, e3, e4⟩ := HI.out i (by omega) h0
            rw [e1]
            intro h9
            have : B = wr.heap.size := by cases h9; rfl
            omega
          · rw [if_neg e']
            exact HJ.out i j (by omega) (by omega) h0 h0' hne
      have HW : Hid ((w1.setCell ⟨w.heap.size, k, none⟩ (.slice (some ⟨wr.heap.size, 0, none⟩) (K k) (K k))).rowIs w.heap.size 40 n (rwS (fun i => if i = k then some ⟨wr.heap.size, 0, none⟩ else A' i) K K (k + 1))) := hrow2
      clear hrow HI HJ hbel hrow1 hb1 hL1 hO hik hkk hrow2 eK
      go_wp2
      exact ⟨⟨k + 1, _, by omega, by go_num, HW.out, HI2, HJ2, hbel2⟩, by simp [intOf]; omega⟩
    · have hke : k = n := by omega
      subst hke
      go_wp2
      go_ret
      refine ⟨rfl, fun _ => ⟨w.heap.size, A', K, rfl, Nat.le_refl _, hrow.lt, hrow.lt, fun i hi => ?_, fun i hi h0 => ?_, fun i j hi hj => HJ.out i j hi hj⟩, hbel⟩
      · rw [hrow.cell hi]; simp [rwS, hi]
      · obtain ⟨B, e1, e2, e3, e4⟩ := HI.out i hi h0
        exact ⟨B, e1, by omega, e3, by omega, e4⟩
set_option maxHeartbeats 1000000 in
theorem szK_in (a : Option Addr) (n c : Nat) (K : Nat → Nat) (F : Nat → Nat → Int) (l : Int) (w : World) (h0 : (n : Int) + ((sumK K n : Nat) : Int) ≤ l) (h1 : l ≤ 1048576) (h : RR w a n K F) :
    Calls Try.prog 15 #[.slice a n c, .int .i64 l] w fun e w' => e = .returned (.int .i64 (l - (n : Int) - ((sumK K n : Nat) : Int))) ∧ w' = w := by
  obtain ⟨A, C, hA⟩ := h
  have j0 : ¬ l - (n : Int) < 0 := by omega
  have HS : Hid (∀ k, sumK K (k + 1) = sumK K k + K k) := fun k => rfl
  have HM : Hid (∀ k, k ≤ n → sumK K k ≤ sumK K n) := fun k hk => sumK_mono K n k hk
  have HL : Hid (∀ k, k < n → sumK K k + K k ≤ sumK K n) := fun k hk => sumK_le K n k hk
  have hz : sumK K 0 = 0 := rfl
  have HZ : Hid (sumK K 0 = 0) := hz
  clear hz
  generalize sumK K = G at *
  go_enter Try.func15, Try.ntmps15
  go_wp2_with fail
  go_loopw [1, 5] (fun v i wr => ∃ (k T : Nat), k ≤ n ∧ i = .int .i64 k ∧ v = .int .i64 (l - (n : Int) - (T : Int)) ∧ T ≤ 1048576 ∧ Hid (T = G k) ∧ wr = w) (fun _ i _ => n - (intOf i).toNat)
  case atStart => exact ⟨0, 0, Nat.zero_le _, rfl, by simp, by omega, (by show 0 = G 0; rw [HZ.out]), rfl⟩
  case round =>
    obtain ⟨k, T, hk, rfl, rfl, hT, HT, hw⟩ := hrel
    have hs' := hw.symm
    clear hw
    subst hs'
    by_cases hlt : k < n
    · obtain ⟨b, off, rfl, hbw, hcell⟩ := hA.out (by omega)
      have hck := hcell k hlt
      have i0 : (0 : Int) ≤ (k : Int) := by omega
      have i1 : (k : Int) < (n : Int) := by omega
      have h2 : T + K k ≤ G n := by rw [HT.out]; exact HL.out k hlt
      have HT2 : Hid (T + K k = G (k + 1)) := by show T + K k = G (k + 1); rw [HS.out k, HT.out]
      have kS := szI_in (A k) (K k) (C k) (l - (n : Int) - (T : Int)) w (by omega) (by omega)
      have j2 : ¬ l - (n : Int) - (T : Int) - (K k : Int) < 0 := by omega
      have e5 : l - (n : Int) - (T : Int) - (K k : Int) = l - (n : Int) - ((T + K k : Nat) : Int) := by omega
      have HE5 : Hid (l - (n : Int) - (T : Int) - (K k : Int) = l - (n : Int) - ((T + K k : Nat) : Int)) := e5
      have hb5 : T + K k ≤ 1048576 := by omega
      clear hcell HS HM HL HT e5 h2
      generalize K k = X at *
      go_wp2_with fail
      refine kS.mono ?_
      rintro e w1 ⟨rfl, hw1⟩
      have hs' := hw1.symm
      clear hw1
      subst hs'
      go_wp2
      exact ⟨⟨k + 1, T + X, by omega, by go_num, by rw [HE5.out], hb5, HT2, trivial⟩, by simp [intOf]; omega⟩
    · have hke : k = n := by omega
      subst hke
      clear HS HM HL hA
      go_wp2
      go_ret
      exact ⟨ret_int (by rw [HT.out]), rfl⟩
set_option maxHeartbeats 1000000 in
theorem szK_out (a : Option Addr) (n c : Nat) (K : Nat → Nat) (F : Nat → Nat → Int) (l : Int) (w : World) (h0 : l < (n : Int) + ((sumK K n : Nat) : Int)) (hl : 0 ≤ l) (h1 : l ≤ 1048576) (hn : n ≤ 9223372036854775807) (hK : ∀ i, i < n → K i ≤ 9223372036854775807) (h : RR w a n K F) :
    Calls Try.prog 15 #[.slice a n c, .int .i64 l] w fun e w' => e = .returned (.int .i64 (-1)) ∧ w' = w := by
  obtain ⟨A, C, hA⟩ := h
  by_cases hln : l < (n : Int)
  · have j0 : l - (n : Int) < 0 := by omega
    go_enter Try.func15, Try.ntmps15
    go_wp2
    go_ret
    exact ⟨rfl, rfl⟩
  have j0 : ¬ l - (n : Int) < 0 := by omega
  have HS : Hid (∀ k, sumK K (k + 1) = sumK K k + K k) := fun k => rfl
  have HZ : Hid (sumK K 0 = 0) := rfl
  generalize sumK K = G at *
  go_enter Try.func15, Try.ntmps15
  go_wp2_with fail
  go_loopw [1, 5] (fun v i wr => ∃ (k T : Nat), k ≤ n ∧ i = .int .i64 k ∧ v = .int .i64 (l - (n : Int) - (T : Int)) ∧ (T : Int) ≤ l - (n : Int) ∧ Hid (T = G k) ∧ wr = w) (fun _ i _ => n - (intOf i).toNat)
  case atStart => exact ⟨0, 0, Nat.zero_le _, rfl, by simp, by omega, (by show 0 = G 0; rw [HZ.out]), rfl⟩
  case round =>
    obtain ⟨k, T, hk, rfl, rfl, hT, HT, hw⟩ := hrel
    have hs' := hw.symm
    clear hw
    subst hs'
    by_cases hlt : k < n
    · obtain ⟨b, off, rfl, hbw, hcell⟩ := hA.out (by omega)
      have hck := hcell k hlt
      have i0 : (0 : Int) ≤ (k : Int) := by omega
      have i1 : (k : Int) < (n : Int) := by omega
      have hKk := hK k hlt
      have HT2 : Hid (T + K k = G (k + 1)) := by show T + K k = G (k + 1); rw [HS.out k, HT.out]
      by_cases h2 : (K k : Int) ≤ l - (n : Int) - (T : Int)
      · have kS := szI_in (A k) (K k) (C k) (l - (n : Int) - (T : Int)) w h2 (by omega)
        have j2 : ¬ l - (n : Int) - (T : Int) - (K k : Int) < 0 := by omega
        have HE5 : Hid (l - (n : Int) - (T : Int) - (K k : Int) = l - (n : Int) - ((T + K k : Nat) : Int)) := by show l - (n : Int) - (T : Int) - (K k : Int) = l - (n : Int) - ((T + K k : Nat) : Int); omega
        have hb5 : ((T + K k : Nat) : Int) ≤ l - (n : Int) := by omega
        have HB5 : Hid (((T + K k : Nat) : Int) ≤ l - (n : Int)) := hb5
        clear hcell HS HT hb5 h2 hK
        generalize K k = X at *
        go_wp2_with fail
        refine kS.mono ?_
        rintro e w1 ⟨rfl, hw1⟩
        have hs' := hw1.symm
        clear hw1
        subst hs'
        go_wp2
        exact ⟨⟨k + 1, T + X, by omega, by go_num, by rw [HE5.out], HB5.out, HT2, trivial⟩, by simp [intOf]; omega⟩
      · have kS := szI_out (A k) (K k) (C k) (l - (n : Int) - (T : Int)) w (by omega) (by omega) hKk
        clear hcell HS HT hK HT2
        generalize K k = X at *
        go_wp2_with fail
        refine kS.mono ?_
        rintro e w1 ⟨rfl, hw1⟩
        have hs' := hw1.symm
        clear hw1
        subst hs'
        go_wp2
        go_ret
        exact ⟨rfl, rfl⟩
    · have hke : k = n := by omega
      subst hke
      exfalso
      have := HT.out
      omega
/-- the numbers that a marking writes -/
def mkK (k : Nat) (K : Nat → Nat) (i j : Nat) : Int := ((k + sumK K i : Nat) : Int) + (j : Int)
/-- the rows below p are marked -/
def mrkK (k : Nat) (K : Nat → Nat) (R : Nat → Nat → Int) (p i : Nat) : Nat → Int := if i < p then mkK k K i else R i
set_option maxHeartbeats 2000000 in
theorem markK (a : Option Addr) (n cap k lo hi : Nat) (K : Nat → Nat) (R : Nat → Nat → Int) (w : World) (hn : n ≤ 1048576) (hk : k ≤ 1) (hs : sumK K n ≤ 1048576) (h : RK w lo hi a n K R) :
    Calls Try.prog 13 #[.slice a n cap, .int .i64 (k : Int)] w fun e w' => e = .returned (.int .i64 ((k + sumK K n : Nat) : Int)) ∧ RK w' lo hi a n K (mkK k K) ∧ Turns lo hi w w' := by
  by_cases h0 : 0 < n
  case neg =>
    have hm0 : n = 0 := by omega
    subst hm0
    go_enter Try.func13, Try.ntmps13
    go_wp2
    go_loopw [1, 5] (fun v i wr => v = .int .i64 (k : Int) ∧ i = .int .i64 0 ∧ wr = w) (fun _ _ _ => 0)
    case atStart => exact ⟨rfl, rfl, rfl⟩
    case round =>
      obtain ⟨rfl, rfl, hw⟩ := hrel
      have hw' := hw.symm
      clear hw
      subst hw'
      go_wp2
      go_ret
      exact ⟨ret_int (by simp [sumK]), fun h => by omega, turns_of (Below.refl _ _)⟩
  case pos =>
    obtain ⟨g, A, C, hq⟩ := h h0
    obtain rfl := hq.at_
    have HQ0 : Hid (Rk w lo hi (some ⟨g, 0, none⟩) n K (mrkK k K R 0) g A C) := by
      have : mrkK k K R 0 = R := by funext i; simp [mrkK]
      rw [this]; exact hq
    have HL : Hid (∀ i, i < n → sumK K i + K i ≤ sumK K n) := fun i hi => sumK_le K n i hi
    have HM : Hid (∀ i, i ≤ n → sumK K i ≤ sumK K n) := fun i hi => sumK_mono K n i hi
    clear hq h
    go_enter Try.func13, Try.ntmps13
    go_wp2
    go_loopw [1, 5] (fun v i wr => ∃ (p Q : Nat), v = .int .i64 (Q : Int) ∧ i = .int .i64 (p : Int) ∧ p ≤ n ∧ Hid (Q = k + sumK K p) ∧ Hid (Rk wr lo hi (some ⟨g, 0, none⟩) n K (mrkK k K R p) g A C) ∧ Turns lo hi w wr) (fun _ i _ => n - (intOf i).toNat)
    case atStart => exact ⟨0, k, rfl, rfl, Nat.zero_le _, (by show k = k + 0; omega), HQ0, turns_of (Below.refl _ _)⟩
    case round =>
      obtain ⟨p, Q, rfl, rfl, hp, HQ, HR, hT⟩ := hrel
      have hQ : Q ≤ 1048577 := by have := HQ.out; have := HM.out p hp; omega
      by_cases hlt : p < n
      · have x0 := HR.out.cell p hlt
        have hQ2 : Q + K p ≤ 1048577 := by have := HQ.out; have := HL.out p hlt; omega
        have hKp2 : K p ≤ 1048576 := by have := HL.out p hlt; omega
        have j0 : (0 : Int) ≤ (p : Int) := by omega
        have j1 : (p : Int) < (n : Int) := by omega
        have HQ2 : Hid (Q + K p = k + sumK K (p + 1)) := by have := HQ.out; show Q + K p = k + (sumK K p + K p); omega
        have q1 : (0 : Int) ≤ (Q : Int) + (K p : Int) := by omega
        by_cases hKp : 0 < K p
        · obtain ⟨B, eA, e2, e3, e4, hrow⟩ := HR.out.row p hlt hKp
          have hLQ : LQ wr B (B + 1) (A p) (K p) (mrkK k K R p p) := fun _ => ⟨B, eA, Nat.le_refl _, Nat.lt_succ_self _, hrow⟩
          have kM := markT (A p) (K p) (C p) Q B (B + 1) (mrkK k K R p p) wr (by omega) (by omega) hLQ
          have HR2' : ∀ w5, LQ w5 B (B + 1) (A p) (K p) (fun i => (Q : Int) + (i : Int)) → Turns B (B + 1) wr w5 → Rk w5 lo hi (some ⟨g, 0, none⟩) n K (mrkK k K R (p + 1)) g A C := fun w5 hL5 hT5 => by
            have hR := HR.out
            refine ⟨rfl, hR.glo, hR.ghi, Nat.lt_of_lt_of_le hR.glt hT5.size, fun i hi => (cell_same (hT5.block g hR.glt (by omega)) i).trans (hR.cell i hi), fun i hi h9 => ?_, hR.inj⟩
            by_cases e : i = p
            · subst e
              obtain ⟨b, e1, _, _, hI⟩ := hL5 hKp
              have e5 : b = B := by rw [eA] at e1; cases e1; rfl
              rw [e5] at hI
              refine ⟨B, eA, e2, e3, e4, hI.congr fun j _ => ?_⟩
              unfold mrkK mkK
              rw [if_pos (by omega), ← HQ.out]
            · obtain ⟨B', f1, f2, f3, f4, hr⟩ := hR.row i hi h9
              have hne : B' ≠ B := fun e6 => hR.inj i p hi hlt h9 hKp e (by rw [f1, eA, e6])
              have e7 := hT5.block B' hr.lt (by omega)
              have e8 : mrkK k K R (p + 1) i = mrkK k K R p i := by
                unfold mrkK
                by_cases e9 : i < p
                · rw [if_pos e9, if_pos (by omega)]
                · rw [if_neg e9, if_neg (by omega)]
              rw [e8]
              exact ⟨B', f1, f2, f3, f4, Nat.lt_of_lt_of_le hr.lt hT5.size, fun j hj => (cell_same e7 j).trans (hr.c j hj), fun j => (frozen_same e7 j).trans (hr.fz j)⟩
          have HR3 : Hid (∀ w5, LQ w5 B (B + 1) (A p) (K p) (fun i => (Q : Int) + (i : Int)) → Turns B (B + 1) wr w5 → Rk w5 lo hi (some ⟨g, 0, none⟩) n K (mrkK k K R (p + 1)) g A C) := HR2'
          clear hLQ hrow HQ0 HR2' HQ HR HL HM eA
          generalize K p = X at *
          generalize C p = Y at *
          generalize A p = Z at *
          go_wp2_with fail
          refine kM.mono ?_
          rintro e w5 ⟨rfl, hL5, hT5⟩
          have hT6 := hT.trans (hT5.wide e2 (by omega))
          have HR4 : Hid (Rk w5 lo hi (some ⟨g, 0, none⟩) n K (mrkK k K R (p + 1)) g A C) := HR3.out w5 hL5 hT5
          clear hL5 hT5 HR3 kM x0
          go_wp2
          exact ⟨⟨p + 1, Q + X, by go_num, by go_num, by omega, HQ2, HR4, hT6⟩, by simp [intOf]; omega⟩
        · have hz : K p = 0 := by omega
          have kM := (markI_zero (A p) (C p) Q wr)
          have HR4 : Hid (Rk wr lo hi (some ⟨g, 0, none⟩) n K (mrkK k K R (p + 1)) g A C) := by
            have hR := HR.out
            refine ⟨rfl, hR.glo, hR.ghi, hR.glt, hR.cell, fun i hi h9 => ?_, hR.inj⟩
            obtain ⟨B', f1, f2, f3, f4, hr⟩ := hR.row i hi h9
            have hne : i ≠ p := fun e6 => by subst e6; omega
            have e8 : mrkK k K R (p + 1) i = mrkK k K R p i := by
              unfold mrkK
              by_cases e9 : i < p
              · rw [if_pos e9, if_pos (by omega)]
              · rw [if_neg e9, if_neg (by omega)]
            rw [e8]
            exact ⟨B', f1, f2, f3, f4, hr⟩
          have HQ3 : Hid (Q = k + sumK K (p + 1)) := by have h9 := HQ2.out; show Q = k + sumK K (p + 1); omega
          rw [hz] at x0
          clear HQ0 HQ HR HL HM HQ2 hQ2 q1 hz hKp hKp2
          go_wp2_with fail
          refine kM.mono ?_
          rintro e w5 ⟨rfl, hw5⟩
          have hs5 := hw5.symm
          clear hw5
          subst hs5
          go_wp2
          exact ⟨⟨p + 1, Q, by go_num, by go_num, by omega, HQ3, HR4, hT⟩, by simp [intOf]; omega⟩
      · have hpm : p = n := by omega
        subst hpm
        have HR2 : Hid (Rk wr lo hi (some ⟨g, 0, none⟩) p K (mkK k K) g A C) := by
          have hR := HR.out
          exact ⟨rfl, hR.glo, hR.ghi, hR.glt, hR.cell, fun i hi h9 => by have := hR.row i hi h9; unfold mrkK at this; rwa [if_pos hi] at this, hR.inj⟩
        clear HR HQ0 HL HM
        go_wp2
        go_ret
        exact ⟨ret_int (by rw [HQ.out]), fun _ => ⟨g, A, C, HR2.out⟩, hT⟩
set_option maxHeartbeats 2000000 in
theorem heldK (a : Option Addr) (n cap k lo hi : Nat) (K : Nat → Nat) (w : World) (hn : n ≤ 1048576) (hk : k ≤ 1) (hs : sumK K n ≤ 1048576) (h : RK w lo hi a n K (mkK k K)) :
    Calls Try.prog 14 #[.slice a n cap, .int .i64 (k : Int)] w fun e w' => e = .returned (.int .i64 ((k + sumK K n : Nat) : Int)) ∧ w' = w := by
  by_cases h0 : 0 < n
  case neg =>
    have hm0 : n = 0 := by omega
    subst hm0
    go_enter Try.func14, Try.ntmps14
    go_wp2
    go_loopw [1, 5] (fun v i wr => v = .int .i64 (k : Int) ∧ i = .int .i64 0 ∧ wr = w) (fun _ _ _ => 0)
    case atStart => exact ⟨rfl, rfl, rfl⟩
    case round =>
      obtain ⟨rfl, rfl, hw⟩ := hrel
      have hw' := hw.symm
      clear hw
      subst hw'
      go_wp2
      go_ret
      exact ⟨ret_int (by simp [sumK]), rfl⟩
  case pos =>
    obtain ⟨g, A, C, hq⟩ := h h0
    obtain rfl := hq.at_
    have HR : Hid (Rk w lo hi (some ⟨g, 0, none⟩) n K (mkK k K) g A C) := hq
    have HL : Hid (∀ i, i < n → sumK K i + K i ≤ sumK K n) := fun i hi => sumK_le K n i hi
    have HM : Hid (∀ i, i ≤ n → sumK K i ≤ sumK K n) := fun i hi => sumK_mono K n i hi
    clear hq h
    go_enter Try.func14, Try.ntmps14
    go_wp2
    go_loopw [1, 5] (fun v i wr => ∃ (p Q : Nat), v = .int .i64 (Q : Int) ∧ i = .int .i64 (p : Int) ∧ p ≤ n ∧ Hid (Q = k + sumK K p) ∧ wr = w) (fun _ i _ => n - (intOf i).toNat)
    case atStart => exact ⟨0, k, rfl, rfl, Nat.zero_le _, (by show k = k + 0; omega), rfl⟩
    case round =>
      obtain ⟨p, Q, rfl, rfl, hp, HQ, hw⟩ := hrel
      have hw' := hw.symm
      clear hw
      subst hw'
      have hQ : Q ≤ 1048577 := by have := HQ.out; have := HM.out p hp; omega
      by_cases hlt : p < n
      · have x0 := HR.out.cell p hlt
        have hQ2 : Q + K p ≤ 1048577 := by have := HQ.out; have := HL.out p hlt; omega
        have hKp2 : K p ≤ 1048576 := by have := HL.out p hlt; omega
        have hLQ : LQ w lo hi (A p) (K p) (fun j => (Q : Int) + (j : Int)) := fun h9 => by
          obtain ⟨B, e1, e2, e3, e4, hr⟩ := HR.out.row p hlt h9
          exact ⟨B, e1, e2, e3, hr.congr fun j _ => by unfold mkK; rw [← HQ.out]⟩
        have j0 : (0 : Int) ≤ (p : Int) := by omega
        have j1 : (p : Int) < (n : Int) := by omega
        have kM := heldQ (A p) (K p) (C p) Q lo hi w (by omega) (by omega) hLQ
        have q1 : (0 : Int) ≤ (Q : Int) + (K p : Int) := by omega
        have q2 : ¬ (Q : Int) + (K p : Int) < 0 := by omega
        have HQ2 : Hid (Q + K p = k + sumK K (p + 1)) := by have := HQ.out; show Q + K p = k + (sumK K p + K p); omega
        clear hLQ HQ HL HM
        generalize K p = X at *
        generalize C p = Y at *
        generalize A p = Z at *
        go_wp2_with (first | (go_at_call 22; refine kM.mono ?_; rintro e9 w9 ⟨rfl, hw9⟩; have hs' := hw9.symm; clear hw9; subst hs') | (fail))
        exact ⟨⟨p + 1, Q + X, by go_num, by go_num, by omega, HQ2, trivial⟩, by simp [intOf]; omega⟩
      · have hpm : p = n := by omega
        subst hpm
        clear HR HL HM
        go_wp2
        go_ret
        exact ⟨ret_int (by rw [HQ.out]), rfl⟩
end Go.Proofs.YtjefakfongehdabRR
