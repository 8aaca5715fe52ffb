/- The contracts of the copy of complex numbers to points, and of both FirstGuess functions. -/
import Derived.Test.YtgcnkecfdmafdaaPtGuess
namespace Go.Proofs.Ytgcnkecfdmafdaa
open Go.RowKit

/-- make of n points -/
theorem run_make_pts (n : Nat) (hn : n ≤ 1048576) (w : World) :
    (Instr.makeSlice 36 (.int .i64 (n : Int)) (.int .i64 (n : Int))).run Try.prog w = .ok (.slice (some ⟨w.heap.size, 0, none⟩) n n) (w.alloc (.cells (madeCells #[.float .f64 0, .float .f64 0] (n * 2)) 25)) := by
  obtain ⟨i, hi, hzz⟩ := Option.map_eq_some_iff.1 infoP
  simp only [Prod.mk.injEq] at hzz
  obtain ⟨hz, hs, hb⟩ := hzz
  have hr := run_make (P := Try.prog) w 36 25 i _ Try.underlying36 hi hz .i64 .i64 (n : Int) (n : Int) (by omega) (Int.le_refl _) (by rw [hb]; omega) (by omega)
  simp only [Int.toNat_natCast, hs] at hr
  exact hr
theorem made_pts (w : World) (n : Nat) : PS (w.alloc (.cells (madeCells #[.float .f64 0, .float .f64 0] (n * 2)) 25)) w.heap.size n (fun _ => 0) (fun _ => 0) := by
  have hs : (madeCells #[Value.float .f64 0, .float .f64 0] (n * 2)).size = n * 2 := size_madeCells _ _
  have hr := World.rowIs_alloc w (madeCells #[Value.float .f64 0, .float .f64 0] (n * 2)) 25 (fun _ => .float .f64 0) (by
    intro j hj
    rw [hs] at hj
    have e : ∀ q, q < 2 → (#[Value.float .f64 0, .float .f64 0] : Array Value)[q]! = .float .f64 0 := by
      intro q hq
      match q, hq with
      | 0, _ => rfl
      | 1, _ => rfl
    simp only [madeCells, Array.getElem?_map, Array.getElem?_range, hj, if_true, Option.map_some]
    exact congrArg some (e _ (Nat.mod_lt _ (by decide))))
  rw [hs] at hr
  exact ⟨hr.lt, fun i hi => hr.cell (by omega), fun i hi => hr.cell (by omega), fun j => hr.frozen j⟩

theorem cell_set2 {w : World} {b g k o1 o2 : Nat} {v u1 u2 : Value} (h : w.cell? ⟨b, k, none⟩ = some v) (hn : b ≠ g) : ((w.setCell ⟨g, o1, none⟩ u1).setCell ⟨g, o2, none⟩ u2).cell? ⟨b, k, none⟩ = some v :=
  ((World.cell?_setCell_other _ _ _ _ (fun e => hn (congrArg Addr.block e).symm)).trans (World.cell?_setCell_other _ _ _ _ (fun e => hn (congrArg Addr.block e).symm))).trans h

set_option maxHeartbeats 2000000 in
theorem tellPoints_any (b n cap : Nat) (X Y : Nat → Nat) (w : World) (hn : n ≤ 1048576) (h : w.rowIs b 54 n (cRow X Y)) :
    Calls Try.prog 46 #[.slice (some ⟨b, 0, none⟩) n cap] w fun e w' => e = .returned (.slice (some ⟨w.heap.size, 0, none⟩) n n) ∧ PS w' w.heap.size n (fun i => plain (X i)) (fun i => plain (Y i)) ∧ Below w.heap.size w w' := by
  have hmk := run_make_pts n hn
  have hP0 := made_pts w n
  have hb0 : Below w.heap.size w (w.alloc (.cells (madeCells #[.float .f64 0, .float .f64 0] (n * 2)) 25)) := (Below.refl _ _).alloc (Nat.le_refl _) _
  have hbl := h.lt
  go_enter Try.func46, Try.ntmps46
  go_wp2
  clear hmk
  go_loopw [10] (fun i wr => ∃ (k : Nat) (X' Y' : Nat → Nat), k ≤ n ∧ i = .int .i64 k ∧ PS wr w.heap.size n X' Y' ∧ (∀ j, j < k → X' j = plain (X j) ∧ Y' j = plain (Y j)) ∧ Below w.heap.size w wr) (fun i _ => n - (intOf i).toNat)
  case atStart => exact ⟨0, _, _, Nat.zero_le _, rfl, hP0, fun j hj => absurd hj (Nat.not_lt_zero _), hb0⟩
  case round =>
    obtain ⟨k, X', Y', hk, rfl, hP, hd, hB⟩ := hrel
    clear hP0 hb0
    by_cases hlt : k < n
    · have cc : wr.cell? ⟨b, k, none⟩ = some (.complex .f64 (X k) (Y k)) := (rowIs_below h hB hbl).cell hlt
      have x0 := hP.c0 k hlt
      have x1 := hP.c1 k hlt
      have f0 := hP.fz (k * 2)
      have f1 := hP.fz (k * 2 + 1)
      have i0 : (0 : Int) ≤ (k : Int) := by omega
      have i1 : (k : Int) < (n : Int) := by omega
      have hne : b ≠ w.heap.size := Nat.ne_of_lt hbl
      go_wp2_with fail
      go_region_held3 (fun w' => w'.cell? ⟨b, k, none⟩ = some (.complex .f64 (X k) (Y k)))
        (first | (exact cc) | (exact cell_set2 cc hne) | (fail))
        (first | (go_at_call_of 61 (X k); refine (unsigned_any (X k) _).mono ?_; rintro e w' ⟨rfl, hw'⟩; have hs' := hw'.symm; clear hw'; subst hs') | (go_at_call 61; refine (unsigned_any (Y k) _).mono ?_; rintro e w' ⟨rfl, hw'⟩; have hs' := hw'.symm; clear hw'; subst hs'))
      all_goals
        go_wp2
        refine ⟨⟨k + 1, _, _, by omega, by go_num, ((hP.below (Below.refl wr.heap.size wr).drew hP.lt).set0 hlt _).set1 hlt _, fun j hj => ?_, (hB.drew.setCell (p := ⟨_, _, none⟩) (Nat.le_refl _) _).setCell (p := ⟨_, _, none⟩) (Nat.le_refl _) _⟩, by simp [intOf]; omega⟩
        unfold put
        by_cases e : j = k
        · subst e; simp
        · rw [if_neg e, if_neg e]; exact hd j (by omega)
    · have hke : k = n := by omega
      subst hke
      go_wp2
      go_ret
      exact ⟨rfl, hP.congr hd, hB⟩

/-- the cells of the first k guesses -/
def gL : Nat → List Value
  | 0 => []
  | k + 1 => gL k ++ [.float .f64 (gX k), .float .f64 (gY k)]
theorem gL_len (k : Nat) : (gL k).length = k * 2 := by
  induction k with
  | zero => rfl
  | succ k ih => simp only [gL, List.length_append, ih, List.length_cons, List.length_nil]; omega
theorem gL_get {k i : Nat} (hi : i < k) : (gL k)[i * 2]? = some (.float .f64 (gX i)) ∧ (gL k)[i * 2 + 1]? = some (.float .f64 (gY i)) := by
  induction k with
  | zero => omega
  | succ k ih =>
    simp only [gL]
    by_cases e : i = k
    · subst e
      rw [List.getElem?_append_right (by rw [gL_len]; omega), List.getElem?_append_right (by rw [gL_len]; omega), gL_len]
      refine ⟨by simp, ?_⟩
      have : i * 2 + 1 - i * 2 = 1 := by omega
      rw [this]; rfl
    · rw [List.getElem?_append_left (by rw [gL_len]; omega), List.getElem?_append_left (by rw [gL_len]; omega)]
      exact ih (by omega)
theorem own_below {w w' : World} {base : Nat} {e : TypeId} {size : Nat} {v : Value} {n : Nat} {xs : List Value} (h : w.ownsRow base e size v n xs) (k : Below w.heap.size w w') : w'.ownsRow base e size v n xs := by
  obtain ⟨hl, h⟩ := h
  refine ⟨hl, ?_⟩
  rcases h with h | ⟨g, cap, cur, h1, h2, h3, h4⟩
  · exact .inl h
  · have hg : g < w.heap.size := by
      obtain ⟨hlt, _⟩ := Array.getElem?_eq_some_iff.1 h3
      exact hlt
    exact .inr ⟨g, cap, cur, h1, h2, (k.block g hg).trans h3, h4⟩
theorem own_ps {w : World} {base g cap k : Nat} (h : w.ownsRow base 25 2 (.slice (some ⟨g, 0, none⟩) k cap) k (gL k)) (hlt : g < w.heap.size) : PS w g k gX gY :=
  ⟨hlt, fun i hi => (h.cellAt _ (by omega)).trans (gL_get hi).1, fun i hi => (h.cellAt _ (by omega)).trans (gL_get hi).2, fun j => h.frozenAt j⟩

set_option maxHeartbeats 2000000 in
theorem specFirst_in (n : Nat) (w : World) (h1 : 1 ≤ n) (h2 : n ≤ 10) :
    Calls Try.prog 19 #[.int .i64 (n : Int)] w fun e w' => ∃ g cap, e = .returned (.slice (some ⟨g, 0, none⟩) n cap) ∧ w.heap.size ≤ g ∧ PS w' g n gX gY ∧ Below w.heap.size w w' := by
  obtain ⟨i0, hi, hzz⟩ := Option.map_eq_some_iff.1 infoP
  simp only [Prod.mk.injEq] at hzz
  obtain ⟨hz0, hz1, hz2⟩ := hzz
  have hm0 := World.ownsRow_lit (base := w.heap.size) (e := 25) (size := 2) w #[.float .f64 4607182418800017408, .float .f64 0] 1 (Nat.le_refl _) (by unfold maxLen; omega) rfl
  have hB0 : Below w.heap.size w (w.alloc (.cells #[.float .f64 4607182418800017408, .float .f64 0] 25)) := (Below.refl _ _).alloc (Nat.le_refl _) _
  have j1 : ¬ (n : Int) < 1 := by omega
  have j2 : ¬ (10 : Int) < (n : Int) := by omega
  go_enter Try.func19, Try.ntmps19
  go_wp2
  go_loopw [3] (fun v wr => ∃ (k g cap : Nat), 1 ≤ k ∧ k ≤ n ∧ v = .slice (some ⟨g, 0, none⟩) k cap ∧ w.heap.size ≤ g ∧ g < wr.heap.size ∧ wr.ownsRow w.heap.size 25 2 (.slice (some ⟨g, 0, none⟩) k cap) k (gL k) ∧ Below w.heap.size w wr) (fun v _ => match v with | .slice _ k _ => n - k | _ => 0)
  case atStart => exact ⟨1, w.heap.size, 1, Nat.le_refl _, h1, rfl, Nat.le_refl _, by simp, by simpa [gL, gX, gY, gC] using hm0, hB0⟩
  case round =>
    obtain ⟨k, g, cap, hk1, hkn, rfl, hg, hgl, hown, hB⟩ := hrel
    clear hm0 hB0
    by_cases hlt : k < n
    · have hP := own_ps hown hgl
      have c0 := hP.c0 (k - 1) (by omega)
      have c1 := hP.c1 (k - 1) (by omega)
      have j3 : (k : Int) < (n : Int) := by omega
      have j4 : (0 : Int) ≤ (k : Int) - 1 := by omega
      have j5 : (k : Int) - 1 < (k : Int) := by omega
      go_wp2_with fail
      refine (l3Mul_any _ _ _ _ _).mono ?_
      rintro e w1 ⟨r, i, rfl, hrep, hb1⟩
      obtain ⟨rfl, rfl⟩ := g_step (by omega) hrep
      have ek : k - 1 + 1 = k := by omega
      rw [ek]
      have hown1 := own_below hown hb1
      have hB1 := hB.trans (hb1.mono hB.size)
      clear hrep hb1 hown hB hP c0 c1 ek
      have hbase : w.heap.size ≤ w1.heap.size := hB1.size
      go_wp2_with (at_builtin; refine wpList_append_lies _ rfl _ _ 36 rfl w.heap.size 25 i0 (.agg #[.float .f64 0, .float .f64 0]) 2 16 Try.underlying36 hi hz0 hz1 hz2 rfl (by decide) _ _ _ rfl (hown1.alloc _) ⟨w1.heap.size, 0, none⟩ 1 1 [.float .f64 (gX k), .float .f64 (gY k)] rfl rfl (World.news_of_block (cs := #[.float .f64 (gX k), .float .f64 (gY k)]) (t := 25) (fr := (0, 0)) (heap_alloc_new w1 _)) (by simp [Value.oneCell']) (by omega) (by unfold maxLen; omega) (by omega) (by simp; omega) (w1.heap.size + 1) (by simp) ?_; intro g' cap' w2 hown2 hgrow hat hlt2)
      have hat' : some g = some g' ∨ g' = w1.heap.size + 1 := hat
      have hg' : w.heap.size ≤ g' := by
        rcases hat' with e | e
        · cases e; exact hg
        · omega
      have hgrow' : (w1.alloc (.cells #[.float .f64 (gX k), .float .f64 (gY k)] 25)).grownBy w2 (some g) := hgrow
      have hB2 := (hB1.alloc hB1.size (.cells #[.float .f64 (gX k), .float .f64 (gY k)] 25)).grown hgrow' (by simp; omega) (fun q hq => by cases hq; exact hg)
      exact ⟨⟨k + 1, g', cap', by omega, by omega, rfl, hg', hlt2, hown2, hB2⟩, by simp only []; omega⟩
    · have hke : k = n := by omega
      subst hke
      have j3 : ¬ (k : Int) < (k : Int) := by omega
      go_wp2
      go_ret
      exact ⟨g, ⟨cap, rfl⟩, hg, own_ps hown hgl, hB⟩

set_option maxHeartbeats 400000 in
theorem specFirst_out (n : Int) (w : World) (h : n < 1 ∨ 10 < n) :
    Calls Try.prog 19 #[.int .i64 n] w fun e w' => e = .returned (.slice none 0 0) ∧ w' = w := by
  by_cases h1 : n < 1
  · go_enter Try.func19, Try.ntmps19
    go_wp2
    go_ret
    exact ⟨rfl, rfl⟩
  · have h2 : 10 < n := by omega
    go_enter Try.func19, Try.ntmps19
    go_wp2
    go_ret
    exact ⟨rfl, rfl⟩
set_option maxHeartbeats 400000 in
theorem implFirst_out (n : Int) (w : World) (h : n < 1 ∨ 10 < n) :
    Calls Try.prog 20 #[.int .i64 n] w fun e w' => e = .returned (.slice none 0 0) ∧ w' = w := by
  by_cases h1 : n < 1
  · go_enter Try.func20, Try.ntmps20
    go_wp2
    go_ret
    exact ⟨rfl, rfl⟩
  · have h2 : 10 < n := by omega
    go_enter Try.func20, Try.ntmps20
    go_wp2
    go_ret
    exact ⟨rfl, rfl⟩
set_option maxHeartbeats 400000 in
theorem implFirst_in (n : Nat) (w : World) (h1 : 1 ≤ n) (h2 : n ≤ 10) :
    Calls Try.prog 20 #[.int .i64 (n : Int)] w fun e w' => ∃ b, e = .returned (.slice (some ⟨b, 0, none⟩) n n) ∧ w.heap.size ≤ b ∧ PS w' b n gX gY ∧ Below w.heap.size w w' := by
  have j1 : ¬ (n : Int) < 1 := by omega
  have j2 : ¬ (10 : Int) < (n : Int) := by omega
  go_enter Try.func20, Try.ntmps20
  go_wp2_with fail
  refine (firstComplex_any n _ h1 h2).mono ?_
  rintro e w1 ⟨rfl, hrow, hb1⟩
  go_wp2_with fail
  refine (tellPoints_any _ n _ gX gY _ (by omega) hrow).mono ?_
  rintro e w2 ⟨rfl, hP, hb2⟩
  go_wp2
  go_ret
  exact ⟨_, rfl, hb1.size, hP.congr fun i hi => ⟨(g_all i (by omega)).2.2.1, (g_all i (by omega)).2.2.2.1⟩, hb1.trans (hb2.mono hb1.size)⟩

set_option maxHeartbeats 400000 in
theorem mark_zero (a : Option Addr) (cap m : Nat) (w : World) :
    Calls Try.prog 22 #[.slice a 0 cap, .int .i64 (m : Int)] w fun e w' => e = .returned (.int .i64 (m : Int)) ∧ w' = w := by
  go_enter Try.func22, Try.ntmps22
  go_wp2
  go_loopw [1, 5] (fun q i wr => i = .int .i64 0 ∧ q = .int .i64 (m : Int) ∧ wr = w) (fun _ _ _ => 0)
  case atStart => exact ⟨rfl, rfl, rfl⟩
  case round =>
    obtain ⟨rfl, rfl, rfl⟩ := hrel
    go_wp2
    go_ret
    exact ⟨rfl, rfl⟩
set_option maxHeartbeats 400000 in
theorem held_zero (a : Option Addr) (cap m : Nat) (w : World) :
    Calls Try.prog 23 #[.slice a 0 cap, .int .i64 (m : Int)] w fun e w' => e = .returned (.int .i64 (m : Int)) ∧ w' = w := by
  go_enter Try.func23, Try.ntmps23
  go_wp2
  go_loopw [1, 5] (fun q i wr => i = .int .i64 0 ∧ q = .int .i64 (m : Int) ∧ wr = w) (fun _ _ _ => 0)
  case atStart => exact ⟨rfl, rfl, rfl⟩
  case round =>
    obtain ⟨rfl, rfl, rfl⟩ := hrel
    go_wp2
    go_ret
    exact ⟨rfl, rfl⟩
end Go.Proofs.Ytgcnkecfdmafdaa
