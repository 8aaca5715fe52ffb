/- The merge in numbers: whichever list stands first; it has all of both. -/
import Derived.Test.YteknkgfgefhloaaMgV
import Derived.Test.YteknkgfgefhloaaMgE
import Derived.Deep.Cut
namespace Go.Proofs.Yteknkgfgefhloaa
open Go.RowKit
theorem k_eq {x y : Sw} (h1 : ¬ kLt x y) (h2 : ¬ kLt y x) : kEq x y := by
  rcases kLt_tri x y with h | h | h
  · exact absurd h h1
  · exact h
  · exact absurd h h2
theorem mg_comm : ∀ (a b : List Sw), mg a b = mg b a := by
  intro a b
  induction a, b using mg.induct with
  | case1 b =>
    cases b with
    | nil => rfl
    | cons y b => rw [mg, mg]
  | case2 x a => rw [mg, mg]
  | case3 x a y b h1 ih =>
    have h2 : ¬ kLt y x := fun h => kLt_irr x (kLt_trans h1 h)
    rw [mg, if_pos h1, mg, if_neg h2, if_pos h1, ih]
  | case4 x a y b h1 h2 ih => rw [mg, if_neg h1, if_pos h2, mg, if_pos h2, ih]
  | case5 x a y b h1 h2 h3 ih =>
    have e : x = y := sw_ext (k_eq h1 h2) h3
    subst e
    rw [mg, if_neg h1, if_neg h2, if_pos h3, mg, if_neg h2, if_neg h1, if_pos h3.symm, ih]
  | case6 x a y b h1 h2 h3 => rw [mg, if_neg h1, if_neg h2, if_neg h3, mg, if_neg h2, if_neg h1, if_neg (fun h => h3 h.symm)]
theorem okM_comm (f : Nat → Int) (n : Nat) (g : Nat → Int) (k : Nat) : okM f n g k = okM g k f n := by
  unfold okM
  rw [Bool.and_comm, mg_comm]
theorem mg_has : ∀ (a b m : List Sw), mg a b = some m → (∀ x ∈ a, x ∈ m) ∧ (∀ y ∈ b, y ∈ m) := by
  intro a b
  induction a, b using mg.induct with
  | case1 b => intro m h; rw [mg] at h; cases h; exact ⟨fun x hx => by simp at hx, fun y hy => hy⟩
  | case2 x a => intro m h; rw [mg] at h; cases h; exact ⟨fun x hx => hx, fun y hy => by simp at hy⟩
  | case3 x a y b h1 ih =>
    intro m h
    rw [mg, if_pos h1, Option.map_eq_some_iff] at h
    obtain ⟨m', hm, rfl⟩ := h
    obtain ⟨i1, i2⟩ := ih m' hm
    refine ⟨fun z hz => ?_, fun z hz => List.mem_cons_of_mem _ (i2 z hz)⟩
    rcases List.mem_cons.1 hz with rfl | hz
    · exact List.mem_cons_self
    · exact List.mem_cons_of_mem _ (i1 z hz)
  | case4 x a y b h1 h2 ih =>
    intro m h
    rw [mg, if_neg h1, if_pos h2, Option.map_eq_some_iff] at h
    obtain ⟨m', hm, rfl⟩ := h
    obtain ⟨i1, i2⟩ := ih m' hm
    refine ⟨fun z hz => List.mem_cons_of_mem _ (i1 z hz), fun z hz => ?_⟩
    rcases List.mem_cons.1 hz with rfl | hz
    · exact List.mem_cons_self
    · exact List.mem_cons_of_mem _ (i2 z hz)
  | case5 x a y b h1 h2 h3 ih =>
    intro m h
    have e : x = y := sw_ext (k_eq h1 h2) h3
    subst e
    rw [mg, if_neg h1, if_neg h2, if_pos h3, Option.map_eq_some_iff] at h
    obtain ⟨m', hm, rfl⟩ := h
    obtain ⟨i1, i2⟩ := ih m' hm
    refine ⟨fun z hz => ?_, fun z hz => ?_⟩
    · rcases List.mem_cons.1 hz with rfl | hz
      · exact List.mem_cons_self
      · exact List.mem_cons_of_mem _ (i1 z hz)
    · rcases List.mem_cons.1 hz with rfl | hz
      · exact List.mem_cons_self
      · exact List.mem_cons_of_mem _ (i2 z hz)
  | case6 x a y b h1 h2 h3 => intro m h; rw [mg, if_neg h1, if_neg h2, if_neg h3] at h; cases h
theorem okM_has {f : Nat → Int} {n : Nat} {g : Nat → Int} {k : Nat} {z : List Sw} (h : okM f n g k = some z) : (∀ i, i < n → swF f i ∈ z) ∧ (∀ i, i < k → swF g i ∈ z) := by
  unfold okM at h
  split at h
  · obtain ⟨h1, h2⟩ := mg_has _ _ _ h
    exact ⟨fun i hi => h1 _ (by unfold wl; exact List.mem_map.2 ⟨i, List.mem_range.2 hi, rfl⟩), fun i hi => h2 _ (by unfold wl; exact List.mem_map.2 ⟨i, List.mem_range.2 hi, rfl⟩)⟩
  · cases h
/-- one of the first q words is x -/
def hsW (G : Nat → Int) (x : Sw) : Nat → Bool
  | 0 => false
  | q + 1 => hsW G x q || decide (x = swF G q)
theorem hsW_yes {G : Nat → Int} {x : Sw} {i : Nat} : ∀ {q : Nat}, i < q → x = swF G i → hsW G x q = true
  | 0, h, _ => by omega
  | q + 1, h, e => by
    rw [hsW]
    by_cases z : i = q
    · subst z; rw [decide_eq_true e]; simp
    · rw [hsW_yes (by omega) e]; rfl
theorem hsW_mem {z : List Sw} {x : Sw} (h : x ∈ z) : hsW (flS z) x z.length = true := by
  obtain ⟨i, hi, e⟩ := List.getElem_of_mem h
  exact hsW_yes hi (by rw [sw_fl]; simp [List.getD, hi, e])
set_option maxRecDepth 20000 in
set_option maxHeartbeats 4000000 in
theorem sHas (a b : Option Addr) (n c k d : Nat) (G F : Nat → Int) (w : World) (hn : n ≤ 1048576) (hk : k ≤ 1048576) (h1 : IL w a (n * 3) G) (h2 : IL w b (k * 3) F) (hh : ∀ i, i < k → hsW G (swF F i) n = true) :
    Calls Try.prog 11 #[.slice a n c, .slice b k d] w fun e w' => e = .returned (.bool true) ∧ Below w.heap.size w w' := by
  have HH : Hid (∀ i, i < k → hsW G (swF F i) n = true) := hh
  clear hh
  go_enter Try.func11, Try.ntmps11
  go_wp2
  go_loopw [12] (fun ix wr => ∃ i : Nat, i ≤ k ∧ ix = .int .i64 (i : Int) ∧ Below w.heap.size w wr) (fun ix _ => k - (intOf ix).toNat)
  case atStart => exact ⟨0, Nat.zero_le _, rfl, Below.refl _ _⟩
  case round =>
    obtain ⟨i, hi, rfl, hB⟩ := hrel
    by_cases hlt : i < k
    · obtain ⟨bb, bo_, eb, bl_, y0, y1, y2⟩ := il_three (h2.below hB) hlt
      have i0 : (0 : Int) ≤ (i : Int) := by omega
      have i1 : (i : Int) < (k : Int) := by omega
      have HX : Hid (hsW G (F (i * 3), F (i * 3 + 1), F (i * 3 + 2)) n = true) := HH.out i hlt
      subst eb
      generalize F (i * 3) = A0 at *
      generalize F (i * 3 + 1) = A1 at *
      generalize F (i * 3 + 2) = A2 at *
      have hbt : Below wr.heap.size wr (wr.alloc (.cells #[.int .i64 A0, .int .i64 A1, .int .i64 A2] 29)) := (Below.refl _ _).alloc (Nat.le_refl _) _
      have bx := bx_new (w := wr) [.int .i64 A0, .int .i64 A1, .int .i64 A2] 29 rfl
      have hB9 := stepA hB hbt
      clear hbt
      go_upto_region 6 with fail
      clear y0 y1 y2
      generalize hXb : wr.heap.size = Xb at bx ⊢
      generalize wr.alloc (.cells #[.int .i64 A0, .int .i64 A1, .int .i64 A2] 29) = w9 at *
      go_loopw [7, 18] (fun had qx wr => ∃ q : Nat, q ≤ n ∧ qx = .int .i64 (q : Int) ∧ had = .bool (hsW G (A0, A1, A2) q) ∧ Below w9.heap.size w9 wr) (fun _ qx _ => n - (intOf qx).toNat)
      case atStart => exact ⟨0, Nat.zero_le _, rfl, rfl, Below.refl _ _⟩
      case round =>
        obtain ⟨q, hq, rfl, rfl, hBq⟩ := hrel
        by_cases hlq : q < n
        · obtain ⟨ab, ao_, ea, al_, x0, x1, x2⟩ := il_three (h1.below (stepA hB9 hBq)) hlq
          have j0 : (0 : Int) ≤ (q : Int) := by omega
          have j1 : (q : Int) < (n : Int) := by omega
          have bq := bx.on hBq
          have HE : Hid (hsW G (A0, A1, A2) (q + 1) = (hsW G (A0, A1, A2) q || decide ((A0, A1, A2) = (G (q * 3), G (q * 3 + 1), G (q * 3 + 2))))) := rfl
          have heq := fun w => eq_stamp A0 A1 A2 (G (q * 3)) (G (q * 3 + 1)) (G (q * 3 + 2)) w
          subst ea
          generalize hsW G (A0, A1, A2) q = V at *
          generalize decide (((A0, A1, A2) : Sw) = (G (q * 3), G (q * 3 + 1), G (q * 3 + 2))) = E at *
          generalize G (q * 3) = B0 at *
          generalize G (q * 3 + 1) = B1 at *
          generalize G (q * 3 + 2) = B2 at *
          have hbt : Below wr.heap.size wr (wr.alloc (.cells #[.int .i64 B0, .int .i64 B1, .int .i64 B2] 29)) := (Below.refl _ _).alloc (Nat.le_refl _) _
          have by_ := bx_new (w := wr) [.int .i64 B0, .int .i64 B1, .int .i64 B2] 29 rfl
          have bx2 := bq.on hbt
          have e0 := bx2.c0
          have e1 := bx2.c1
          have e2 := bx2.c2
          have f0 := by_.c0
          have f1 := by_.c1
          have f2 := by_.c2
          have xl := bx2.lt
          have hBn := stepA hBq hbt
          clear bq hbt by_ bx2 HX
          cases V with
          | true =>
            clear heq
            go_wp2
            go_roundw
            case rel => exact ⟨q + 1, by omega, by go_num, by rw [HE.out]; rfl, hBn⟩
            case measure => simp [intOf]; omega
          | false =>
            go_wp2
            go_roundw
            case rel => exact ⟨q + 1, by omega, by go_num, by rw [HE.out]; first | rfl | simp, hBn⟩
            case measure => simp [intOf]; omega
        · have e : q = n := by omega
          subst e
          have j1 : ¬ (q : Int) < (q : Int) := by omega
          have hBn := stepA hB9 hBq
          rw [HX.out]
          clear HX bx
          go_wp2
          go_roundw
          case rel => exact ⟨i + 1, by omega, by go_num, hBn⟩
          case measure => simp [intOf]; omega
    · have e : i = k := by omega
      subst e
      have i1 : ¬ (i : Int) < (i : Int) := by omega
      clear HH
      go_wp2
      go_ret
      exact ⟨rfl, hB⟩
end Go.Proofs.Yteknkgfgefhloaa
