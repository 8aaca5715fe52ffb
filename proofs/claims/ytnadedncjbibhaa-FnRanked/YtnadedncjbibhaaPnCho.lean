/- Who gets a tick, as the program chooses (tools/gen_pn5.py). -/
import Derived.Test.YtnadedncjbibhaaPnRn
import Derived.Test.YtnadedncjbibhaaCwTwo
import Derived.Deep.Cut
import Derived.BigRegion
namespace Go.Proofs.Ytnadedncjbibhaa
open Go.RowKit
abbrev jbv (a b : Int) : Value := .agg #[.int .i64 a, .int .i64 b]
/-- the jobs that are open, as the program keeps them -/
def jF (F f : Nat → Int) (s : Pl) (i : Nat) : Int := if i % 2 = 0 then cmP F f s (i / 2) else F (i / 2 * 3 + 1) - s.sp (i / 2)
theorem jF_0 (F f : Nat → Int) (s : Pl) (k : Nat) : jF F f s (k * 2) = cmP F f s k := by
  unfold jF; rw [if_pos (by omega), show k * 2 / 2 = k by omega]
theorem jF_1 (F f : Nat → Int) (s : Pl) (k : Nat) : jF F f s (k * 2 + 1) = F (k * 3 + 1) - s.sp k := by
  unfold jF; rw [if_neg (by omega), show (k * 2 + 1) / 2 = k by omega]
/-- the first times are good, and as many as chores -/
def gfB (m n : Nat) (f : Nat → Int) : Bool := decide (m = n) && gfK f m
set_option maxHeartbeats 1000000 in
theorem iFirsts (b : Option Addr) (m d n : Nat) (f : Nat → Int) (w : World) (hn : n ≤ 6) (h : IL w b m f) :
    Calls Try.prog 49 #[.slice b m d, .int .i64 (n : Int)] w fun e w' => e = .returned (.bool (gfB m n f)) ∧ w' = w := by
  cases hq : ((m : Int) != (n : Int)) with
  | true =>
    have e : ¬ m = n := by simp at hq; omega
    have HV : Hid (gfB m n f = false) := by unfold gfB; rw [decide_eq_false e]; rfl
    clear e
    go_enter Try.func49, Try.ntmps49
    go_wp2
    go_ret
    exact ⟨by rw [HV.out]; rfl, rfl⟩
  | false =>
    have e : m = n := by simp at hq; omega
    have HV : Hid (gfB m n f = gfK f m) := by unfold gfB; rw [decide_eq_true e]; rfl
    have hq2 : ((m : Int) != (m : Int)) = false := by simp
    subst e
    go_enter Try.func49, Try.ntmps49
    go_wp2
    go_loopw [13] (fun i wr => ∃ k : Nat, k ≤ m ∧ i = .int .i64 (k : Int) ∧ Hid (gfK f k = true) ∧ wr = w) (fun i _ => m - (intOf i).toNat)
    case atStart => exact ⟨0, Nat.zero_le _, rfl, (rfl : gfK f 0 = true), rfl⟩
    case round =>
      obtain ⟨k, hk, rfl, HK, hwr⟩ := hrel
      subst hwr
      by_cases hlt : k < m
      · obtain ⟨gb, go_, rfl, gl_, hc⟩ := h (by omega)
        have x0 := hc k hlt
        have i0 : (0 : Int) ≤ (k : Int) := by omega
        have i1 : (k : Int) < (m : Int) := by omega
        have HY : Hid (0 ≤ f k ∧ f k ≤ 60 → gfK f (k + 1) = true) := fun h9 => by rw [gfK, HK.out, decide_eq_true h9]; rfl
        have HN : Hid (¬ (0 ≤ f k ∧ f k ≤ 60) → gfK f m = false) := fun h9 => gfK_no hlt h9
        clear hc HK
        generalize f k = X at *
        by_cases g0 : X < 0
        · have HR : Hid (gfK f m = false) := HN.out (by omega)
          go_wp2
          go_ret
          exact ⟨by rw [HV.out, HR.out]; rfl, rfl⟩
        by_cases g1 : 60 < X
        · have HR : Hid (gfK f m = false) := HN.out (by omega)
          go_wp2
          go_ret
          exact ⟨by rw [HV.out, HR.out]; rfl, rfl⟩
        have HR : Hid (gfK f (k + 1) = true) := HY.out ⟨by omega, by omega⟩
        go_wp2
        go_roundw
        case rel => exact ⟨k + 1, by omega, by go_num, HR, trivial⟩
        case measure => simp [intOf]; omega
      · have e : k = m := by omega
        subst e
        have i1 : ¬ (k : Int) < (k : Int) := by omega
        go_wp2
        go_ret
        exact ⟨by rw [HV.out, HK.out]; rfl, rfl⟩
set_option maxHeartbeats 400000 in
theorem iRank1 (k : Int) (x y : Int) (w : World) :
    Calls Try.prog 36 #[.int .i64 k, jbv x y] w fun e w' => e = .returned (.int .i64 k) ∧ Below w.heap.size w w' := by
  have hB : Below w.heap.size w (w.alloc (.cells #[.int .i64 x, .int .i64 y] 59)) := (Below.refl _ _).alloc (Nat.le_refl _) _
  go_enter Try.func36, Try.ntmps36
  go_wp2
  go_ret
  exact ⟨rfl, hB⟩
set_option maxHeartbeats 400000 in
theorem iUrg1 (k : Nat) (x y : Int) (p : Nat) (a : Option Addr) (n c : Nat) (F : Nat → Int) (w : World) (hk : k < n) (hx0 : 0 ≤ x) (hx : x ≤ 120060) (hd0 : 0 ≤ F (k * 3 + 2)) (hd1 : F (k * 3 + 2) ≤ 60) (hp : w.cell? ⟨p, 0, none⟩ = some (.slice a n c)) (hpl : p < w.heap.size) (h : IL w a (n * 3) F) :
    Calls Try.prog 47 #[.int .i64 (k : Int), jbv x y, .pointer (some ⟨p, 0, none⟩)] w fun e w' => e = .returned (.int .i64 (x + F (k * 3 + 2))) ∧ Below w.heap.size w w' := by
  have hB : Below w.heap.size w (w.alloc (.cells #[.int .i64 x, .int .i64 y] 59)) := (Below.refl _ _).alloc (Nat.le_refl _) _
  have b3 := bx_new (w := w) [.int .i64 x, .int .i64 y] 59 rfl
  obtain ⟨gb, go_, rfl, gl_, x0, x1, x2⟩ := il_three (h.below hB) hk
  have z0 := b3.c0
  have z1 := (hB.cell (p := ⟨p, 0, none⟩) hpl).trans hp
  have i0 : (0 : Int) ≤ (k : Int) := by omega
  have i1 : (k : Int) < (n : Int) := by omega
  clear b3
  generalize F (k * 3 + 2) = D at *
  go_enter Try.func47, Try.ntmps47
  go_upto_region 1 with fail
  generalize w.alloc (.cells #[.int .i64 x, .int .i64 y] 59) = w2 at *
  go_region
  go_wp2
  go_ret
  exact ⟨rfl, hB.drew⟩
set_option maxRecDepth 20000 in
set_option maxHeartbeats 4000000 in
theorem iChooseR (J n cJ : Nat) (F f : Nat → Int) (s : Pl) (t : Nat) (w : World) (g : Gc n F) (hf : gfK f n = true) (p : Pk n F f s t) (ht : t ≤ 2000) (hJ : IP w J (n * 2) (jF F f s)) :
    Calls Try.prog 51 #[.agg #[.func (.func 36) #[] #[]], .slice (some ⟨J, 0, none⟩) n cJ, .int .i64 (t : Int)] w fun e w' => e = .returned (.int .i64 (whP false n F f s (t : Int))) ∧ Below w.heap.size w w' := by
  have HG : Hid (Gc n F) := g
  have Hf : Hid (gfK f n = true) := hf
  have HP : Hid (Pk n F f s t) := p
  have hn6 := g.six
  have HW : Hid (whP false n F f s (t : Int) = chW (cmP F f s) (ugP false F f s) (t : Int) n) := rfl
  clear g hf p
  rw [HW.out]
  have hb0 : Below w.heap.size w (w.alloc (.cells #[.func (.func 36) #[] #[]] 62)) := (Below.refl _ _).alloc (Nat.le_refl _) _
  have b0 := bx_new (w := w) [.func (.func 36) #[] #[]] 62 rfl
  go_enter Try.func51, Try.ntmps51
  go_upto_region 3 with fail
  generalize w.alloc (.cells #[.func (.func 36) #[] #[]] 62) = w0 at *
  go_loopw [7, 8, 14] (fun best least i wr => ∃ (k : Nat) (q : Int), k ≤ n ∧ i = .int .i64 (k : Int) ∧ best = .int .i64 (chW (cmP F f s) (ugP false F f s) (t : Int) k) ∧ least = .int .i64 q ∧ Hid (0 ≤ chW (cmP F f s) (ugP false F f s) (t : Int) k → q = ugP false F f s (chW (cmP F f s) (ugP false F f s) (t : Int) k).toNat) ∧ Below w0.heap.size w0 wr) (fun _ _ i _ => n - (intOf i).toNat)
  case atStart => exact ⟨0, 0, Nat.zero_le _, rfl, rfl, rfl, (fun h9 => absurd h9 (by simp [chW])), Below.refl _ _⟩
  case round =>
    obtain ⟨k, q, hk, rfl, rfl, rfl, HQ, hBk⟩ := hrel
    by_cases hlk : k < n
    · have hJ2 := hJ.below (hb0.trans (hBk.mono hb0.size)) hJ.lt
      obtain ⟨x0, x1⟩ := ip_two hJ2 hlk
      have jl := hJ2.lt
      rw [jF_0] at x0
      rw [jF_1] at x1
      have b1 := b0.on hBk
      have i0 : (0 : Int) ≤ (k : Int) := by omega
      have i3 : (k : Int) < (n : Int) := by omega
      obtain ⟨c0, c1, -, -⟩ := cm_bd HG.out Hf.out HP.out ht hlk
      obtain ⟨wb0, wb1⟩ := chW_bd (cmP F f s) (ugP false F f s) (t : Int) k
      have HL : Hid (¬ cmP F f s k ≤ (t : Int) → chW (cmP F f s) (ugP false F f s) (t : Int) (k + 1) = chW (cmP F f s) (ugP false F f s) (t : Int) k) := fun h9 => chW_late h9
      have H1 : Hid (cmP F f s k ≤ (t : Int) → chW (cmP F f s) (ugP false F f s) (t : Int) k = -1 → chW (cmP F f s) (ugP false F f s) (t : Int) (k + 1) = (k : Int)) := fun h9 h8 => chW_first h9 h8
      have H2 : Hid (cmP F f s k ≤ (t : Int) → 0 ≤ chW (cmP F f s) (ugP false F f s) (t : Int) k → ugP false F f s k < q → chW (cmP F f s) (ugP false F f s) (t : Int) (k + 1) = (k : Int)) := fun h9 h8 h7 => chW_less h9 (by rw [← HQ.out h8]; exact h7)
      have H3 : Hid (0 ≤ chW (cmP F f s) (ugP false F f s) (t : Int) k → ¬ ugP false F f s k < q → chW (cmP F f s) (ugP false F f s) (t : Int) (k + 1) = chW (cmP F f s) (ugP false F f s) (t : Int) k) := fun h8 h7 => chW_stay (by omega) (by rw [← HQ.out h8]; exact h7)
      have hbt : Below wr.heap.size wr (wr.alloc (.cells #[.int .i64 (cmP F f s k), .int .i64 (F (k * 3 + 1) - s.sp k)] 59)) := (Below.refl _ _).alloc (Nat.le_refl _) _
      have b3 := bx_new (w := wr) [.int .i64 (cmP F f s k), .int .i64 (F (k * 3 + 1) - s.sp k)] 59 rfl
      have b4 := b1.on hbt
      have e0 := b3.c0
      have e1 := b3.c1
      have e2 := b4.c0
      have hB9 := stepA hBk hbt
      have kU : ∀ w2, Below wr.heap.size wr w2 → Calls Try.prog 36 #[.int .i64 (k : Int), jbv (cmP F f s k) (F (k * 3 + 1) - s.sp k)] w2 fun e w' => e = .returned (.int .i64 (ugP false F f s k)) ∧ Below w2.heap.size w2 w' := fun w2 _ => iRank1 (k : Int) (cmP F f s k) (F (k * 3 + 1) - s.sp k) w2
      clear HG Hf HP b3 b1 b4 hJ2
      generalize hWh : chW (cmP F f s) (ugP false F f s) (t : Int) k = Wh at *
      clear hWh
      generalize hUU : ugP false F f s k = Uk at *
      have HUU : Hid (ugP false F f s k = Uk) := hUU
      clear hUU
      generalize cmP F f s k = C at *
      generalize F (k * 3 + 1) - s.sp k = Lf at *
      by_cases hct : C ≤ (t : Int)
      · have hct' : ¬ (t : Int) < C := by omega
        by_cases hwh : Wh = -1
        · have hw1 : (Wh == -1) = true := by simp [hwh]
          have HN : Hid (chW (cmP F f s) (ugP false F f s) (t : Int) (k + 1) = (k : Int)) := H1.out hct hwh
          have HQ2 : Hid (0 ≤ chW (cmP F f s) (ugP false F f s) (t : Int) (k + 1) → Uk = ugP false F f s (chW (cmP F f s) (ugP false F f s) (t : Int) (k + 1)).toNat) := by rw [HN.out, Int.toNat_natCast]; intro _; exact HUU.out.symm
          clear hwh HL H1 H2 H3 HQ
          go_wp2_with fail
          refine (kU _ hbt).mono ?_
          rintro e w4 ⟨rfl, hb4⟩
          have hB4 := stepA hB9 hb4
          clear kU hb4 hB9
          go_wp2
          go_roundw
          case rel => exact ⟨k + 1, Uk, by omega, by go_num, by rw [HN.out], rfl, HQ2, hB4⟩
          case measure => simp [intOf]; omega
        · have hw1 : (Wh == -1) = false := by simp [hwh]
          by_cases hu : Uk < q
          · have HN : Hid (chW (cmP F f s) (ugP false F f s) (t : Int) (k + 1) = (k : Int)) := H2.out hct (by omega) hu
            have HQ2 : Hid (0 ≤ chW (cmP F f s) (ugP false F f s) (t : Int) (k + 1) → Uk = ugP false F f s (chW (cmP F f s) (ugP false F f s) (t : Int) (k + 1)).toNat) := by rw [HN.out, Int.toNat_natCast]; intro _; exact HUU.out.symm
            clear hwh HL H1 H2 H3 HQ
            go_wp2_with fail
            refine (kU _ hbt).mono ?_
            rintro e w4 ⟨rfl, hb4⟩
            have hB4 := stepA hB9 hb4
            clear kU hb4 hB9
            go_wp2
            go_roundw
            case rel => exact ⟨k + 1, Uk, by omega, by go_num, by rw [HN.out], rfl, HQ2, hB4⟩
            case measure => simp [intOf]; omega
          · have HN : Hid (chW (cmP F f s) (ugP false F f s) (t : Int) (k + 1) = Wh) := H3.out (by omega) hu
            have HQ2 : Hid (0 ≤ chW (cmP F f s) (ugP false F f s) (t : Int) (k + 1) → q = ugP false F f s (chW (cmP F f s) (ugP false F f s) (t : Int) (k + 1)).toNat) := by rw [HN.out]; exact HQ.out
            clear hwh HL H1 H2 H3 HQ
            go_wp2_with fail
            refine (kU _ hbt).mono ?_
            rintro e w4 ⟨rfl, hb4⟩
            have hB4 := stepA hB9 hb4
            clear kU hb4 hB9
            go_wp2
            go_roundw
            case rel => exact ⟨k + 1, q, by omega, by go_num, by rw [HN.out], rfl, HQ2, hB4⟩
            case measure => simp [intOf]; omega
      · have hct' : (t : Int) < C := by omega
        have HN : Hid (chW (cmP F f s) (ugP false F f s) (t : Int) (k + 1) = Wh) := HL.out hct
        have HQ2 : Hid (0 ≤ chW (cmP F f s) (ugP false F f s) (t : Int) (k + 1) → q = ugP false F f s (chW (cmP F f s) (ugP false F f s) (t : Int) (k + 1)).toNat) := by rw [HN.out]; exact HQ.out
        clear kU HL H1 H2 H3 HQ
        go_wp2
        go_roundw
        case rel => exact ⟨k + 1, q, by omega, by go_num, by rw [HN.out], rfl, HQ2, hB9⟩
        case measure => simp [intOf]; omega
    · have e : k = n := by omega
      subst e
      have i3 : ¬ (k : Int) < (k : Int) := by omega
      clear HG Hf HP
      go_wp2
      go_ret
      exact ⟨rfl, hb0.trans (hBk.mono hb0.size)⟩
set_option maxRecDepth 20000 in
set_option maxHeartbeats 4000000 in
theorem iChooseU (J n cJ : Nat) (F f : Nat → Int) (s : Pl) (t : Nat) (w : World) (g : Gc n F) (hf : gfK f n = true) (p : Pk n F f s t) (ht : t ≤ 2000) (hJ : IP w J (n * 2) (jF F f s)) (pp : Nat) (a : Option Addr) (c : Nat) (hp : w.cell? ⟨pp, 0, none⟩ = some (.slice a n c)) (hpl : pp < w.heap.size) (h : IL w a (n * 3) F) :
    Calls Try.prog 51 #[.agg #[.func (.func 47) #[] #[.pointer (some ⟨pp, 0, none⟩)]], .slice (some ⟨J, 0, none⟩) n cJ, .int .i64 (t : Int)] w fun e w' => e = .returned (.int .i64 (whP true n F f s (t : Int))) ∧ Below w.heap.size w w' := by
  have HG : Hid (Gc n F) := g
  have Hf : Hid (gfK f n = true) := hf
  have HP : Hid (Pk n F f s t) := p
  have hn6 := g.six
  have HW : Hid (whP true n F f s (t : Int) = chW (cmP F f s) (ugP true F f s) (t : Int) n) := rfl
  clear g hf p
  rw [HW.out]
  have hb0 : Below w.heap.size w (w.alloc (.cells #[.func (.func 47) #[] #[.pointer (some ⟨pp, 0, none⟩)]] 62)) := (Below.refl _ _).alloc (Nat.le_refl _) _
  have b0 := bx_new (w := w) [.func (.func 47) #[] #[.pointer (some ⟨pp, 0, none⟩)]] 62 rfl
  go_enter Try.func51, Try.ntmps51
  go_upto_region 3 with fail
  generalize w.alloc (.cells #[.func (.func 47) #[] #[.pointer (some ⟨pp, 0, none⟩)]] 62) = w0 at *
  go_loopw [7, 8, 14] (fun best least i wr => ∃ (k : Nat) (q : Int), k ≤ n ∧ i = .int .i64 (k : Int) ∧ best = .int .i64 (chW (cmP F f s) (ugP true F f s) (t : Int) k) ∧ least = .int .i64 q ∧ Hid (0 ≤ chW (cmP F f s) (ugP true F f s) (t : Int) k → q = ugP true F f s (chW (cmP F f s) (ugP true F f s) (t : Int) k).toNat) ∧ Below w0.heap.size w0 wr) (fun _ _ i _ => n - (intOf i).toNat)
  case atStart => exact ⟨0, 0, Nat.zero_le _, rfl, rfl, rfl, (fun h9 => absurd h9 (by simp [chW])), Below.refl _ _⟩
  case round =>
    obtain ⟨k, q, hk, rfl, rfl, rfl, HQ, hBk⟩ := hrel
    by_cases hlk : k < n
    · have hJ2 := hJ.below (hb0.trans (hBk.mono hb0.size)) hJ.lt
      obtain ⟨x0, x1⟩ := ip_two hJ2 hlk
      have jl := hJ2.lt
      rw [jF_0] at x0
      rw [jF_1] at x1
      have b1 := b0.on hBk
      have i0 : (0 : Int) ≤ (k : Int) := by omega
      have i3 : (k : Int) < (n : Int) := by omega
      obtain ⟨c0, c1, -, -⟩ := cm_bd HG.out Hf.out HP.out ht hlk
      obtain ⟨wb0, wb1⟩ := chW_bd (cmP F f s) (ugP true F f s) (t : Int) k
      have HL : Hid (¬ cmP F f s k ≤ (t : Int) → chW (cmP F f s) (ugP true F f s) (t : Int) (k + 1) = chW (cmP F f s) (ugP true F f s) (t : Int) k) := fun h9 => chW_late h9
      have H1 : Hid (cmP F f s k ≤ (t : Int) → chW (cmP F f s) (ugP true F f s) (t : Int) k = -1 → chW (cmP F f s) (ugP true F f s) (t : Int) (k + 1) = (k : Int)) := fun h9 h8 => chW_first h9 h8
      have H2 : Hid (cmP F f s k ≤ (t : Int) → 0 ≤ chW (cmP F f s) (ugP true F f s) (t : Int) k → ugP true F f s k < q → chW (cmP F f s) (ugP true F f s) (t : Int) (k + 1) = (k : Int)) := fun h9 h8 h7 => chW_less h9 (by rw [← HQ.out h8]; exact h7)
      have H3 : Hid (0 ≤ chW (cmP F f s) (ugP true F f s) (t : Int) k → ¬ ugP true F f s k < q → chW (cmP F f s) (ugP true F f s) (t : Int) (k + 1) = chW (cmP F f s) (ugP true F f s) (t : Int) k) := fun h8 h7 => chW_stay (by omega) (by rw [← HQ.out h8]; exact h7)
      have hbt : Below wr.heap.size wr (wr.alloc (.cells #[.int .i64 (cmP F f s k), .int .i64 (F (k * 3 + 1) - s.sp k)] 59)) := (Below.refl _ _).alloc (Nat.le_refl _) _
      have b3 := bx_new (w := wr) [.int .i64 (cmP F f s k), .int .i64 (F (k * 3 + 1) - s.sp k)] 59 rfl
      have b4 := b1.on hbt
      have e0 := b3.c0
      have e1 := b3.c1
      have e2 := b4.c0
      have hB9 := stepA hBk hbt
      have d1 := HG.out.d1 k hlk
      have d2 := HG.out.d2 k hlk
      have p2 := HG.out.p2 k hlk
      have n1 := HG.out.n1 k hlk
      have hBw := hb0.trans (hBk.mono hb0.size)
      have kU := fun w2 (hb2 : Below wr.heap.size wr w2) => iUrg1 k (cmP F f s k) (F (k * 3 + 1) - s.sp k) pp a n c F w2 hlk c0 c1 (by omega) (by omega) (((stepA hBw hb2).cell (p := ⟨pp, 0, none⟩) hpl).trans hp) (Nat.lt_of_lt_of_le hpl (stepA hBw hb2).size) (h.below (stepA hBw hb2))
      rw [show cmP F f s k + F (k * 3 + 2) = ugP true F f s k from rfl] at kU
      clear d1 d2 p2 n1 hBw
      clear HG Hf HP b3 b1 b4 hJ2
      generalize hWh : chW (cmP F f s) (ugP true F f s) (t : Int) k = Wh at *
      clear hWh
      generalize hUU : ugP true F f s k = Uk at *
      have HUU : Hid (ugP true F f s k = Uk) := hUU
      clear hUU
      generalize cmP F f s k = C at *
      generalize F (k * 3 + 1) - s.sp k = Lf at *
      by_cases hct : C ≤ (t : Int)
      · have hct' : ¬ (t : Int) < C := by omega
        by_cases hwh : Wh = -1
        · have hw1 : (Wh == -1) = true := by simp [hwh]
          have HN : Hid (chW (cmP F f s) (ugP true F f s) (t : Int) (k + 1) = (k : Int)) := H1.out hct hwh
          have HQ2 : Hid (0 ≤ chW (cmP F f s) (ugP true F f s) (t : Int) (k + 1) → Uk = ugP true F f s (chW (cmP F f s) (ugP true F f s) (t : Int) (k + 1)).toNat) := by rw [HN.out, Int.toNat_natCast]; intro _; exact HUU.out.symm
          clear hwh HL H1 H2 H3 HQ
          go_wp2_with fail
          refine (kU _ hbt).mono ?_
          rintro e w4 ⟨rfl, hb4⟩
          have hB4 := stepA hB9 hb4
          clear kU hb4 hB9
          go_wp2
          go_roundw
          case rel => exact ⟨k + 1, Uk, by omega, by go_num, by rw [HN.out], rfl, HQ2, hB4⟩
          case measure => simp [intOf]; omega
        · have hw1 : (Wh == -1) = false := by simp [hwh]
          by_cases hu : Uk < q
          · have HN : Hid (chW (cmP F f s) (ugP true F f s) (t : Int) (k + 1) = (k : Int)) := H2.out hct (by omega) hu
            have HQ2 : Hid (0 ≤ chW (cmP F f s) (ugP true F f s) (t : Int) (k + 1) → Uk = ugP true F f s (chW (cmP F f s) (ugP true F f s) (t : Int) (k + 1)).toNat) := by rw [HN.out, Int.toNat_natCast]; intro _; exact HUU.out.symm
            clear hwh HL H1 H2 H3 HQ
            go_wp2_with fail
            refine (kU _ hbt).mono ?_
            rintro e w4 ⟨rfl, hb4⟩
            have hB4 := stepA hB9 hb4
            clear kU hb4 hB9
            go_wp2
            go_roundw
            case rel => exact ⟨k + 1, Uk, by omega, by go_num, by rw [HN.out], rfl, HQ2, hB4⟩
            case measure => simp [intOf]; omega
          · have HN : Hid (chW (cmP F f s) (ugP true F f s) (t : Int) (k + 1) = Wh) := H3.out (by omega) hu
            have HQ2 : Hid (0 ≤ chW (cmP F f s) (ugP true F f s) (t : Int) (k + 1) → q = ugP true F f s (chW (cmP F f s) (ugP true F f s) (t : Int) (k + 1)).toNat) := by rw [HN.out]; exact HQ.out
            clear hwh HL H1 H2 H3 HQ
            go_wp2_with fail
            refine (kU _ hbt).mono ?_
            rintro e w4 ⟨rfl, hb4⟩
            have hB4 := stepA hB9 hb4
            clear kU hb4 hB9
            go_wp2
            go_roundw
            case rel => exact ⟨k + 1, q, by omega, by go_num, by rw [HN.out], rfl, HQ2, hB4⟩
            case measure => simp [intOf]; omega
      · have hct' : (t : Int) < C := by omega
        have HN : Hid (chW (cmP F f s) (ugP true F f s) (t : Int) (k + 1) = Wh) := HL.out hct
        have HQ2 : Hid (0 ≤ chW (cmP F f s) (ugP true F f s) (t : Int) (k + 1) → q = ugP true F f s (chW (cmP F f s) (ugP true F f s) (t : Int) (k + 1)).toNat) := by rw [HN.out]; exact HQ.out
        clear kU HL H1 H2 H3 HQ
        go_wp2
        go_roundw
        case rel => exact ⟨k + 1, q, by omega, by go_num, by rw [HN.out], rfl, HQ2, hB9⟩
        case measure => simp [intOf]; omega
    · have e : k = n := by omega
      subst e
      have i3 : ¬ (k : Int) < (k : Int) := by omega
      clear HG Hf HP
      go_wp2
      go_ret
      exact ⟨rfl, hb0.trans (hBk.mono hb0.size)⟩
end Go.Proofs.Ytnadedncjbibhaa
