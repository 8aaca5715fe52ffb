/- A tick is given, as the program gives it: the whole (tools/gen_pn6.py). -/
import Derived.Test.YtnadedncjbibhaaPnAdd
namespace Go.Proofs.Ytnadedncjbibhaa
open Go.RowKit
theorem jF_go {F f : Nat → Int} {s : Pl} {t : Int} {j : Nat} (h : fiB F s j = false) (i : Nat) : put (jF F f s) (j * 2 + 1) (F (j * 3 + 1) - s.sp j - 1) i = jF F f (gvP F f s t j) i := by
  have e1 : (gvP F f s t j).dn = s.dn := by show (if fiB F s j then _ else _) = _; rw [h]; rfl
  have e2 : (gvP F f s t j).sp = put s.sp j (s.sp j + 1) := by show (if fiB F s j then _ else _) = _; rw [h]; rfl
  unfold jF cmP
  rw [e1, e2]
  by_cases hi : i = j * 2 + 1
  · subst hi
    rw [put_at, if_neg (by omega), show (j * 2 + 1) / 2 = j by omega, put_at]
    omega
  · rw [put_ne hi]
    by_cases hp : i % 2 = 0
    · rw [if_pos hp, if_pos hp]
    · rw [if_neg hp, if_neg hp, put_ne (by omega)]
theorem jF_fin {F f : Nat → Int} {s : Pl} {t : Int} {j : Nat} (h : fiB F s j = true) (x : Int) (i : Nat) : put (put (put (jF F f s) (j * 2 + 1) x) (j * 2) (cmP F f s j + F (j * 3))) (j * 2 + 1) (F (j * 3 + 1)) i = jF F f (gvP F f s t j) i := by
  have e1 : (gvP F f s t j).dn = put s.dn j (s.dn j + 1) := by show (if fiB F s j then _ else _) = _; rw [h]; rfl
  have e2 : (gvP F f s t j).sp = put s.sp j 0 := by show (if fiB F s j then _ else _) = _; rw [h]; rfl
  unfold jF cmP
  rw [e1, e2]
  by_cases hi : i = j * 2 + 1
  · subst hi
    rw [put_at, if_neg (by omega), show (j * 2 + 1) / 2 = j by omega, put_at]
    omega
  · rw [put_ne hi]
    by_cases h0 : i = j * 2
    · subst h0
      rw [put_at, if_pos (by omega), show j * 2 / 2 = j by omega, put_at, Int.add_mul, Int.one_mul]
      omega
    · rw [put_ne h0, put_ne hi]
      by_cases hp : i % 2 = 0
      · rw [if_pos hp, if_pos hp, put_ne (by omega)]
      · rw [if_neg hp, if_neg hp, put_ne (by omega)]
/-- a play, as the program keeps it -/
structure Im (w : World) (Pb J L n : Nat) (a : Option Addr) (c cJ : Nat) (F f : Nat → Int) (s : Pl) (v : Value) : Prop where
  box : Bx w Pb [.slice a n c, .slice (some ⟨J, 0, none⟩) n cJ, v, .slice (some ⟨L, 0, none⟩) n n]
  jb : IP w J (n * 2) (jF F f s)
  lo : IP w L n s.wo
  sl : OwnL w (Pb + 1) v s.m s.G
theorem Im.below {w w' : World} {Pb J L n : Nat} {a : Option Addr} {c cJ : Nat} {F f : Nat → Int} {s : Pl} {v : Value} (h : Im w Pb J L n a c cJ F f s v) (b : Below w.heap.size w w') : Im w' Pb J L n a c cJ F f s v :=
  ⟨h.box.on b, h.jb.below b h.jb.lt, h.lo.below b h.lo.lt, h.sl.below b⟩
def AnsGv (Pb J L n : Nat) (a : Option Addr) (c cJ : Nat) (F f : Nat → Int) (s : Pl) (B0 : Nat) (w w' : World) (e : Ending) : Prop :=
  e = .returned (.tuple #[]) ∧ (∃ v', Im w' Pb J L n a c cJ F f s v') ∧ Below B0 w w'
set_option maxRecDepth 20000 in
set_option maxHeartbeats 4000000 in
theorem iGive (w0 : World) (Pb J L n t j : Nat) (a : Option Addr) (c cJ : Nat) (F f : Nat → Int) (s : Pl) (v : Value) (w : World) (g : Gc n F) (hf : gfK f n = true) (p : Pk n F f s t) (ht : t ≤ 2000) (hj : j < n) (hI : Im w Pb J L n a c cJ F f s v)
    (hJP : J < Pb) (hLP : L < Pb) (hJL : J ≠ L) (hJ0 : w0.heap.size ≤ J) (hL0 : w0.heap.size ≤ L) (h : IL w0 a (n * 3) F) (hb : Below w0.heap.size w0 w) :
    Calls Try.prog 52 #[.pointer (some ⟨Pb, 0, none⟩), .int .i64 (t : Int), .int .i64 (j : Int)] w fun e w' => AnsGv Pb J L n a c cJ F f (gvP F f s (t : Int) j) w0.heap.size w w' e := by
  obtain ⟨c0, c1, c2, c3⟩ := cm_bd g hf p ht hj
  have s0 := p.s0 j hj
  have s1 := p.s1 j hj
  have w0' := p.w0 j hj
  have w1' := p.w1 j hj
  have n1 := g.n1 j hj
  have n2 := g.n2 j hj
  have p1 := g.p1 j hj
  have p2 := g.p2 j hj
  have hn6 := g.six
  have hm := p.mt
  go_enter Try.func52, Try.ntmps52
  go_wp2_with fail
  refine (iAdd Pb s.m t j _ _ _ v s.G w hI.box hI.sl (by omega) ht).mono ?_
  rintro e w1 ⟨rfl, v', hB1, hS1, hb1⟩
  have hJ1 := hI.jb.below hb1 hJP
  have hL1 := hI.lo.below hb1 hLP
  have hbw1 : Below w0.heap.size w w1 := hb1.mono (by omega)
  have hbb := hb.trans hbw1
  obtain ⟨gb, go_, ea, gl_, hcw⟩ := h (by omega)
  obtain ⟨gb2, go2, ea2, gl3, x0, x1, x2⟩ := il_three (h.below hbb) hj
  subst ea
  cases ea2
  clear hcw
  obtain ⟨y0, y1⟩ := ip_two hJ1 hj
  rw [jF_0] at y0
  rw [jF_1] at y1
  have yf1 := hJ1.fz (j * 2 + 1)
  have jl := hJ1.lt
  have ll := hL1.lt
  have pl := hB1.lt
  have b0 := hB1.c0
  have b1 := hB1.c1
  have b3 := hB1.c3
  have i0 : (0 : Int) ≤ (j : Int) := by omega
  have i1 : (j : Int) < (n : Int) := by omega
  -- the world behind left--
  have o1 := (Only.refl J w1).set (j * 2 + 1) (.int .i64 (F (j * 3 + 1) - s.sp j - 1))
  have hW1 : Below w0.heap.size w1 (w1.setCell ⟨J, j * 2 + 1, none⟩ (.int .i64 (F (j * 3 + 1) - s.sp j - 1))) := (Below.refl _ _).setCell (p := ⟨J, _, none⟩) hJ0 _
  have xx0 := (hW1.cell (p := ⟨gb, _, none⟩) gl_).trans x0
  have xx1 := (hW1.cell (p := ⟨gb, _, none⟩) gl_).trans x1
  have HJ2 : Hid (IP (w1.setCell ⟨J, j * 2 + 1, none⟩ (.int .i64 (F (j * 3 + 1) - s.sp j - 1))) J (n * 2) (put (jF F f s) (j * 2 + 1) (F (j * 3 + 1) - s.sp j - 1))) := hJ1.set (k := j * 2 + 1) (by omega) _
  have hL2 := hL1.only o1 (fun e => hJL e.symm)
  have hB2 : Bx (w1.setCell ⟨J, j * 2 + 1, none⟩ (.int .i64 (F (j * 3 + 1) - s.sp j - 1))) Pb _ := hB1.far _ (by omega)
  have hS2 : SlN (w1.setCell ⟨J, j * 2 + 1, none⟩ (.int .i64 (F (j * 3 + 1) - s.sp j - 1))) (Pb + 1) v' s.m s.G (t : Int) (j : Int) := OwnL.only hS1 o1 (by omega)
  have hbw2 := hbw1.trans hW1
  clear hS1 hB1 hJ1 hL1 hbw1 hbb hb1 hI o1 hW1 hb
  by_cases hfi : F (j * 3 + 1) ≤ s.sp j + 1
  · have HE : Hid (fiB F s j = true) := decide_eq_true hfi
    have hgt : ¬ 0 < F (j * 3 + 1) - s.sp j - 1 := by omega
    have HS2 : Hid (SlN (w1.setCell ⟨J, j * 2 + 1, none⟩ (.int .i64 (F (j * 3 + 1) - s.sp j - 1))) (Pb + 1) v' s.m s.G (t : Int) (j : Int)) := hS2
    clear hS2
    go_upto_region 4 with fail
    clear x0 x1 x2 y0 y1 yf1 b0 b1 b3 jl ll pl
    generalize hWW : w1.setCell ⟨J, j * 2 + 1, none⟩ (.int .i64 (F (j * 3 + 1) - s.sp j - 1)) = W1 at *
    clear hWW
    have jl := HJ2.out.lt
    have ll := hL2.lt
    have pl := hB2.lt
    have b0 := hB2.c0
    have b1 := hB2.c1
    have b3 := hB2.c3
    have y0 := HJ2.out.c (j * 2) (by omega)
    have y1 := HJ2.out.c (j * 2 + 1) (by omega)
    rw [put_ne (by omega), jF_0] at y0
    rw [put_at] at y1
    have yf0 := HJ2.out.fz (j * 2)
    have yf1 := HJ2.out.fz (j * 2 + 1)
    have z0 := hL2.c j hj
    have zf := hL2.fz j
    have hmx := run_great (s.wo j) ((t : Int) + 1 - cmP F f s j)
    have gl2 : gb < W1.heap.size := by omega
    -- the world behind longest
    have o2 := (Only.refl L W1).set j (.int .i64 (max (s.wo j) ((t : Int) + 1 - cmP F f s j)))
    have hW2 : Below w0.heap.size W1 (W1.setCell ⟨L, j, none⟩ (.int .i64 (max (s.wo j) ((t : Int) + 1 - cmP F f s j)))) := (Below.refl _ _).setCell (p := ⟨L, _, none⟩) hL0 _
    have x0 := (hW2.cell (p := ⟨gb, _, none⟩) gl_).trans xx0
    have x1 := (hW2.cell (p := ⟨gb, _, none⟩) gl_).trans xx1
    have HL3 : Hid (IP (W1.setCell ⟨L, j, none⟩ (.int .i64 (max (s.wo j) ((t : Int) + 1 - cmP F f s j)))) L n (put s.wo j (max (s.wo j) ((t : Int) + 1 - cmP F f s j)))) := hL2.set hj _
    have HJ3 : Hid (IP (W1.setCell ⟨L, j, none⟩ (.int .i64 (max (s.wo j) ((t : Int) + 1 - cmP F f s j)))) J (n * 2) (put (jF F f s) (j * 2 + 1) (F (j * 3 + 1) - s.sp j - 1))) := HJ2.out.only o2 hJL
    have hB3 : Bx (W1.setCell ⟨L, j, none⟩ (.int .i64 (max (s.wo j) ((t : Int) + 1 - cmP F f s j)))) Pb _ := hB2.far _ (by omega)
    have HS3 : Hid (SlN (W1.setCell ⟨L, j, none⟩ (.int .i64 (max (s.wo j) ((t : Int) + 1 - cmP F f s j)))) (Pb + 1) v' s.m s.G (t : Int) (j : Int)) := OwnL.only HS2.out o2 (by omega)
    have hbw3 := hbw2.trans hW2
    clear HS2 HJ2 hL2 hB2 o2 hW2 hbw2 g hf p
    go_cut [] from 29 to 49 (fun wx => wx = (W1.setCell ⟨L, j, none⟩ (.int .i64 (max (s.wo j) ((t : Int) + 1 - cmP F f s j)))).drew)
    case first =>
      generalize F (j * 3 + 1) = N at *
      generalize F (j * 3) = P at *
      generalize cmP F f s j = C at *
      generalize s.sp j = SJ at *
      generalize s.wo j = WJ at *
      go_region
      all_goals
        go_wp2_with fail
        go_meet
        case rel => rfl
    case rest =>
      subst hcut
      have dr : ∀ (w : World), Below w.heap.size w w.drew := fun w => (Below.refl _ _).drew
      have HJ4 : Hid (IP (W1.setCell ⟨L, j, none⟩ (.int .i64 (max (s.wo j) ((t : Int) + 1 - cmP F f s j)))).drew J (n * 2) (put (jF F f s) (j * 2 + 1) (F (j * 3 + 1) - s.sp j - 1))) := HJ3.out.below (dr _) HJ3.out.lt
      have HL4 : Hid (IP (W1.setCell ⟨L, j, none⟩ (.int .i64 (max (s.wo j) ((t : Int) + 1 - cmP F f s j)))).drew L n (put s.wo j (max (s.wo j) ((t : Int) + 1 - cmP F f s j)))) := HL3.out.below (dr _) HL3.out.lt
      have hB4 := hB3.on (dr _)
      have HS4 : Hid (SlN (W1.setCell ⟨L, j, none⟩ (.int .i64 (max (s.wo j) ((t : Int) + 1 - cmP F f s j)))).drew (Pb + 1) v' s.m s.G (t : Int) (j : Int)) := OwnL.below HS3.out (dr _)
      have hbw4 := hbw3.drew
      have gx : gb < (W1.setCell ⟨L, j, none⟩ (.int .i64 (max (s.wo j) ((t : Int) + 1 - cmP F f s j)))).heap.size := World.block_lt_of_cell? _ _ x0
      have x0' := ((dr _).cell (p := ⟨gb, _, none⟩) gx).trans x0
      have x1' := ((dr _).cell (p := ⟨gb, _, none⟩) gx).trans x1
      clear HJ3 HL3 hB3 HS3 hbw3 x0 x1 xx0 xx1 b0 b1 b3 y0 y1 yf0 yf1 z0 zf hmx jl ll pl gl2
      generalize hWW : (W1.setCell ⟨L, j, none⟩ (.int .i64 (max (s.wo j) ((t : Int) + 1 - cmP F f s j)))).drew = W2 at *
      clear hWW
      have jl := HJ4.out.lt
      have pl := hB4.lt
      have b0 := hB4.c0
      have y0 := HJ4.out.c (j * 2) (by omega)
      have y1 := HJ4.out.c (j * 2 + 1) (by omega)
      rw [put_ne (by omega), jF_0] at y0
      rw [put_at] at y1
      have yf0 := HJ4.out.fz (j * 2)
      have yf1 := HJ4.out.fz (j * 2 + 1)
      have o4 := ((Only.refl J W2).set (j * 2) (.int .i64 (cmP F f s j + F (j * 3)))).set (j * 2 + 1) (.int .i64 (F (j * 3 + 1)))
      have HR : Hid (Im ((W2.setCell ⟨J, j * 2, none⟩ (.int .i64 (cmP F f s j + F (j * 3)))).setCell ⟨J, j * 2 + 1, none⟩ (.int .i64 (F (j * 3 + 1)))) Pb J L n (some ⟨gb, go_, none⟩) c cJ F f (gvP F f s (t : Int) j) v') := by
        refine ⟨(hB4.far _ (by omega)).far _ (by omega), ((HJ4.out.set (k := j * 2) (by omega) _).set (k := j * 2 + 1) (by omega) _).congr fun i _ => jF_fin HE.out _ i, ?_, OwnL.only HS4.out o4 (by omega)⟩
        show IP _ L n (if fiB F s j then _ else _)
        rw [HE.out]
        exact HL4.out.only o4 (fun e => hJL e.symm)
      have hbw5 : Below w0.heap.size w ((W2.setCell ⟨J, j * 2, none⟩ (.int .i64 (cmP F f s j + F (j * 3)))).setCell ⟨J, j * 2 + 1, none⟩ (.int .i64 (F (j * 3 + 1)))) := (hbw4.setCell (p := ⟨J, _, none⟩) hJ0 _).setCell (p := ⟨J, _, none⟩) hJ0 _
      have gx2 : gb < W2.heap.size := World.block_lt_of_cell? _ _ x0'
      clear HJ4 HL4 hB4 HS4 hbw4 o4 gx
      generalize F (j * 3 + 1) = N at *
      generalize F (j * 3) = P at *
      generalize cmP F f s j = C at *
      generalize s.sp j = SJ at *
      generalize s.wo j = WJ at *
      go_wp2_with fail
      go_region
      all_goals
        go_wp2
        first | go_end0 | refine bodyPost_ret (results_none rfl _ _ _) rfl ?_
        exact ⟨rfl, ⟨_, HR.out.below (dr _)⟩, hbw5.drew⟩
  · have HE : Hid (fiB F s j = false) := decide_eq_false hfi
    have hgt : 0 < F (j * 3 + 1) - s.sp j - 1 := by omega
    have HR : Hid (Im (w1.setCell ⟨J, j * 2 + 1, none⟩ (.int .i64 (F (j * 3 + 1) - s.sp j - 1))) Pb J L n (some ⟨gb, go_, none⟩) c cJ F f (gvP F f s (t : Int) j) v') := ⟨hB2, HJ2.out.congr fun i _ => jF_go HE.out i, by show IP _ L n (if fiB F s j then _ else _); rw [HE.out]; exact hL2, hS2⟩
    clear hB2 HJ2 hL2 hS2 g hf p x0 x1 x2 xx0 xx1
    generalize F (j * 3 + 1) = N at *
    generalize s.sp j = SJ at *
    go_wp2
    first | go_end0 | refine bodyPost_ret (results_none rfl _ _ _) rfl ?_
    exact ⟨rfl, ⟨_, HR.out⟩, hbw2⟩
end Go.Proofs.Ytnadedncjbibhaa
