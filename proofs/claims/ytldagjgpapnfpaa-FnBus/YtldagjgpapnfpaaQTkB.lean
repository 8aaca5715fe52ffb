/- Talkers: what lies in them, and whether they are good (tools/gen_tk.py). -/
import Derived.Test.YtldagjgpapnfpaaQFrGood
import Derived.Deep.Cut
namespace Go.Proofs.Ytldagjgpapnfpaa
open Go.RowKit
/-- a talker as a value -/
abbrev tkv (qa : Option Addr) (qm qc : Nat) (sh er : Int) (of : Bool) : Value := .agg #[.slice qa qm qc, .int .i64 sh, .int .i64 er, .bool of]
abbrev tkL (qa : Option Addr) (qm qc : Nat) (sh er : Int) (of : Bool) : List Value := [.slice qa qm qc, .int .i64 sh, .int .i64 er, .bool of]
abbrev tkO (qa : Option Addr) (qm qc : Nat) (sh er : Int) (of : Bool) (t : TypeId) : Obj := .cells #[.slice qa qm qc, .int .i64 sh, .int .i64 er, .bool of] t
theorem Bx.c3 {w : World} {b : Nat} {s t u v : Value} {l : List Value} (h : Bx w b (s :: t :: u :: v :: l)) : w.cell? ⟨b, 3, none⟩ = some v := h.c 3 (by simp)
/-- the frames of a list, by their number: ids, and where their bytes lie -/
def FrH (w : World) (a : Option Addr) (m : Nat) (I : Nat → Int) (A : Nat → Option Addr) (N C : Nat → Nat) : Prop :=
  0 < m → ∃ b off, a = some ⟨b, off, none⟩ ∧ b < w.heap.size ∧ ∀ j, j < m → w.cell? ⟨b, off + j * 2, none⟩ = some (.int .i64 (I j)) ∧ w.cell? ⟨b, off + j * 2 + 1, none⟩ = some (.slice (A j) (N j) (C j))
theorem FrH.below {w w' : World} {a : Option Addr} {m : Nat} {I : Nat → Int} {A : Nat → Option Addr} {N C : Nat → Nat} (h : FrH w a m I A N C) (hb : Below w.heap.size w w') : FrH w' a m I A N C := fun h0 => by
  obtain ⟨b, off, rfl, hl, hc⟩ := h h0
  exact ⟨b, off, rfl, Nat.lt_of_lt_of_le hl hb.size, fun j hj => ⟨(hb.cell (p := ⟨b, _, none⟩) hl).trans (hc j hj).1, (hb.cell (p := ⟨b, _, none⟩) hl).trans (hc j hj).2⟩⟩
/-- the first k frames are good -/
def frsB (I : Nat → Int) (N : Nat → Nat) : Nat → Bool
  | 0 => true
  | k + 1 => frsB I N k && frB (I k) (N k)
theorem frsB_no {I : Nat → Int} {N : Nat → Nat} {m k : Nat} (hk : k < m) (h : frB (I k) (N k) = false) : frsB I N m = false := by
  induction m with
  | zero => omega
  | succ m ih =>
    unfold frsB
    rcases Nat.lt_or_eq_of_le (Nat.le_of_lt_succ hk) with h1 | rfl
    · rw [ih h1]; rfl
    · rw [h, Bool.and_false]
/-- a talker is good -/
def tkB (m : Nat) (I : Nat → Int) (N : Nat → Nat) (sh er : Int) (of : Bool) : Bool :=
  (decide (m ≤ 8) && (decide (1 ≤ sh) && (decide (sh ≤ 10) && (decide (0 ≤ er) && decide (er ≤ 255))))) && (frsB I N m && (of == (er == 255)))
theorem tkB_no {m : Nat} {I : Nat → Int} {N : Nat → Nat} {sh er : Int} {of : Bool} (h : ¬ (m ≤ 8 ∧ 1 ≤ sh ∧ sh ≤ 10 ∧ 0 ≤ er ∧ er ≤ 255)) : tkB m I N sh er of = false := by
  unfold tkB
  cases e : (decide (m ≤ 8) && (decide (1 ≤ sh) && (decide (sh ≤ 10) && (decide (0 ≤ er) && decide (er ≤ 255))))) with
  | false => rfl
  | true => simp at e; exact absurd e h
theorem tkB_in {m : Nat} {I : Nat → Int} {N : Nat → Nat} {sh er : Int} {of : Bool} (h : m ≤ 8 ∧ 1 ≤ sh ∧ sh ≤ 10 ∧ 0 ≤ er ∧ er ≤ 255) : tkB m I N sh er of = (frsB I N m && (of == (er == 255))) := by
  unfold tkB
  have : (decide (m ≤ 8) && (decide (1 ≤ sh) && (decide (sh ≤ 10) && (decide (0 ≤ er) && decide (er ≤ 255))))) = true := by simp; exact h
  rw [this, Bool.true_and]
set_option maxRecDepth 20000 in
set_option maxHeartbeats 4000000 in
theorem iTalker (qa : Option Addr) (qm qc : Nat) (I : Nat → Int) (A : Nat → Option Addr) (N C : Nat → Nat) (sh er : Int) (of : Bool) (w : World) (hm : qm ≤ 1048576) (hF : FrH w qa qm I A N C) :
    Calls Try.prog 44 #[tkv qa qm qc sh er of] w fun e w' => e = .returned (.bool (tkB qm I N sh er of)) ∧ Below w.heap.size w w' := by
  have hb0 : Below w.heap.size w (w.alloc (tkO qa qm qc sh er of 51)) := (Below.refl _ _).alloc (Nat.le_refl _) _
  have bx := bx_new (w := w) (tkL qa qm qc sh er of) 51 rfl
  by_cases h1 : 8 < qm
  · have HV : Hid (tkB qm I N sh er of = false) := tkB_no (by omega)
    have j1 : (8 : Int) < (qm : Int) := by omega
    clear bx
    go_enter Try.func44, Try.ntmps44
    go_wp2
    go_ret
    exact ⟨by rw [HV.out]; rfl, hb0⟩
  have j1 : ¬ (8 : Int) < (qm : Int) := by omega
  by_cases h2 : sh < 1
  · have HV : Hid (tkB qm I N sh er of = false) := tkB_no (by omega)
    clear bx
    go_enter Try.func44, Try.ntmps44
    go_wp2
    go_ret
    exact ⟨by rw [HV.out]; rfl, hb0⟩
  by_cases h3 : 10 < sh
  · have HV : Hid (tkB qm I N sh er of = false) := tkB_no (by omega)
    clear bx
    go_enter Try.func44, Try.ntmps44
    go_wp2
    go_ret
    exact ⟨by rw [HV.out]; rfl, hb0⟩
  by_cases h4 : er < 0
  · have HV : Hid (tkB qm I N sh er of = false) := tkB_no (by omega)
    clear bx
    go_enter Try.func44, Try.ntmps44
    go_wp2
    go_ret
    exact ⟨by rw [HV.out]; rfl, hb0⟩
  by_cases h5 : 255 < er
  · have HV : Hid (tkB qm I N sh er of = false) := tkB_no (by omega)
    clear bx
    go_enter Try.func44, Try.ntmps44
    go_wp2
    go_ret
    exact ⟨by rw [HV.out]; rfl, hb0⟩
  have HI : Hid (tkB qm I N sh er of = (frsB I N qm && (of == (er == 255)))) := tkB_in ⟨by omega, by omega, by omega, by omega, by omega⟩
  have HFF : Hid (FrH w qa qm I A N C) := hF
  clear hF
  have x0 := bx.c0
  have xl := bx.lt
  go_enter Try.func44, Try.ntmps44
  go_upto_region 3 with fail
  generalize hW0 : w.alloc (tkO qa qm qc sh er of 51) = W0 at *
  clear hW0
  go_wp2
  clear x0 xl
  go_loopw [32] (fun i wr => ∃ k : Nat, k ≤ qm ∧ i = .int .i64 (k : Int) ∧ Hid (frsB I N k = true) ∧ Below W0.heap.size W0 wr) (fun i _ => qm - (intOf i).toNat)
  case atStart => exact ⟨0, Nat.zero_le _, rfl, (rfl : frsB I N 0 = true), Below.refl _ _⟩
  case round =>
    obtain ⟨k, hk, rfl, HE, hB⟩ := hrel
    have hBw := stepA hb0 hB
    have bx2 := bx.on hB
    by_cases hlt : k < qm
    · obtain ⟨b1, o1, rfl, l1, hc1⟩ := (HFF.out.below hBw) (by omega)
      have y0 := (hc1 k hlt).1
      have y1 := (hc1 k hlt).2
      have i0 : (0 : Int) ≤ (k : Int) := by omega
      have i1 : (k : Int) < (qm : Int) := by omega
      have HY : Hid (frB (I k) (N k) = true → frsB I N (k + 1) = true) := fun h => by rw [frsB, HE.out, h]; rfl
      have HN : Hid (frB (I k) (N k) = false → tkB qm I N sh er of = false) := fun h => by rw [HI.out, frsB_no hlt h]; rfl
      have kG := fun w2 => iGoodF (I k) (A k) (N k) (C k) w2
      clear hc1 HE
      generalize I k = X at *
      generalize A k = P at *
      generalize N k = Q at *
      generalize C k = Y at *
      have hbt : Below wr.heap.size wr (wr.alloc (frvO X P Q Y 54)) := (Below.refl _ _).alloc (Nat.le_refl _) _
      have b3 := bx_new (w := wr) (frvL X P Q Y) 54 rfl
      have z0 := b3.c0
      have z1 := b3.c1
      have hB3 := stepA hB hbt
      clear b3
      cases hg : frB X Q with
      | true =>
        rw [hg] at kG
        have HR : Hid (frsB I N (k + 1) = true) := HY.out hg
        clear HY HN bx2
        go_wp2_with fail
        refine (kG _).mono ?_
        rintro e w4 ⟨rfl, hb4⟩
        have hB4 := stepA hB3 hb4
        clear kG hb4 hB3 hbt
        go_wp2
        exact ⟨⟨k + 1, by omega, by go_num, HR, hB4⟩, by simp [intOf]; omega⟩
      | false =>
        rw [hg] at kG
        have HR : Hid (tkB qm I N sh er of = false) := HN.out hg
        clear HY HN bx2
        go_wp2_with fail
        refine (kG _).mono ?_
        rintro e w4 ⟨rfl, hb4⟩
        have hB4 := stepA hB3 hb4
        have hB5 := stepA hb0 hB4
        clear kG hb4 hB3 hbt
        go_wp2
        go_ret
        exact ⟨by rw [HR.out]; rfl, hB5⟩
    · have hke : k = qm := by omega
      have HV : Hid (tkB qm I N sh er of = (of == (er == 255))) := by
        show _ = _
        rw [HI.out, ← hke, HE.out, Bool.true_and]
      have i1 : ¬ (k : Int) < (qm : Int) := by omega
      have r2 := bx2.c2
      have r3 := bx2.c3
      have rl := bx2.lt
      clear hke HE
      go_wp2
      go_ret
      exact ⟨by rw [HV.out]; rfl, hBw⟩
set_option maxRecDepth 20000 in
set_option maxHeartbeats 4000000 in
theorem sTalker (qa : Option Addr) (qm qc : Nat) (I : Nat → Int) (A : Nat → Option Addr) (N C : Nat → Nat) (sh er : Int) (of : Bool) (w : World) (hm : qm ≤ 1048576) (hF : FrH w qa qm I A N C) :
    Calls Try.prog 33 #[tkv qa qm qc sh er of] w fun e w' => e = .returned (.bool (tkB qm I N sh er of)) ∧ Below w.heap.size w w' := by
  have hb0 : Below w.heap.size w (w.alloc (tkO qa qm qc sh er of 51)) := (Below.refl _ _).alloc (Nat.le_refl _) _
  have bx := bx_new (w := w) (tkL qa qm qc sh er of) 51 rfl
  by_cases h1 : 8 < qm
  · have HV : Hid (tkB qm I N sh er of = false) := tkB_no (by omega)
    have j1 : (8 : Int) < (qm : Int) := by omega
    clear bx
    go_enter Try.func33, Try.ntmps33
    go_wp2
    go_ret
    exact ⟨by rw [HV.out]; rfl, hb0⟩
  have j1 : ¬ (8 : Int) < (qm : Int) := by omega
  by_cases h2 : sh < 1
  · have HV : Hid (tkB qm I N sh er of = false) := tkB_no (by omega)
    clear bx
    go_enter Try.func33, Try.ntmps33
    go_wp2
    go_ret
    exact ⟨by rw [HV.out]; rfl, hb0⟩
  by_cases h3 : 10 < sh
  · have HV : Hid (tkB qm I N sh er of = false) := tkB_no (by omega)
    clear bx
    go_enter Try.func33, Try.ntmps33
    go_wp2
    go_ret
    exact ⟨by rw [HV.out]; rfl, hb0⟩
  by_cases h4 : er < 0
  · have HV : Hid (tkB qm I N sh er of = false) := tkB_no (by omega)
    clear bx
    go_enter Try.func33, Try.ntmps33
    go_wp2
    go_ret
    exact ⟨by rw [HV.out]; rfl, hb0⟩
  by_cases h5 : 255 < er
  · have HV : Hid (tkB qm I N sh er of = false) := tkB_no (by omega)
    clear bx
    go_enter Try.func33, Try.ntmps33
    go_wp2
    go_ret
    exact ⟨by rw [HV.out]; rfl, hb0⟩
  have HI : Hid (tkB qm I N sh er of = (frsB I N qm && (of == (er == 255)))) := tkB_in ⟨by omega, by omega, by omega, by omega, by omega⟩
  cases of with
  | true =>
    by_cases h9 : er = 255
    · subst h9
      have HO : Hid ((true == ((255 : Int) == 255)) = true) := (by decide : (true == ((255 : Int) == 255)) = true)
      have HFF : Hid (FrH w qa qm I A N C) := hF
      clear hF
      have x0 := bx.c0
      have xl := bx.lt
      go_enter Try.func33, Try.ntmps33
      go_upto_region 3 with fail
      generalize hW0 : w.alloc (tkO qa qm qc sh 255 true 51) = W0 at *
      clear hW0
      go_wp2
      clear x0 xl
      go_loopw [40] (fun i wr => ∃ k : Nat, k ≤ qm ∧ i = .int .i64 (k : Int) ∧ Hid (frsB I N k = true) ∧ Below W0.heap.size W0 wr) (fun i _ => qm - (intOf i).toNat)
      case atStart => exact ⟨0, Nat.zero_le _, rfl, (rfl : frsB I N 0 = true), Below.refl _ _⟩
      case round =>
        obtain ⟨k, hk, rfl, HE, hB⟩ := hrel
        have hBw := stepA hb0 hB
        have bx2 := bx.on hB
        by_cases hlt : k < qm
        · obtain ⟨b1, o1, rfl, l1, hc1⟩ := (HFF.out.below hBw) (by omega)
          have y0 := (hc1 k hlt).1
          have y1 := (hc1 k hlt).2
          have i0 : (0 : Int) ≤ (k : Int) := by omega
          have i1 : (k : Int) < (qm : Int) := by omega
          have HY : Hid (frB (I k) (N k) = true → frsB I N (k + 1) = true) := fun h => by rw [frsB, HE.out, h]; rfl
          have HN : Hid (frB (I k) (N k) = false → tkB qm I N sh (255 : Int) true = false) := fun h => by rw [HI.out, frsB_no hlt h]; rfl
          have kG := fun w2 => sGoodF (I k) (A k) (N k) (C k) w2
          clear hc1 HE
          generalize I k = X at *
          generalize A k = P at *
          generalize N k = Q at *
          generalize C k = Y at *
          have hbt : Below wr.heap.size wr (wr.alloc (frvO X P Q Y 54)) := (Below.refl _ _).alloc (Nat.le_refl _) _
          have b3 := bx_new (w := wr) (frvL X P Q Y) 54 rfl
          have z0 := b3.c0
          have z1 := b3.c1
          have hB3 := stepA hB hbt
          clear b3
          cases hg : frB X Q with
          | true =>
            rw [hg] at kG
            have HR : Hid (frsB I N (k + 1) = true) := HY.out hg
            clear HY HN bx2
            go_wp2_with fail
            refine (kG _).mono ?_
            rintro e w4 ⟨rfl, hb4⟩
            have hB4 := stepA hB3 hb4
            clear kG hb4 hB3 hbt
            go_wp2
            exact ⟨⟨k + 1, by omega, by go_num, HR, hB4⟩, by simp [intOf]; omega⟩
          | false =>
            rw [hg] at kG
            have HR : Hid (tkB qm I N sh (255 : Int) true = false) := HN.out hg
            clear HY HN bx2
            go_wp2_with fail
            refine (kG _).mono ?_
            rintro e w4 ⟨rfl, hb4⟩
            have hB4 := stepA hB3 hb4
            have hB5 := stepA hb0 hB4
            clear kG hb4 hB3 hbt
            go_wp2
            go_ret
            exact ⟨by rw [HR.out]; rfl, hB5⟩
        · have hke : k = qm := by omega
          have HV : Hid (tkB qm I N sh (255 : Int) true = (true == ((255 : Int) == 255))) := by
            show _ = _
            rw [HI.out, ← hke, HE.out, Bool.true_and]
          have i1 : ¬ (k : Int) < (qm : Int) := by omega
          have r2 := bx2.c2
          have r3 := bx2.c3
          have rl := bx2.lt
          clear hke HE
          go_wp2
          go_ret
          exact ⟨by rw [HV.out, HO.out]; rfl, hBw⟩
    · have h9' : (er == 255) = false := by simpa using h9
      have HO : Hid ((true == (er == 255)) = false) := (by rw [h9']; rfl : (true == (er == 255)) = false)
      have HV : Hid (tkB qm I N sh er true = false) := by
        show _ = _
        rw [HI.out, HO.out, Bool.and_false]
      clear bx HI HO
      go_enter Try.func33, Try.ntmps33
      go_wp2
      go_ret
      exact ⟨by rw [HV.out]; rfl, hb0⟩
  | false =>
    by_cases h9 : er = 255
    · subst h9
      have HO : Hid ((false == ((255 : Int) == 255)) = false) := (by decide : (false == ((255 : Int) == 255)) = false)
      have HV : Hid (tkB qm I N sh (255 : Int) false = false) := by
        show _ = _
        rw [HI.out, HO.out, Bool.and_false]
      clear bx HI HO
      go_enter Try.func33, Try.ntmps33
      go_wp2
      go_ret
      exact ⟨by rw [HV.out]; rfl, hb0⟩
    · have h9' : (er == 255) = false := by simpa using h9
      have HO : Hid ((false == (er == 255)) = true) := (by rw [h9']; rfl : (false == (er == 255)) = true)
      have HFF : Hid (FrH w qa qm I A N C) := hF
      clear hF
      have x0 := bx.c0
      have xl := bx.lt
      go_enter Try.func33, Try.ntmps33
      go_upto_region 3 with fail
      generalize hW0 : w.alloc (tkO qa qm qc sh er false 51) = W0 at *
      clear hW0
      go_wp2
      clear x0 xl
      go_loopw [40] (fun i wr => ∃ k : Nat, k ≤ qm ∧ i = .int .i64 (k : Int) ∧ Hid (frsB I N k = true) ∧ Below W0.heap.size W0 wr) (fun i _ => qm - (intOf i).toNat)
      case atStart => exact ⟨0, Nat.zero_le _, rfl, (rfl : frsB I N 0 = true), Below.refl _ _⟩
      case round =>
        obtain ⟨k, hk, rfl, HE, hB⟩ := hrel
        have hBw := stepA hb0 hB
        have bx2 := bx.on hB
        by_cases hlt : k < qm
        · obtain ⟨b1, o1, rfl, l1, hc1⟩ := (HFF.out.below hBw) (by omega)
          have y0 := (hc1 k hlt).1
          have y1 := (hc1 k hlt).2
          have i0 : (0 : Int) ≤ (k : Int) := by omega
          have i1 : (k : Int) < (qm : Int) := by omega
          have HY : Hid (frB (I k) (N k) = true → frsB I N (k + 1) = true) := fun h => by rw [frsB, HE.out, h]; rfl
          have HN : Hid (frB (I k) (N k) = false → tkB qm I N sh er false = false) := fun h => by rw [HI.out, frsB_no hlt h]; rfl
          have kG := fun w2 => sGoodF (I k) (A k) (N k) (C k) w2
          clear hc1 HE
          generalize I k = X at *
          generalize A k = P at *
          generalize N k = Q at *
          generalize C k = Y at *
          have hbt : Below wr.heap.size wr (wr.alloc (frvO X P Q Y 54)) := (Below.refl _ _).alloc (Nat.le_refl _) _
          have b3 := bx_new (w := wr) (frvL X P Q Y) 54 rfl
          have z0 := b3.c0
          have z1 := b3.c1
          have hB3 := stepA hB hbt
          clear b3
          cases hg : frB X Q with
          | true =>
            rw [hg] at kG
            have HR : Hid (frsB I N (k + 1) = true) := HY.out hg
            clear HY HN bx2
            go_wp2_with fail
            refine (kG _).mono ?_
            rintro e w4 ⟨rfl, hb4⟩
            have hB4 := stepA hB3 hb4
            clear kG hb4 hB3 hbt
            go_wp2
            exact ⟨⟨k + 1, by omega, by go_num, HR, hB4⟩, by simp [intOf]; omega⟩
          | false =>
            rw [hg] at kG
            have HR : Hid (tkB qm I N sh er false = false) := HN.out hg
            clear HY HN bx2
            go_wp2_with fail
            refine (kG _).mono ?_
            rintro e w4 ⟨rfl, hb4⟩
            have hB4 := stepA hB3 hb4
            have hB5 := stepA hb0 hB4
            clear kG hb4 hB3 hbt
            go_wp2
            go_ret
            exact ⟨by rw [HR.out]; rfl, hB5⟩
        · have hke : k = qm := by omega
          have HV : Hid (tkB qm I N sh er false = (false == (er == 255))) := by
            show _ = _
            rw [HI.out, ← hke, HE.out, Bool.true_and]
          have i1 : ¬ (k : Int) < (qm : Int) := by omega
          have r2 := bx2.c2
          have r3 := bx2.c3
          have rl := bx2.lt
          clear hke HE
          go_wp2
          go_ret
          exact ⟨by rw [HV.out, HO.out]; rfl, hBw⟩
end Go.Proofs.Ytldagjgpapnfpaa
