/- The contracts of both RootsOf functions. -/
import Derived.Test.YtgcnkecfdmafdaaPtStepS
import Derived.Test.YtgcnkecfdmafdaaPtGuessB
namespace Go.Proofs.Ytgcnkecfdmafdaa
open Go.RowKit

def oneB (x : Nat) : Bool := FloatKind.f64.format.order x 4607182418800017408 == some .eq
/-- a good polynomial of a degree from 1 on whose last coefficient is 1 -/
def monicG (f : Nat → Nat) (len : Nat) : Bool := (polyG f len && decide (2 ≤ len)) && oneB (f (len - 1))

set_option maxHeartbeats 1000000 in
theorem implMonic_any (a : Option Addr) (len cap : Nat) (f : Nat → Nat) (w : World) (h : FS w a len f) :
    Calls Try.prog 51 #[.slice a len cap] w fun e w' => e = .returned (.bool (monicG f len)) ∧ w' = w := by
  have hg := implPoly_any a len cap f w h
  unfold monicG
  obtain ⟨hl, hf, hc⟩ := h
  by_cases h1 : 2 ≤ len
  · have e1 : (2 : Int) ≤ (len : Int) := by omega
    obtain ⟨b, off, rfl, hbw, hcell⟩ := hc (by omega)
    have hck := hcell (len - 1) (by omega)
    have i0 : (0 : Int) ≤ (len : Int) - 1 := by omega
    have i1 : (len : Int) - 1 < (len : Int) := by omega
    clear hcell hc hf
    cases g1 : polyG f len with
    | false =>
      simp only [Bool.false_and]
      go_enter Try.func51, Try.ntmps51
      go_wp2_with (go_at_call 44; refine hg.mono ?_; rintro e w' ⟨rfl, rfl⟩)
      go_ret
      exact ⟨rfl, rfl⟩
    | true =>
      simp only [h1, decide_true, Bool.true_and]
      unfold oneB
      go_enter Try.func51, Try.ntmps51
      go_wp2_with (go_at_call 44; refine hg.mono ?_; rintro e w' ⟨rfl, rfl⟩)
      go_ret
      exact ⟨rfl, rfl⟩
  · have e1 : ¬ (2 : Int) ≤ (len : Int) := by omega
    simp only [h1, decide_false, Bool.and_false, Bool.false_and]
    clear hc hf
    cases g1 : polyG f len
    all_goals
      go_enter Try.func51, Try.ntmps51
      go_wp2_with (go_at_call 44; refine hg.mono ?_; rintro e w' ⟨rfl, rfl⟩)
      go_ret
      exact ⟨rfl, rfl⟩

set_option maxHeartbeats 1000000 in
theorem specMonic_any (a : Option Addr) (len cap : Nat) (f : Nat → Nat) (w : World) (h : FS w a len f) :
    Calls Try.prog 48 #[.slice a len cap] w fun e w' => e = .returned (.bool (monicG f len)) ∧ w' = w := by
  have hg := specPoly_any a len cap f w h
  unfold monicG
  obtain ⟨hl, hf, hc⟩ := h
  by_cases h1 : 2 ≤ len
  · have e1 : (2 : Int) ≤ (len : Int) := by omega
    obtain ⟨b, off, rfl, hbw, hcell⟩ := hc (by omega)
    have hck := hcell (len - 1) (by omega)
    have i0 : (0 : Int) ≤ (len : Int) - 1 := by omega
    have i1 : (len : Int) - 1 < (len : Int) := by omega
    clear hcell hc hf
    cases g1 : polyG f len with
    | false =>
      simp only [Bool.false_and]
      go_enter Try.func48, Try.ntmps48
      go_wp2_with (go_at_call 42; refine hg.mono ?_; rintro e w' ⟨rfl, rfl⟩)
      go_ret
      exact ⟨rfl, rfl⟩
    | true =>
      simp only [h1, decide_true, Bool.true_and]
      unfold oneB
      go_enter Try.func48, Try.ntmps48
      go_wp2_with (go_at_call 42; refine hg.mono ?_; rintro e w' ⟨rfl, rfl⟩)
      go_ret
      exact ⟨rfl, rfl⟩
  · have e1 : ¬ (2 : Int) ≤ (len : Int) := by omega
    simp only [h1, decide_false, Bool.and_false, Bool.false_and]
    clear hc hf
    cases g1 : polyG f len
    all_goals
      go_enter Try.func48, Try.ntmps48
      go_wp2_with (go_at_call 42; refine hg.mono ?_; rintro e w' ⟨rfl, rfl⟩)
      go_ret
      exact ⟨rfl, rfl⟩

/-- many steps -/
def itr (sp : Bool) (f : Nat → Nat) (len n : Nat) (X Y : Nat → Nat) : Nat → Option ((Nat → Nat) × (Nat → Nat))
  | 0 => some (X, Y)
  | k + 1 => (itr sp f len n X Y k).bind fun z => stp sp f len n z.1 z.2 n
theorem itr_none {sp : Bool} {f : Nat → Nat} {len n : Nat} {X Y : Nat → Nat} {k m : Nat} (h : itr sp f len n X Y k = none) (hm : k ≤ m) : itr sp f len n X Y m = none := by
  induction m with
  | zero => have : k = 0 := by omega
            subst this; exact h
  | succ m ih =>
    by_cases e : k = m + 1
    · subst e; exact h
    · simp [itr, ih (by omega)]
theorem both_itr {f : Nat → Nat} {len n : Nat} {X Y Xs Ys : Nat → Nat} (hX : Pln n X Xs) (hY : Pln n Y Ys) (k : Nat) :
    (itr false f len n X Y k = none ∧ itr true f len n Xs Ys k = none) ∨ ∃ z zs, itr false f len n X Y k = some z ∧ itr true f len n Xs Ys k = some zs ∧ Pln n z.1 zs.1 ∧ Pln n z.2 zs.2 := by
  induction k with
  | zero => exact .inr ⟨_, _, rfl, rfl, hX, hY⟩
  | succ k ih =>
    rcases ih with ⟨h1, h2⟩ | ⟨z, zs, h1, h2, p1, p2⟩
    · exact .inl ⟨by simp [itr, h1], by simp [itr, h2]⟩
    · simp only [itr, h1, h2, Option.bind_some]
      exact both_stp p1 p2 n (Nat.le_refl _)

/-- an answer: points and true, or none and false -/
def Ans (w w' : World) (e : Ending) (n : Nat) (o : Option ((Nat → Nat) × (Nat → Nat))) : Prop :=
  (o = none ∧ e = .returned (.tuple #[.slice none 0 0, .bool false])) ∨ ∃ z b cap, o = some z ∧ e = .returned (.tuple #[.slice (some ⟨b, 0, none⟩) n cap, .bool true]) ∧ w.heap.size ≤ b ∧ PS w' b n z.1 z.2 ∧ ∀ i, i < n → z.1 i < 18446744073709551616 ∧ z.2 i < 18446744073709551616

theorem g_pln {n : Nat} (hn : n ≤ 10) : Pln n gX gX ∧ Pln n gY gY := ⟨fun i hi => (g_all i (by omega)).2.2.1, fun i hi => (g_all i (by omega)).2.2.2.1⟩
theorem monic_len {f : Nat → Nat} {len : Nat} (h : monicG f len = true) : 2 ≤ len ∧ len ≤ 11 := by
  unfold monicG polyG at h
  simp only [Bool.and_eq_true, decide_eq_true_eq] at h
  omega

set_option maxHeartbeats 2000000 in
theorem implRoots_in (a : Option Addr) (len cap : Nat) (f : Nat → Nat) (s : Nat) (w : World) (h : FS w a len f) (hm : monicG f len = true) (hs : s ≤ 60) :
    Calls Try.prog 30 #[.slice a len cap, .int .i64 (s : Int)] w fun e w' => Ans w w' e (len - 1) (itr true f len (len - 1) gX gY s) ∧ Below w.heap.size w w' := by
  have hg := implMonic_any a len cap f w h
  rw [hm] at hg
  obtain ⟨hl2, hl11⟩ := monic_len hm
  clear hm
  have j1 : ¬ (s : Int) < 0 := by omega
  have j2 : ¬ (60 : Int) < (s : Int) := by omega
  have hlen : (len : Int) - 1 = ((len - 1 : Nat) : Int) := by omega
  have hfc := firstComplex_any (len - 1) w (by omega) (by omega)
  rw [← hlen] at hfc
  clear hlen
  go_enter Try.func30, Try.ntmps30
  go_wp2_with (go_at_call 51; refine hg.mono ?_; rintro e w' ⟨rfl, hw'⟩; have hs' := hw'.symm; clear hw'; subst hs')
  refine hfc.mono ?_
  rintro e w1 ⟨rfl, hrow, hB⟩
  clear hfc hg
  have HROW : Hid (w1.rowIs w.heap.size 54 (len - 1) (cRow gX gY)) := hrow
  have HB : Hid (Below w.heap.size w w1) := hB
  clear hrow hB
  go_wp2
  go_loopw [23] (fun i wr => ∃ (k : Nat) (z : (Nat → Nat) × (Nat → Nat)), k ≤ s ∧ i = .int .i64 k ∧ itr false f len (len - 1) gX gY k = some z ∧ (∀ j, j < len - 1 → z.1 j < 18446744073709551616 ∧ z.2 j < 18446744073709551616) ∧ wr.rowIs w.heap.size 54 (len - 1) (cRow z.1 z.2) ∧ Below w.heap.size w wr) (fun i _ => s - (intOf i).toNat)
  case atStart => exact ⟨0, (gX, gY), Nat.zero_le _, rfl, rfl, fun j hj => (g_all j (by omega)).2.2.2.2, HROW.out, HB.out⟩
  case round =>
    obtain ⟨k, z, hk, rfl, hz, hzb, hrow, hB⟩ := hrel
    have HZ : Hid (itr false f len (len - 1) gX gY k = some z) := hz
    clear hz HROW HB
    by_cases hlt : k < s
    · have i1 : (k : Int) < (s : Int) := by omega
      go_wp2_with fail
      refine (stepRoots_any a len cap f w.heap.size (len - 1) (len - 1) z.1 z.2 _ (fun w' hw' => h.below (hB.trans hw')) (by omega) hzb hrow).mono ?_
      rintro e w2 ⟨t, X', Y', rfl, hrow2, hb2, hres⟩
      have hB2 := hB.trans hb2
      clear hb2 hrow hB hzb
      rcases hres with ⟨hno, rfl⟩ | ⟨rfl, hsome, hXb⟩
      · go_wp2
        go_ret2
        refine ⟨.inl ⟨?_, rfl⟩, hB2⟩
        rcases both_itr (f := f) (len := len) (g_pln (n := len - 1) (by omega)).1 (g_pln (n := len - 1) (by omega)).2 (k + 1) with ⟨-, e2⟩ | ⟨z', zs, e1, -, -, -⟩
        · exact itr_none e2 hlt
        · simp [itr, HZ.out, hno] at e1
      · go_wp2
        exact ⟨⟨k + 1, (X', Y'), by omega, by go_num, by simp [itr, HZ.out, hsome], hXb, hrow2, hB2⟩, by simp [intOf]; omega⟩
    · have hke : k = s := by omega
      subst hke
      have i1 : ¬ (k : Int) < (k : Int) := by omega
      go_wp2_with fail
      refine (tellPoints_any w.heap.size (len - 1) (len - 1) z.1 z.2 _ (by omega) hrow).mono ?_
      rintro e w3 ⟨rfl, hP, hb3⟩
      have hB3 := hB.trans (hb3.mono hB.size)
      have hbs := hB.size
      clear hb3 hrow hB
      go_wp2
      go_ret2
      refine ⟨.inr ?_, hB3⟩
      rcases both_itr (f := f) (len := len) (g_pln (n := len - 1) (by omega)).1 (g_pln (n := len - 1) (by omega)).2 k with ⟨e1, -⟩ | ⟨z', zs, e1, e2, p1, p2⟩
      · rw [HZ.out] at e1; cases e1
      · rw [HZ.out] at e1
        cases e1
        refine ⟨zs, _, _, e2, rfl, hbs, hP.congr fun i hi => ⟨p1 i hi, p2 i hi⟩, fun i hi => ?_⟩
        rw [← p1 i hi, ← p2 i hi]
        exact ⟨plain_lt (hzb i hi).1, plain_lt (hzb i hi).2⟩

set_option maxHeartbeats 2000000 in
theorem specRoots_in (a : Option Addr) (len cap : Nat) (f : Nat → Nat) (s : Nat) (w : World) (h : FS w a len f) (hm : monicG f len = true) (hs : s ≤ 60) :
    Calls Try.prog 29 #[.slice a len cap, .int .i64 (s : Int)] w fun e w' => Ans w w' e (len - 1) (itr true f len (len - 1) gX gY s) ∧ Below w.heap.size w w' := by
  have hg := specMonic_any a len cap f w h
  rw [hm] at hg
  obtain ⟨hl2, hl11⟩ := monic_len hm
  clear hm
  have j1 : ¬ (s : Int) < 0 := by omega
  have j2 : ¬ (60 : Int) < (s : Int) := by omega
  have hlen : (len : Int) - 1 = ((len - 1 : Nat) : Int) := by omega
  have hfc := specFirst_in (len - 1) w (by omega) (by omega)
  rw [← hlen] at hfc
  clear hlen
  go_enter Try.func29, Try.ntmps29
  go_wp2_with (go_at_call 48; refine hg.mono ?_; rintro e w' ⟨rfl, hw'⟩; have hs' := hw'.symm; clear hw'; subst hs')
  refine hfc.mono ?_
  rintro e w1 ⟨g, gc, rfl, hgs, hP, hB⟩
  clear hfc hg
  have HPS : Hid (PS w1 g (len - 1) gX gY) := hP
  have HB : Hid (Below w.heap.size w w1) := hB
  clear hP hB
  go_wp2
  go_loopw [1] (fun i wr => ∃ (k : Nat) (z : (Nat → Nat) × (Nat → Nat)), k ≤ s ∧ i = .int .i64 ((s : Int) - (k : Int)) ∧ itr true f len (len - 1) gX gY k = some z ∧ (∀ j, j < len - 1 → z.1 j < 18446744073709551616 ∧ z.2 j < 18446744073709551616) ∧ PS wr g (len - 1) z.1 z.2 ∧ Below w.heap.size w wr) (fun i _ => (intOf i).toNat)
  case atStart => exact ⟨0, (gX, gY), Nat.zero_le _, by simp, rfl, fun j hj => (g_all j (by omega)).2.2.2.2, HPS.out, HB.out⟩
  case round =>
    obtain ⟨k, z, hk, rfl, hz, hzb, hP, hB⟩ := hrel
    have HZ : Hid (itr true f len (len - 1) gX gY k = some z) := hz
    clear hz HPS HB
    by_cases hlt : k < s
    · have i1 : (0 : Int) < (s : Int) - (k : Int) := by omega
      go_wp2_with fail
      refine (l3Step_any a len cap f g (len - 1) _ z.1 z.2 _ (fun w' hw' => h.below (hB.trans (hw'.mono hgs))) (by omega) hzb hP).mono ?_
      rintro e w2 ⟨t, X', Y', rfl, hP2, hb2, hres⟩
      have hB2 := hB.trans (hb2.mono hgs)
      clear hb2 hP hB hzb
      rcases hres with ⟨hno, rfl⟩ | ⟨rfl, hsome, hXb⟩
      · go_wp2
        go_ret2
        exact ⟨.inl ⟨itr_none (k := k + 1) (by simp [itr, HZ.out, hno]) hlt, rfl⟩, hB2⟩
      · go_wp2
        exact ⟨⟨k + 1, (X', Y'), by omega, by go_num, by simp [itr, HZ.out, hsome], hXb, hP2, hB2⟩, by simp [intOf]; omega⟩
    · have hke : k = s := by omega
      subst hke
      have i1 : ¬ (0 : Int) < (k : Int) - (k : Int) := by omega
      go_wp2
      go_ret2
      exact ⟨.inr ⟨z, g, _, HZ.out, rfl, hgs, hP, hzb⟩, hB⟩

set_option maxHeartbeats 1000000 in
theorem implRoots_out (a : Option Addr) (len cap : Nat) (f : Nat → Nat) (s : Int) (w : World) (h : FS w a len f) (hm : monicG f len = false ∨ s < 0 ∨ 60 < s) :
    Calls Try.prog 30 #[.slice a len cap, .int .i64 s] w fun e w' => e = .returned (.tuple #[.slice none 0 0, .bool false]) ∧ w' = w := by
  have hg := implMonic_any a len cap f w h
  clear h
  cases g1 : monicG f len with
  | false =>
    rw [g1] at hg
    go_enter Try.func30, Try.ntmps30
    go_wp2_with (go_at_call 51; refine hg.mono ?_; rintro e w' ⟨rfl, rfl⟩)
    go_ret2
    exact ⟨rfl, rfl⟩
  | true =>
    rw [g1] at hg hm
    by_cases h1 : s < 0
    · go_enter Try.func30, Try.ntmps30
      go_wp2_with (go_at_call 51; refine hg.mono ?_; rintro e w' ⟨rfl, rfl⟩)
      go_ret2
      exact ⟨rfl, rfl⟩
    · have h2 : 60 < s := by
        rcases hm with h | h | h
        · cases h
        · exact absurd h h1
        · exact h
      go_enter Try.func30, Try.ntmps30
      go_wp2_with (go_at_call 51; refine hg.mono ?_; rintro e w' ⟨rfl, rfl⟩)
      go_ret2
      exact ⟨rfl, rfl⟩

set_option maxHeartbeats 1000000 in
theorem specRoots_out (a : Option Addr) (len cap : Nat) (f : Nat → Nat) (s : Int) (w : World) (h : FS w a len f) (hm : monicG f len = false ∨ s < 0 ∨ 60 < s) :
    Calls Try.prog 29 #[.slice a len cap, .int .i64 s] w fun e w' => e = .returned (.tuple #[.slice none 0 0, .bool false]) ∧ w' = w := by
  have hg := specMonic_any a len cap f w h
  clear h
  cases g1 : monicG f len with
  | false =>
    rw [g1] at hg
    go_enter Try.func29, Try.ntmps29
    go_wp2_with (go_at_call 48; refine hg.mono ?_; rintro e w' ⟨rfl, rfl⟩)
    go_ret2
    exact ⟨rfl, rfl⟩
  | true =>
    rw [g1] at hg hm
    by_cases h1 : s < 0
    · go_enter Try.func29, Try.ntmps29
      go_wp2_with (go_at_call 48; refine hg.mono ?_; rintro e w' ⟨rfl, rfl⟩)
      go_ret2
      exact ⟨rfl, rfl⟩
    · have h2 : 60 < s := by
        rcases hm with h | h | h
        · cases h
        · exact absurd h h1
        · exact h
      go_enter Try.func29, Try.ntmps29
      go_wp2_with (go_at_call 48; refine hg.mono ?_; rintro e w' ⟨rfl, rfl⟩)
      go_ret2
      exact ⟨rfl, rfl⟩

/-- the answer of RootsOf -/
def rootsA (f : Nat → Nat) (len : Nat) (s : Int) : Option ((Nat → Nat) × (Nat → Nat)) := if monicG f len = true ∧ 0 ≤ s ∧ s ≤ 60 then itr true f len (len - 1) gX gY s.toNat else none
theorem implRoots_any (a : Option Addr) (len cap : Nat) (f : Nat → Nat) (s : Int) (w : World) (h : FS w a len f) :
    Calls Try.prog 30 #[.slice a len cap, .int .i64 s] w fun e w' => Ans w w' e (len - 1) (rootsA f len s) ∧ Below w.heap.size w w' := by
  unfold rootsA
  by_cases hc : monicG f len = true ∧ 0 ≤ s ∧ s ≤ 60
  · rw [if_pos hc]
    obtain ⟨q, rfl⟩ := Int.eq_ofNat_of_zero_le hc.2.1
    have := implRoots_in a len cap f q w h hc.1 (by omega)
    simpa using this
  · rw [if_neg hc]
    refine (implRoots_out a len cap f s w h ?_).mono fun e w' he => ?_
    · cases g : monicG f len with
      | false => exact .inl rfl
      | true =>
        right
        have hc' : ¬ (0 ≤ s ∧ s ≤ 60) := fun q => hc ⟨g, q⟩
        omega
    · obtain ⟨he, rfl⟩ := he
      exact ⟨.inl ⟨rfl, he⟩, Below.refl _ _⟩
theorem specRoots_any (a : Option Addr) (len cap : Nat) (f : Nat → Nat) (s : Int) (w : World) (h : FS w a len f) :
    Calls Try.prog 29 #[.slice a len cap, .int .i64 s] w fun e w' => Ans w w' e (len - 1) (rootsA f len s) ∧ Below w.heap.size w w' := by
  unfold rootsA
  by_cases hc : monicG f len = true ∧ 0 ≤ s ∧ s ≤ 60
  · rw [if_pos hc]
    obtain ⟨q, rfl⟩ := Int.eq_ofNat_of_zero_le hc.2.1
    have := specRoots_in a len cap f q w h hc.1 (by omega)
    simpa using this
  · rw [if_neg hc]
    refine (specRoots_out a len cap f s w h ?_).mono fun e w' he => ?_
    · cases g : monicG f len with
      | false => exact .inl rfl
      | true =>
        right
        have hc' : ¬ (0 ≤ s ∧ s ≤ 60) := fun q => hc ⟨g, q⟩
        omega
    · obtain ⟨he, rfl⟩ := he
      exact ⟨.inl ⟨rfl, he⟩, Below.refl _ _⟩
end Go.Proofs.Ytgcnkecfdmafdaa
