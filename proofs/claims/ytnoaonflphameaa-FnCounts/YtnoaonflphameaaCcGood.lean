/- Which counts are good, as both say it. -/
import Derived.Test.YtnoaonflphameaaCcBase
import Derived.Test.YtnoaonflphameaaSzBase
namespace Go.Proofs.Ytnoaonflphameaa
open Go.RowKit
def okB (x : Int) : Bool := decide (0 ≤ x) && decide (x ≤ 1000000)
/-- are the first k numbers counts -/
def allB (f : Nat → Int) : Nat → Bool
  | 0 => true
  | k + 1 => allB f k && okB (f k)
theorem allB_at {f : Nat → Int} {n i : Nat} (h : allB f n = true) (hi : i < n) : 0 ≤ f i ∧ f i ≤ 1000000 := by
  induction n with
  | zero => omega
  | succ n ih =>
    simp only [allB, Bool.and_eq_true] at h
    by_cases e : i = n
    · subst e
      simpa [okB] using h.2
    · exact ih h.1 (by omega)
theorem allB_not {f : Nat → Int} {n i : Nat} (hi : i < n) (h : okB (f i) = false) : allB f n = false := by
  cases e : allB f n with
  | false => rfl
  | true =>
    have := allB_at e hi
    have : okB (f i) = true := by simp [okB, this]
    rw [h] at this; cases this
/-- are counts good -/
def cntB (W : Int) (n : Nat) (f : Nat → Int) (m : Nat) (g : Nat → Int) : Bool := sizedB W n && decide (m = n) && allB f n && allB g n

set_option maxHeartbeats 1000000 in
theorem goodSeen_any (a : Option Addr) (n c : Nat) (f : Nat → Int) (w : World) (hn : n ≤ 1048576) (h : IL w a n f) :
    Calls Try.prog 64 #[.slice a n c] w fun e w' => e = .returned (.bool (allB f n)) ∧ w' = w := by
  go_enter Try.func64, Try.ntmps64
  go_wp2
  go_loopw [7] (fun i wr => ∃ k : Nat, k ≤ n ∧ i = .int .i64 k ∧ allB f k = true ∧ wr = w) (fun i _ => n - (intOf i).toNat)
  case atStart => exact ⟨0, Nat.zero_le _, rfl, rfl, rfl⟩
  case round =>
    obtain ⟨k, hk, rfl, hall, hw⟩ := hrel
    subst hw
    by_cases hlt : k < n
    · obtain ⟨b, off, rfl, hb, hc⟩ := h (by omega)
      have x0 := hc k hlt
      have j1 : (k : Int) < (n : Int) := by omega
      have hno : okB (f k) = false → allB f n = false := allB_not hlt
      have hyes : okB (f k) = true → allB f (k + 1) = true := fun q => by simp [allB, hall, q]
      clear h hc
      generalize f k = x at x0 hno hyes
      by_cases c0 : x < 0
      · have h0 := hno (by simp [okB]; omega)
        go_wp2
        go_ret
        first | exact ⟨ret_bool h0.symm, rfl⟩ | exact ⟨rfl, rfl⟩
      by_cases c1 : 1000000 < x
      · have h0 := hno (by simp [okB]; omega)
        go_wp2
        go_ret
        first | exact ⟨ret_bool h0.symm, rfl⟩ | exact ⟨rfl, rfl⟩
      have h0 := hyes (by simp [okB]; omega)
      go_wp2
      exact ⟨⟨k + 1, by omega, by go_num, h0, trivial⟩, by simp [intOf]; omega⟩
    · have hke : k = n := by omega
      subst hke
      clear h
      go_wp2
      go_ret
      exact ⟨ret_bool hall.symm, rfl⟩

theorem cntB_parts {W : Int} {n m : Nat} {f g : Nat → Int} (h : cntB W n f m g = true) : sizedB W n = true ∧ m = n ∧ allB f n = true ∧ allB g n = true := by
  simpa [cntB, and_assoc] using h

theorem keepU {w w' : World} {b1 b2 : Nat} {u v x y z : Value} (h1 : Bx w b1 [u, v]) (h2 : Bx w b2 [x, y, z]) (k : Below w.heap.size w w') :
    w'.cell? ⟨b1, 0, none⟩ = some u ∧ w'.cell? ⟨b1, 1, none⟩ = some v ∧ w'.cell? ⟨b2, 1, none⟩ = some y ∧ w'.cell? ⟨b2, 2, none⟩ = some z :=
  ⟨(h1.on k).c0, (h1.on k).c1, (h2.on k).c1, (h2.on k).c2⟩
theorem keepV {w : World} {b1 b2 b' k k' : Nat} {u v x y z p q : Value} (h1 : Bx w b1 [u, v]) (h2 : Bx w b2 [x, y, z]) (n1 : b1 ≠ b') (n2 : b2 ≠ b') :
    ((w.setCell ⟨b', k, none⟩ p).setCell ⟨b', k', none⟩ q).drew.cell? ⟨b1, 0, none⟩ = some u ∧ ((w.setCell ⟨b', k, none⟩ p).setCell ⟨b', k', none⟩ q).drew.cell? ⟨b1, 1, none⟩ = some v ∧ ((w.setCell ⟨b', k, none⟩ p).setCell ⟨b', k', none⟩ q).drew.cell? ⟨b2, 1, none⟩ = some y ∧ ((w.setCell ⟨b', k, none⟩ p).setCell ⟨b', k', none⟩ q).drew.cell? ⟨b2, 2, none⟩ = some z :=
  ⟨((h1.far p n1).far q n1).c0, ((h1.far p n1).far q n1).c1, ((h2.far p n2).far q n2).c1, ((h2.far p n2).far q n2).c2⟩
/-- what sidesOf tells of -/
def sof (W : Int) (n m : Nat) : Int × Int := if sizedB W n = true ∧ m = n then (W, hgt W n) else (0, 0)
theorem sof_t {W : Int} {n m : Nat} {f g : Nat → Int} (h : cntB W n f m g = true) : sof W n m = (W, hgt W n) := by
  obtain ⟨h1, h2, _⟩ := cntB_parts h
  unfold sof
  rw [if_pos ⟨h1, h2⟩]
set_option maxHeartbeats 2000000 in
theorem sidesOf_any (W : Int) (a b : Option Addr) (n c m d : Nat) (f g : Nat → Int) (w : World) (hn : n ≤ 1048576) (hm : m ≤ 1048576) (hf : IL w a n f) (hg : IL w b m g) :
    Calls Try.prog 31 #[cnt W a n c b m d] w fun e w' => e = .returned (.tuple #[sd (sof W n m).1 (sof W n m).2, .bool (cntB W n f m g)]) ∧ Below w.heap.size w w' := by
  have hov := over_any W n ((w.alloc (cntO W a n c b m d 25)).alloc (.cells #[.int .i64 0, .int .i64 0] 67)) hn
  have bA0 := (bx_new (w := w) (cntL W a n c b m d) 25 rfl).alloc (.cells #[.int .i64 0, .int .i64 0] 67)
  have bR0 := bx_new (w := w.alloc (cntO W a n c b m d 25)) (b := w.heap.size + 1) [.int .i64 0, .int .i64 0] 67 (by simp)
  have hoE' : sizedB W n = true → ovr W n = (W, hgt W n) := ovr_t
  generalize ovr W n = o at hov hoE'
  cases hs : sizedB W n with
  | false =>
    have he : cntB W n f m g = false := by simp [cntB, hs]
    have ho : sof W n m = (0, 0) := by unfold sof; rw [if_neg (by rw [hs]; simp)]
    rw [he, ho]
    rw [hs] at hov
    clear hoE'
    go_enter Try.func31, Try.ntmps31
    go_wp2_with fail
    refine hov.mono ?_
    rintro e w1 ⟨rfl, hb1⟩
    have hB := below_al (below_al hb1)
    have l1 := (bR0.on hb1).lt
    have r0 := (bR0.on hb1).c0
    have r1 := (bR0.on hb1).c1
    have r2 := (bR0.on hb1).fz 0
    have r3 := (bR0.on hb1).fz 1
    have bE := (((bR0.on hb1).set 0 (by simp) (.int .i64 0)).set 1 (by simp) (.int .i64 0)).alloc (.cells #[.int .i64 o.1, .int .i64 o.2] 67)
    have hBE := ((hB.setCell (p := ⟨w.heap.size + 1, 0, none⟩) (by simp) (.int .i64 0)).setCell (p := ⟨w.heap.size + 1, 1, none⟩) (by simp) (.int .i64 0)).alloc (by simp only [size_set]; exact hB.size) (.cells #[.int .i64 o.1, .int .i64 o.2] 67)
    clear hov bA0 bR0 hb1 hB
    go_wp2
    refine ret_sd_tmp Try.results31 rfl bE.c0 bE.c1 rfl ?_
    exact ⟨rfl, hBE⟩
  | true =>
    rw [hs] at hov
    have hoE := hoE' hs
    clear hoE'
    obtain ⟨o1, o2⟩ := o
    by_cases hmn : m = n
    · have ho : sof W n m = (W, hgt W n) := by unfold sof; rw [if_pos ⟨hs, hmn⟩]
      have hoo : (o1, o2) = (W, hgt W n) := hoE
      have e1 : o1 = (sof W n m).1 := by rw [ho, ← hoo]
      have e2 : o2 = (sof W n m).2 := by rw [ho, ← hoo]
      rw [← e1, ← e2]
      clear ho hoo e1 e2 hoE
      cases hF : allB f n with
      | false =>
        have he : cntB W n f m g = false := by simp [cntB, hF]
        rw [he]
        have jn : ((m : Int) != (n : Int)) = false := by simp; omega
        clear he hmn
        go_enter Try.func31, Try.ntmps31
        go_wp2_with fail
        refine hov.mono ?_
        rintro e w1 ⟨rfl, hb1⟩
        have bR := (bR0.on hb1).alloc (.cells #[.int .i64 o1, .int .i64 o2] 67)
        have bA := (bA0.on hb1).alloc (.cells #[.int .i64 o1, .int .i64 o2] 67)
        have bS := bx_new (w := w1) (b := w1.heap.size) [.int .i64 o1, .int .i64 o2] 67 rfl
        have hB2 := (below_al (below_al hb1)).alloc (below_al (below_al hb1)).size (.cells #[.int .i64 o1, .int .i64 o2] 67)
        have l1 := (bR0.on hb1).lt
        have l2 := (bA0.on hb1).lt
        have x1 := (bA0.on hb1).c1
        have x2 := (bA0.on hb1).c2
        go_upto_region 4 with fail
        clear hov bA0 bR0 hb1 x1 x2
        have hne : w1.heap.size ≠ w.heap.size + 1 := Nat.ne_of_gt l1
        have hne2 : w.heap.size ≠ w.heap.size + 1 := by omega
        generalize w1.alloc (.cells #[.int .i64 o1, .int .i64 o2] 67) = W2 at bR bA bS hB2 ⊢
        have hw0 := Below.refl W2.heap.size W2
        have r0 := bR.c0
        have r1 := bR.c1
        have r2 := bR.fz 0
        have r3 := bR.fz 1
        have x1 := bA.c1
        have x2 := bA.c2
        have s0 := bS.c0
        have s1 := bS.c1
        have bE := ((bR.set 0 (by simp) (.int .i64 o1)).set 1 (by simp) (.int .i64 o2))
        have hBE := ((hB2.setCell (p := ⟨w.heap.size + 1, 0, none⟩) (by simp) (.int .i64 o1)).setCell (p := ⟨w.heap.size + 1, 1, none⟩) (by simp) (.int .i64 o2))
        first | (go_region_with ((go_at_call_of 64 a; refine (goodSeen_any a n c f _ hn (by first | exact hf.below hB2 | exact hf.below hB2.drew)).mono ?_; rw [hF]; rintro e w' ⟨rfl, hw'⟩; have hs' := hw'.symm; clear hw'; subst hs'))) | (fail)
        all_goals
          go_wp2
          refine ret_sd_tmp (u := .int .i64 o1) (v := .int .i64 o2) Try.results31 rfl bE.c0 bE.c1 rfl ?_
          exact ⟨rfl, below_dr hBE 1⟩
      | true =>
        have he : cntB W n f m g = allB g m := by simp [cntB, hF, hs, hmn]
        rw [he]
        have jn : ((m : Int) != (n : Int)) = false := by simp; omega
        clear he hmn
        go_enter Try.func31, Try.ntmps31
        go_wp2_with fail
        refine hov.mono ?_
        rintro e w1 ⟨rfl, hb1⟩
        have bR := (bR0.on hb1).alloc (.cells #[.int .i64 o1, .int .i64 o2] 67)
        have bA := (bA0.on hb1).alloc (.cells #[.int .i64 o1, .int .i64 o2] 67)
        have bS := bx_new (w := w1) (b := w1.heap.size) [.int .i64 o1, .int .i64 o2] 67 rfl
        have hB2 := (below_al (below_al hb1)).alloc (below_al (below_al hb1)).size (.cells #[.int .i64 o1, .int .i64 o2] 67)
        have l1 := (bR0.on hb1).lt
        have l2 := (bA0.on hb1).lt
        have x1 := (bA0.on hb1).c1
        have x2 := (bA0.on hb1).c2
        go_upto_region 4 with fail
        clear hov bA0 bR0 hb1 x1 x2
        have hne : w1.heap.size ≠ w.heap.size + 1 := Nat.ne_of_gt l1
        have hne2 : w.heap.size ≠ w.heap.size + 1 := by omega
        generalize w1.alloc (.cells #[.int .i64 o1, .int .i64 o2] 67) = W2 at bR bA bS hB2 ⊢
        have hw0 := Below.refl W2.heap.size W2
        have r0 := bR.c0
        have r1 := bR.c1
        have r2 := bR.fz 0
        have r3 := bR.fz 1
        have x1 := bA.c1
        have x2 := bA.c2
        have s0 := bS.c0
        have s1 := bS.c1
        have bE := ((bR.set 0 (by simp) (.int .i64 o1)).set 1 (by simp) (.int .i64 o2))
        have hBE := ((hB2.setCell (p := ⟨w.heap.size + 1, 0, none⟩) (by simp) (.int .i64 o1)).setCell (p := ⟨w.heap.size + 1, 1, none⟩) (by simp) (.int .i64 o2))
        go_region_held3 (fun w' => w'.cell? ⟨w1.heap.size, 0, none⟩ = some (.int .i64 o1) ∧ w'.cell? ⟨w1.heap.size, 1, none⟩ = some (.int .i64 o2) ∧ w'.cell? ⟨w.heap.size, 1, none⟩ = some (.slice a n c) ∧ w'.cell? ⟨w.heap.size, 2, none⟩ = some (.slice b m d))
          (first | (exact keepU bS bA hw0.drew) | (exact keepV bS bA hne hne2) | (fail))
          (first | (go_at_call_of 64 a; refine (goodSeen_any a n c f _ hn (by first | exact hf.below hB2 | exact hf.below hB2.drew)).mono ?_; rw [hF]; rintro e w' ⟨rfl, hw'⟩; have hs' := hw'.symm; clear hw'; subst hs') | (go_at_call_of 64 b; refine (goodSeen_any b m d g _ hm (by first | exact hg.below hB2 | exact hg.below hB2.drew)).mono ?_; rintro e w' ⟨rfl, hw'⟩; have hs' := hw'.symm; clear hw'; subst hs'))
        go_wp2
        refine ret_sd_tmp (u := .int .i64 o1) (v := .int .i64 o2) Try.results31 rfl bE.c0 bE.c1 rfl ?_
        exact ⟨rfl, below_dr hBE 1⟩
    · have he : cntB W n f m g = false := by simp [cntB, hmn]
      have ho : sof W n m = (0, 0) := by unfold sof; rw [if_neg (fun h => hmn h.2)]
      rw [he, ho]
      have jn : ((m : Int) != (n : Int)) = true := by simp; omega
      clear hmn
      go_enter Try.func31, Try.ntmps31
      go_wp2_with fail
      refine hov.mono ?_
      rintro e w1 ⟨rfl, hb1⟩
      have hB := below_al (below_al hb1)
      have l1 := (bR0.on hb1).lt
      have r0 := (bR0.on hb1).c0
      have r1 := (bR0.on hb1).c1
      have r2 := (bR0.on hb1).fz 0
      have r3 := (bR0.on hb1).fz 1
      have l2 := (bA0.on hb1).lt
      have x1 := (bA0.on hb1).c1
      have x2 := (bA0.on hb1).c2
      have bE := (((bR0.on hb1).set 0 (by simp) (.int .i64 0)).set 1 (by simp) (.int .i64 0)).alloc (.cells #[.int .i64 o1, .int .i64 o2] 67)
      have hBE := ((hB.setCell (p := ⟨w.heap.size + 1, 0, none⟩) (by simp) (.int .i64 0)).setCell (p := ⟨w.heap.size + 1, 1, none⟩) (by simp) (.int .i64 0)).alloc (by simp only [size_set]; exact hB.size) (.cells #[.int .i64 o1, .int .i64 o2] 67)
      clear hov bA0 bR0 hb1 hB
      go_wp2
      refine ret_sd_tmp Try.results31 rfl bE.c0 bE.c1 rfl ?_
      exact ⟨rfl, hBE⟩

set_option maxHeartbeats 2000000 in
theorem specGoodC (W : Int) (a b : Option Addr) (n c m d : Nat) (f g : Nat → Int) (w : World) (hn : n ≤ 1048576) (hm : m ≤ 1048576) (hf : IL w a n f) (hg : IL w b m g) :
    Calls Try.prog 37 #[cnt W a n c b m d] w fun e w' => e = .returned (.bool (cntB W n f m g)) ∧ Below w.heap.size w w' := by
  have hsz := l12Sized_any W n (w.alloc (cntO W a n c b m d 25)) hn
  have hb0 : Below w.heap.size w (w.alloc (cntO W a n c b m d 25)) := (Below.refl _ _).alloc (Nat.le_refl _) _
  have bA := bx_new (w := w) (cntL W a n c b m d) 25 rfl
  cases hs : sizedB W n with
  | false =>
    have he : cntB W n f m g = false := by simp [cntB, hs]
    rw [he]
    rw [hs] at hsz
    go_enter Try.func37, Try.ntmps37
    go_wp2_with fail
    refine hsz.mono ?_
    rintro e w1 ⟨rfl, hw1⟩
    have hs1 := hw1.symm
    clear hw1 hsz
    subst hs1
    go_wp2
    go_ret
    exact ⟨rfl, hb0⟩
  | true =>
    rw [hs] at hsz
    by_cases hmn : m = n
    · subst hmn
      have hcb : cntB W m f m g = (allB f m && allB g m) := by simp [cntB, hs]
      rw [hcb]
      have jn : ((m : Int) != (m : Int)) = false := by simp
      go_enter Try.func37, Try.ntmps37
      go_wp2_with fail
      refine hsz.mono ?_
      rintro e w1 ⟨rfl, hw1⟩
      have hs1 := hw1.symm
      clear hw1 hsz
      subst hs1
      go_wp2
      have hf0 := hf.below hb0
      have hg0 := hg.below hb0
      have HB : Hid (Below w.heap.size w (w.alloc (cntO W a m c b m d 25))) := hb0
      clear hb0 hf hg
      generalize w.alloc (cntO W a m c b m d 25) = W1 at bA hf0 hg0 HB ⊢
      go_loopw [23] (fun i wr => ∃ k : Nat, k ≤ m ∧ i = .int .i64 k ∧ allB f k = true ∧ allB g k = true ∧ Below W1.heap.size W1 wr) (fun i _ => m - (intOf i).toNat)
      case atStart => exact ⟨0, Nat.zero_le _, rfl, rfl, rfl, Below.refl _ _⟩
      case round =>
        obtain ⟨k, hk, rfl, hall, hall2, hB⟩ := hrel
        by_cases hlt : k < m
        · obtain ⟨p, off, rfl, hb, hc⟩ := (hf0.below hB) (by omega)
          obtain ⟨p2, off2, rfl, hb2, hc2⟩ := (hg0.below hB) (by omega)
          have x0 := hc k hlt
          have y0 := hc2 k hlt
          have z1 := (bA.on hB).c1
          have z2 := (bA.on hB).c2
          have j1 : (k : Int) < (m : Int) := by omega
          have hno : okB (f k) = false → (allB f m && allB g m) = false := fun q => by rw [allB_not hlt q]; rfl
          have hno2 : okB (g k) = false → (allB f m && allB g m) = false := fun q => by rw [allB_not hlt q]; simp
          have hyes : okB (f k) = true → allB f (k + 1) = true := fun q => by simp [allB, hall, q]
          have hyes2 : okB (g k) = true → allB g (k + 1) = true := fun q => by simp [allB, hall2, q]
          clear hf0 hg0 hc hc2 bA jn
          generalize f k = x at x0 hno hyes
          generalize g k = y at y0 hno2 hyes2
          have hBw := HB.out.trans (hB.mono HB.out.size)
          by_cases c0 : x < 0
          · have h0 := hno (by simp [okB]; omega)
            go_wp2
            go_ret
            first | exact ⟨ret_bool h0.symm, hBw⟩ | exact ⟨rfl, hBw⟩
          by_cases c1 : 1000000 < x
          · have h0 := hno (by simp [okB]; omega)
            go_wp2
            go_ret
            first | exact ⟨ret_bool h0.symm, hBw⟩ | exact ⟨rfl, hBw⟩
          by_cases c2 : y < 0
          · have h0 := hno2 (by simp [okB]; omega)
            go_wp2
            go_ret
            first | exact ⟨ret_bool h0.symm, hBw⟩ | exact ⟨rfl, hBw⟩
          by_cases c3 : 1000000 < y
          · have h0 := hno2 (by simp [okB]; omega)
            go_wp2
            go_ret
            first | exact ⟨ret_bool h0.symm, hBw⟩ | exact ⟨rfl, hBw⟩
          have h0 := hyes (by simp [okB]; omega)
          have h1 := hyes2 (by simp [okB]; omega)
          go_wp2
          exact ⟨⟨k + 1, by omega, by go_num, h0, h1, hB⟩, by simp [intOf]; omega⟩
        · have hke : k = m := by omega
          subst hke
          clear hf0 hg0 bA jn
          go_wp2
          go_ret
          exact ⟨ret_bool (by rw [hall, hall2]; rfl), HB.out.trans (hB.mono HB.out.size)⟩
    · have he : cntB W n f m g = false := by simp [cntB, hmn]
      rw [he]
      have jn : ((m : Int) != (n : Int)) = true := by simp; omega
      clear hmn
      go_enter Try.func37, Try.ntmps37
      go_wp2_with fail
      refine hsz.mono ?_
      rintro e w1 ⟨rfl, hw1⟩
      have hs1 := hw1.symm
      clear hw1 hsz
      subst hs1
      go_wp2
      go_ret
      exact ⟨rfl, hb0⟩
end Go.Proofs.Ytnoaonflphameaa
