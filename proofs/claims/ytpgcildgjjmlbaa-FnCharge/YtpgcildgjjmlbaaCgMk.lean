/- Lists of bools, compared, marked and held. -/
import Derived.Test.YtpgcildgjjmlbaaFkOw
import Derived.BigQuiet
import Derived.BigRegion
namespace Go.Proofs.Ytpgcildgjjmlbaa
open Go.RowKit
/-- the bools of a list, by their index -/
def BoL (w : World) (a : Option Addr) (n : Nat) (S : Nat → Bool) : Prop :=
  0 < n → ∃ b off, a = some ⟨b, off, none⟩ ∧ b < w.heap.size ∧ ∀ i, i < n → w.cell? ⟨b, off + i, none⟩ = some (.bool (S i))
theorem BoL.below {w w' : World} {a : Option Addr} {n : Nat} {S : Nat → Bool} (h : BoL w a n S) (hb : Below w.heap.size w w') : BoL w' a n S := fun h0 => by
  obtain ⟨b, off, rfl, hbw, hc⟩ := h h0
  exact ⟨b, off, rfl, Nat.lt_of_lt_of_le hbw hb.size, fun i hi => (hb.cell (p := ⟨b, off + i, none⟩) hbw).trans (hc i hi)⟩
theorem BoL.none (w : World) (S : Nat → Bool) : BoL w none 0 S := fun h => absurd h (Nat.lt_irrefl _)
theorem VQ.bl {w : World} {lo hi : Nat} {a : Option Addr} {n : Nat} {S : Nat → Bool} (h : VQ w lo hi a n (fun i => .bool (S i))) : BoL w a n S := fun h0 => by
  obtain ⟨b, rfl, _, _, hP⟩ := h h0
  exact ⟨b, 0, rfl, hP.lt, fun i hi => by rw [Nat.zero_add]; exact hP.c i hi⟩
theorem turns_set {w : World} {lo hi b k : Nat} (v : Value) (h0 : lo ≤ b) (h1 : b < hi) : Turns lo hi w (w.setCell ⟨b, k, none⟩ v) :=
  (OnlyIn.of ((Only.refl b w).set k v) h0 h1).turns
theorem VP.congr {w : World} {b n : Nat} {f g : Nat → Value} (h : VP w b n f) (e : ∀ i, i < n → f i = g i) : VP w b n g := ⟨h.lt, fun i hi => by rw [h.c i hi, e i hi], h.fz⟩
set_option maxHeartbeats 800000 in
theorem eqBl (a1 a2 : Option Addr) (len c1 c2 : Nat) (S : Nat → Bool) (w : World) (hl : len ≤ 1048576) (hc1 : BoL w a1 len S) (hc2 : BoL w a2 len S) :
    Calls Try.prog 10 #[.slice a1 len c1, .slice a2 len c2] w fun e w' => e = .returned (.bool true) ∧ Below w.heap.size w w' := by
  go_enter Try.func10, Try.ntmps10
  go_wp2
  go_loopw [5] (fun i wr => ∃ k : Nat, k ≤ len ∧ i = .int .i64 k ∧ Below w.heap.size w wr) (fun i _ => len - (intOf i).toNat)
  case atStart => exact ⟨0, Nat.zero_le _, rfl, Below.refl _ _⟩
  case round =>
    obtain ⟨k, hk, rfl, hB⟩ := hrel
    by_cases hlt : k < len
    · obtain ⟨b1, o1, rfl, hb1, hcell1⟩ := hc1 (by omega)
      obtain ⟨b2, o2, rfl, hb2, hcell2⟩ := hc2 (by omega)
      have hk1 : wr.cell? ⟨b1, o1 + k, none⟩ = some (.bool (S k)) := (hB.cell (p := ⟨b1, _, none⟩) hb1).trans (hcell1 k hlt)
      have hk2 : wr.cell? ⟨b2, o2 + k, none⟩ = some (.bool (S k)) := (hB.cell (p := ⟨b2, _, none⟩) hb2).trans (hcell2 k hlt)
      have hlt' : (k : Int) < (len : Int) := by omega
      clear hcell1 hcell2 hc1 hc2
      generalize S k = s at *
      have hsb : (s == s) = true := by simp
      have hsn : (s != s) = false := by simp
      go_wp2
      go_region
      go_wp2
      exact ⟨⟨k + 1, by omega, by go_num, by first | exact hB | exact below_dr hB _ | exact hB.drew⟩, by simp [intOf]; omega⟩
    · clear hc1 hc2
      go_wp2
      go_ret
      exact ⟨rfl, hB⟩
/-- the mark of a number -/
def mrk (x : Int) : Bool := x.tmod 3 == 0
set_option maxHeartbeats 2000000 in
theorem markBl (a : Option Addr) (n cap k lo hi : Nat) (f : Nat → Bool) (w : World) (hn : n ≤ 1048576) (hk : k ≤ 8388608) (h : VQ w lo hi a n (fun i => .bool (f i))) :
    Calls Try.prog 11 #[.slice a n cap, .int .i64 (k : Int)] w fun e w' => e = .returned (.int .i64 ((k + n : Nat) : Int)) ∧ VQ w' lo hi a n (fun i => .bool (mrk ((k : Int) + (i : Int)))) ∧ Turns lo hi w w' := by
  by_cases h0 : 0 < n
  case neg =>
    have hm0 : n = 0 := by omega
    subst hm0
    go_enter Try.func11, Try.ntmps11
    go_wp2
    go_loopw [1, 5] (fun v i wr => v = .int .i64 (k : Int) ∧ i = .int .i64 0 ∧ wr = w) (fun _ _ _ => 0)
    case atStart => exact ⟨rfl, rfl, rfl⟩
    case round =>
      obtain ⟨rfl, rfl, hw⟩ := hrel
      have hw' := hw.symm
      clear hw
      subst hw'
      go_wp2
      go_ret
      exact ⟨ret_int (by simp), vq_none _ _ _ _ _, turns_of (Below.refl _ _)⟩
  case pos =>
    obtain ⟨b, rfl, e1, e2, hP⟩ := h h0
    have HP0 : Hid (∃ g : Nat → Bool, VP w b n (fun i => .bool (g i)) ∧ ∀ i, i < 0 → g i = mrk ((k : Int) + (i : Int))) := ⟨f, hP, fun i hi => absurd hi (Nat.not_lt_zero _)⟩
    clear h hP
    go_enter Try.func11, Try.ntmps11
    go_wp2
    go_loopw [1, 5] (fun v i wr => ∃ p : Nat, v = .int .i64 ((k : Int) + (p : Int)) ∧ i = .int .i64 (p : Int) ∧ p ≤ n ∧ Hid (∃ g : Nat → Bool, VP wr b n (fun i => .bool (g i)) ∧ ∀ i, i < p → g i = mrk ((k : Int) + (i : Int))) ∧ Turns lo hi w wr) (fun _ i _ => n - (intOf i).toNat)
    case atStart => exact ⟨0, by simp, rfl, Nat.zero_le _, HP0, turns_of (Below.refl _ _)⟩
    case round =>
      obtain ⟨p, rfl, rfl, hp, HP, hT⟩ := hrel
      clear HP0
      by_cases hlt : p < n
      · have j0 : (0 : Int) ≤ (p : Int) := by omega
        have j1 : (p : Int) < (n : Int) := by omega
        have j2 : (0 : Int) ≤ (k : Int) + (p : Int) := by omega
        obtain ⟨g, hg, hgi⟩ := HP.out
        have HS : Hid (∀ B : Bool, B = mrk ((k : Int) + (p : Int)) → ∃ g : Nat → Bool, VP (wr.setCell ⟨b, p, none⟩ (.bool B)) b n (fun i => .bool (g i)) ∧ ∀ i, i < p + 1 → g i = mrk ((k : Int) + (i : Int))) := fun B hB => ⟨fun i => if i = p then B else g i, (hg.set hlt (.bool B)).congr fun i _ => by
          by_cases e : i = p
          · simp only [if_pos e]
          · simp only [if_neg e], fun i hi => by
          by_cases e : i = p
          · simp only [if_pos e]; rw [e]; exact hB
          · simp only [if_neg e]; exact hgi i (by omega)⟩
        have HT2 : Hid (∀ B : Bool, Turns lo hi w (wr.setCell ⟨b, p, none⟩ (.bool B))) := fun B => hT.trans (turns_set (k := p) (.bool B) e1 e2)
        have y0 := hg.c p hlt
        have y1 := hg.fz p
        have y2 := hg.lt
        clear HP hg hT hgi
        go_wp2
        exact ⟨⟨p + 1, by go_num, by go_num, by omega, HS.out _ rfl, HT2.out _⟩, by simp [intOf]; omega⟩
      · have hpn : p = n := by omega
        subst hpn
        obtain ⟨g, hg, hgi⟩ := HP.out
        have HV : Hid (VQ wr lo hi (some ⟨b, 0, none⟩) p (fun i => .bool (mrk ((k : Int) + (i : Int))))) := fun _ => ⟨b, rfl, e1, e2, hg.congr fun i hi => congrArg Value.bool (hgi i hi)⟩
        clear HP hg hgi
        go_wp2
        go_ret
        exact ⟨ret_int (by omega), HV.out, hT⟩
set_option maxHeartbeats 1000000 in
theorem heldBl (a : Option Addr) (n cap k lo hi : Nat) (w : World) (hn : n ≤ 1048576) (hk : k ≤ 8388608) (h : VQ w lo hi a n (fun i => .bool (mrk ((k : Int) + (i : Int))))) :
    Calls Try.prog 12 #[.slice a n cap, .int .i64 (k : Int)] w fun e w' => e = .returned (.int .i64 ((k + n : Nat) : Int)) ∧ w' = w := by
  go_enter Try.func12, Try.ntmps12
  go_wp2
  go_loopw [1, 5] (fun v i wr => ∃ p : Nat, v = .int .i64 ((k : Int) + (p : Int)) ∧ i = .int .i64 (p : Int) ∧ p ≤ n ∧ wr = w) (fun _ i _ => n - (intOf i).toNat)
  case atStart => exact ⟨0, by simp, rfl, Nat.zero_le _, rfl⟩
  case round =>
    obtain ⟨p, rfl, rfl, hp, hw⟩ := hrel
    have hw' := hw.symm
    clear hw
    subst hw'
    by_cases hlt : p < n
    · have j0 : (0 : Int) ≤ (p : Int) := by omega
      have j1 : (p : Int) < (n : Int) := by omega
      have j2 : (0 : Int) ≤ (k : Int) + (p : Int) := by omega
      obtain ⟨b, rfl, e1, e2, hP⟩ := h (by omega)
      have y0 := hP.c p hlt
      have y3 : (mrk ((k : Int) + (p : Int)) != mrk ((k : Int) + (p : Int))) = false := by simp
      unfold mrk at y0 y3
      clear h hP
      go_wp2
      exact ⟨⟨p + 1, by go_num, by go_num, by omega, trivial⟩, by simp [intOf]; omega⟩
    · have hpn : p = n := by omega
      subst hpn
      clear h
      go_wp2
      go_ret
      exact ⟨ret_int (by omega), rfl⟩
theorem markBl1 (a : Option Addr) (n cap lo hi : Nat) (f : Nat → Bool) (w : World) (hn : n ≤ 1048576) (h : VQ w lo hi a n (fun i => .bool (f i))) :
    Calls Try.prog 11 #[.slice a n cap, .int .i64 1] w fun e w' => e = .returned (.int .i64 (1 + (n : Int))) ∧ VQ w' lo hi a n (fun i => .bool (mrk (1 + (i : Int)))) ∧ Turns lo hi w w' :=
  (markBl a n cap 1 lo hi f w hn (by omega) h).mono fun e w' ⟨h1, h2, h3⟩ => ⟨h1.trans (ret_int (by omega)), h2, h3⟩
theorem heldBl1 (a : Option Addr) (n cap lo hi : Nat) (w : World) (hn : n ≤ 1048576) (h : VQ w lo hi a n (fun i => .bool (mrk (1 + (i : Int))))) :
    Calls Try.prog 12 #[.slice a n cap, .int .i64 1] w fun e w' => e = .returned (.int .i64 (1 + (n : Int))) ∧ w' = w :=
  (heldBl a n cap 1 lo hi w hn (by omega) h).mono fun e w' ⟨h1, h2⟩ => ⟨h1.trans (ret_int (by omega)), h2⟩
end Go.Proofs.Ytpgcildgjjmlbaa
