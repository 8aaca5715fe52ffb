/- The contracts of both HornerReal functions, and the walk of the law on HornerReal. -/
import Derived.Test.YtjamfjhdeijbpacFlList
import Derived.Test.YtjamfjhdeijbpacFlCopy
namespace Go.Proofs.Ytjamfjhdeijbpac
open Go.RowKit

theorem rep_zero : Rep (some 0) 0 := ⟨by decide, fun h => (by cases h), fun r h => (by cases h; rfl)⟩

theorem ret_told {o : Option Nat} {v : Nat} (h : Rep o v) : Ending.returned (.tuple #[.float .f64 (toldV v), .bool (toldT v)]) = .returned (.tuple #[.float .f64 (told o), .bool (toldOk o)]) := by
  rw [(told_rep h).1, (told_rep h).2]


/-- one round: the two operations, and the draws -/
theorem hor_step {f : Nat → Nat} {len x k : Nat} {v : Nat} (h : Rep (hor f len x k) v) (w1 w2 : World) : Rep (hor f len x (k + 1)) (fr .add (fr .mul v x w1) (f (len - 1 - k)) w2) := rep_add (rep_mul h w1) w2

set_option maxHeartbeats 1000000 in
theorem specHorner_good (a : Option Addr) (len cap : Nat) (f : Nat → Nat) (x : Nat) (w : World) (h : FS w a len f) (hx : x < 18446744073709551616) (hg : goodsB f len = true) (hgx : goodB x = true) :
    Calls Try.prog 4 #[.slice a len cap, .float .f64 x] w fun e w' => e = .returned (.tuple #[.float .f64 (told (hor f len x len)), .bool (toldOk (hor f len x len))]) ∧ (∃ v, Rep (hor f len x len) v) ∧ ∃ n, w' = w.drewN n := by
  have hgs := specGoods_any a len cap f w h
  obtain ⟨hl, hf, hc⟩ := h
  have hmul := fun v y w => run_fl (P := Try.prog) .mul (by simp) 23 v y w
  have hadd := fun v y w => run_fl (P := Try.prog) .add (by simp) 23 v y w
  go_enter Try.func4, Try.ntmps4
  go_wp2_with (first | (go_at_call 9; refine hgs.mono ?_; rintro e w' ⟨rfl, hw'⟩; have hs := hw'.symm; clear hw'; subst hs) | (go_at_call 10; refine (specGood_any _ _ hx).mono ?_; rintro e w' ⟨rfl, hw'⟩; have hs := hw'.symm; clear hw'; subst hs))
  clear hgs hg hgx
  go_loopw [6, 7] (fun y i wr => ∃ k n v : Nat, k ≤ len ∧ i = .int .i64 ((len : Int) - 1 - (k : Int)) ∧ y = .float .f64 v ∧ Rep (hor f len x k) v ∧ wr = w.drewN n) (fun _ i _ => (intOf i + 1).toNat)
  case atStart => exact ⟨0, 0, 0, Nat.zero_le _, by simp, rfl, rep_zero, rfl⟩
  case round =>
    obtain ⟨k, n, v, hk, rfl, rfl, hrep, hw⟩ := hrel
    have HW : Hid (wr = w.drewN n) := hw
    have HR : Hid (Rep (hor f len x k) v) := hrep
    clear hw hrep
    by_cases hlt : k < len
    · obtain ⟨b, off, rfl, hbw, hcell⟩ := hc (by omega)
      have hck : wr.cell? ⟨b, off + (len - 1 - k), none⟩ = some (.float .f64 (f (len - 1 - k))) := by rw [HW.out]; exact hcell _ (by omega)
      clear hcell hc hf
      go_wp2
      go_roundw
      case rel => exact ⟨k + 1, _, _, by omega, by go_num, rfl, hor_step HR.out _ _, by rw [HW.out]; simp only [World.drewN_drewN]; rfl⟩
      case measure => simp [intOf]; omega
    · have hke : k = len := by omega
      subst hke
      have hv := HR.out.1
      clear hc hf
      go_wp2_with (go_at_call 11; refine (l2Told_any _ _ hv).mono ?_; rintro e w' ⟨rfl, hw'⟩; have hs := hw'.symm; clear hw'; subst hs)
      go_ret2
      exact ⟨ret_told HR.out, ⟨v, HR.out⟩, n, HW.out⟩
set_option maxHeartbeats 1000000 in
theorem implHorner_good (a : Option Addr) (len cap : Nat) (f : Nat → Nat) (x : Nat) (w : World) (h : FS w a len f) (hx : x < 18446744073709551616) (hg : goodsB f len = true) (hgx : goodB x = true) :
    Calls Try.prog 6 #[.slice a len cap, .float .f64 x] w fun e w' => e = .returned (.tuple #[.float .f64 (told (hor f len x len)), .bool (toldOk (hor f len x len))]) ∧ (∃ v, Rep (hor f len x len) v) ∧ ∃ n, w' = w.drewN n := by
  have hgs := implGoods_any a len cap f w h
  obtain ⟨hl, hf, hc⟩ := h
  have hmul := fun v y w => run_fl (P := Try.prog) .mul (by simp) 23 v y w
  have hadd := fun v y w => run_fl (P := Try.prog) .add (by simp) 23 v y w
  go_enter Try.func6, Try.ntmps6
  go_wp2_with (first | (go_at_call 12; refine hgs.mono ?_; rintro e w' ⟨rfl, hw'⟩; have hs := hw'.symm; clear hw'; subst hs) | (go_at_call 13; refine (implGood_any _ _ hx).mono ?_; rintro e w' ⟨rfl, hw'⟩; have hs := hw'.symm; clear hw'; subst hs))
  clear hgs hg hgx
  go_loopw [6, 18] (fun y i wr => ∃ k n v : Nat, k ≤ len ∧ i = .int .i64 (k : Int) ∧ y = .float .f64 v ∧ Rep (hor f len x k) v ∧ wr = w.drewN n) (fun _ i _ => len - (intOf i).toNat)
  case atStart => exact ⟨0, 0, 0, Nat.zero_le _, rfl, rfl, rep_zero, rfl⟩
  case round =>
    obtain ⟨k, n, v, hk, rfl, rfl, hrep, hw⟩ := hrel
    have HW : Hid (wr = w.drewN n) := hw
    have HR : Hid (Rep (hor f len x k) v) := hrep
    clear hw hrep
    by_cases hlt : k < len
    · obtain ⟨b, off, rfl, hbw, hcell⟩ := hc (by omega)
      have hck : wr.cell? ⟨b, off + (len - 1 - k), none⟩ = some (.float .f64 (f (len - 1 - k))) := by rw [HW.out]; exact hcell _ (by omega)
      clear hcell hc hf
      go_wp2
      go_roundw
      case rel => exact ⟨k + 1, _, _, by omega, by go_num, rfl, hor_step HR.out _ _, by rw [HW.out]; simp only [World.drewN_drewN]; rfl⟩
      case measure => simp [intOf]; omega
    · have hke : k = len := by omega
      subst hke
      have hv := HR.out.1
      clear hc hf
      go_wp2_with (go_at_call 14; refine (finite_any _ _ hv).mono ?_; rintro e w' ⟨rfl, hw'⟩; have hs := hw'.symm; clear hw'; subst hs)
      go_ret2
      exact ⟨ret_told HR.out, ⟨v, HR.out⟩, n, HW.out⟩

def hornV (f : Nat → Nat) (len x : Nat) : Nat := if goodsB f len && goodB x then told (hor f len x len) else 0
def hornT (f : Nat → Nat) (len x : Nat) : Bool := if goodsB f len && goodB x then toldOk (hor f len x len) else false

set_option maxHeartbeats 400000 in
theorem specHorner_bad1 (a : Option Addr) (len cap : Nat) (f : Nat → Nat) (x : Nat) (w : World) (h : FS w a len f) (hg : goodsB f len = false) :
    Calls Try.prog 4 #[.slice a len cap, .float .f64 x] w fun e w' => e = .returned (.tuple #[.float .f64 0, .bool false]) ∧ w' = w := by
  have hgs := specGoods_any a len cap f w h
  clear h
  go_enter Try.func4, Try.ntmps4
  go_wp2_with (go_at_call 9; refine hgs.mono ?_; rintro e w' ⟨rfl, rfl⟩)
  go_ret2
  exact ⟨rfl, rfl⟩
set_option maxHeartbeats 400000 in
theorem specHorner_bad2 (a : Option Addr) (len cap : Nat) (f : Nat → Nat) (x : Nat) (w : World) (h : FS w a len f) (hx : x < 18446744073709551616) (hg : goodsB f len = true) (hgx : goodB x = false) :
    Calls Try.prog 4 #[.slice a len cap, .float .f64 x] w fun e w' => e = .returned (.tuple #[.float .f64 0, .bool false]) ∧ w' = w := by
  have hgs := specGoods_any a len cap f w h
  clear h
  go_enter Try.func4, Try.ntmps4
  go_wp2_with (first | (go_at_call 9; refine hgs.mono ?_; rintro e w' ⟨rfl, rfl⟩) | (go_at_call 10; refine (specGood_any _ _ hx).mono ?_; rintro e w' ⟨rfl, rfl⟩))
  go_ret2
  exact ⟨rfl, rfl⟩
theorem specHorner_any (a : Option Addr) (len cap : Nat) (f : Nat → Nat) (x : Nat) (w : World) (h : FS w a len f) (hx : x < 18446744073709551616) :
    Calls Try.prog 4 #[.slice a len cap, .float .f64 x] w fun e w' => e = .returned (.tuple #[.float .f64 (hornV f len x), .bool (hornT f len x)]) ∧ hornV f len x < 18446744073709551616 ∧ ∃ n, w' = w.drewN n := by
  unfold hornV hornT
  by_cases hg : goodsB f len = true
  · by_cases hgx : goodB x = true
    · refine (specHorner_good a len cap f x w h hx hg hgx).mono fun e w' ⟨he, ⟨v, hv⟩, n, hn⟩ => ?_
      rw [hg, hgx]
      exact ⟨he, told_lt hv, n, hn⟩
    · have hgx' : goodB x = false := by simpa using hgx
      refine (specHorner_bad2 a len cap f x w h hx hg hgx').mono fun e w' ⟨he, hw⟩ => ?_
      rw [hg, hgx']
      exact ⟨he, by simp, 0, hw⟩
  · have hg' : goodsB f len = false := by simpa using hg
    refine (specHorner_bad1 a len cap f x w h hg').mono fun e w' ⟨he, hw⟩ => ?_
    rw [hg']
    exact ⟨he, by simp, 0, hw⟩

set_option maxHeartbeats 400000 in
theorem implHorner_bad1 (a : Option Addr) (len cap : Nat) (f : Nat → Nat) (x : Nat) (w : World) (h : FS w a len f) (hg : goodsB f len = false) :
    Calls Try.prog 6 #[.slice a len cap, .float .f64 x] w fun e w' => e = .returned (.tuple #[.float .f64 0, .bool false]) ∧ w' = w := by
  have hgs := implGoods_any a len cap f w h
  clear h
  go_enter Try.func6, Try.ntmps6
  go_wp2_with (go_at_call 12; refine hgs.mono ?_; rintro e w' ⟨rfl, rfl⟩)
  go_ret2
  exact ⟨rfl, rfl⟩
set_option maxHeartbeats 400000 in
theorem implHorner_bad2 (a : Option Addr) (len cap : Nat) (f : Nat → Nat) (x : Nat) (w : World) (h : FS w a len f) (hx : x < 18446744073709551616) (hg : goodsB f len = true) (hgx : goodB x = false) :
    Calls Try.prog 6 #[.slice a len cap, .float .f64 x] w fun e w' => e = .returned (.tuple #[.float .f64 0, .bool false]) ∧ w' = w := by
  have hgs := implGoods_any a len cap f w h
  clear h
  go_enter Try.func6, Try.ntmps6
  go_wp2_with (first | (go_at_call 12; refine hgs.mono ?_; rintro e w' ⟨rfl, rfl⟩) | (go_at_call 13; refine (implGood_any _ _ hx).mono ?_; rintro e w' ⟨rfl, rfl⟩))
  go_ret2
  exact ⟨rfl, rfl⟩
theorem implHorner_any (a : Option Addr) (len cap : Nat) (f : Nat → Nat) (x : Nat) (w : World) (h : FS w a len f) (hx : x < 18446744073709551616) :
    Calls Try.prog 6 #[.slice a len cap, .float .f64 x] w fun e w' => e = .returned (.tuple #[.float .f64 (hornV f len x), .bool (hornT f len x)]) ∧ hornV f len x < 18446744073709551616 ∧ ∃ n, w' = w.drewN n := by
  unfold hornV hornT
  by_cases hg : goodsB f len = true
  · by_cases hgx : goodB x = true
    · refine (implHorner_good a len cap f x w h hx hg hgx).mono fun e w' ⟨he, ⟨v, hv⟩, n, hn⟩ => ?_
      rw [hg, hgx]
      exact ⟨he, told_lt hv, n, hn⟩
    · have hgx' : goodB x = false := by simpa using hgx
      refine (implHorner_bad2 a len cap f x w h hx hg hgx').mono fun e w' ⟨he, hw⟩ => ?_
      rw [hg, hgx']
      exact ⟨he, by simp, 0, hw⟩
  · have hg' : goodsB f len = false := by simpa using hg
    refine (implHorner_bad1 a len cap f x w h hg').mono fun e w' ⟨he, hw⟩ => ?_
    rw [hg']
    exact ⟨he, by simp, 0, hw⟩

theorem below_draw {w w' w'' : World} {n : Nat} (h : Below w.heap.size w w') (e : w'' = w'.drewN n) : Below w.heap.size w w'' := by subst e; exact below_drewN h n

set_option maxHeartbeats 1000000 in
theorem hornerLaw (a : Option Addr) (len cap : Nat) (f : Nat → Nat) (x : Nat) (w : World) (hL : len ≤ 1048576) (h : FS w a len f) (hx : x < 18446744073709551616) :
    Calls Try.prog 3 #[.slice a len cap, .float .f64 x] w fun e w' => e = .returned (.bool true) ∧ Below w.heap.size w w' := by
  go_enter Try.func3, Try.ntmps3
  go_wp2_with fail
  refine (copy_any a len cap f w h).mono ?_
  rintro e w1 ⟨v1, rfl, rfl, hF1, -, hb1⟩
  go_wp2_with fail
  refine (specHorner_any _ len len f x w1 hF1 hx).mono ?_
  rintro e w2 ⟨rfl, hlt, n1, hw2⟩
  have hb2 : Below w.heap.size w w2 := below_draw hb1 hw2
  clear hF1 hb1 hw2
  have hF2 := h.below hb2
  go_wp2_with fail
  refine (copy_any a len cap f w2 hF2).mono ?_
  rintro e w3 ⟨v3, rfl, rfl, hF3, -, hb3⟩
  have hb3' : Below w.heap.size w w3 := hb2.trans (hb3.mono hb2.size)
  clear hb2 hb3 hF2
  go_wp2_with fail
  refine (implHorner_any _ len len f x w3 hF3 hx).mono ?_
  rintro e w4 ⟨rfl, -, n2, hw4⟩
  have hb4 : Below w.heap.size w w4 := below_draw hb3' hw4
  have hF4 : FS w4 (some ⟨w2.heap.size, 0, none⟩) len f := by rw [hw4]; exact hF3.drewN n2
  clear hF3 hb3' hw4
  have hF5 := h.below hb4
  go_wp2_with (go_at_call 7; refine (same_any _ _ hlt).mono ?_; rintro e w' ⟨rfl, hw'⟩; have hs := hw'.symm; clear hw'; subst hs)
  refine (copy_any a len cap f w4 hF5).mono ?_
  rintro e w5 ⟨v5, rfl, rfl, hF6, -, hb5⟩
  have hb6 : Below w.heap.size w w5 := hb4.trans (hb5.mono hb4.size)
  have hF7 := hF4.below hb5
  clear hF4 hF5 hb4 hb5
  go_wp2_with fail
  refine (eqs_any _ _ len len len f w5 hF7 hF6).mono ?_
  rintro e w6 ⟨rfl, n3, hw6⟩
  have hb7 : Below w.heap.size w w6 := below_draw hb6 hw6
  clear hF6 hF7 hb6 hw6
  go_wp2
  go_ret
  exact ⟨rfl, hb7⟩

set_option maxHeartbeats 400000 in
theorem hornerLaw_long (a : Option Addr) (len cap x : Nat) (w : World) (hL : 1048576 < len) (hm : len ≤ 9223372036854775807) :
    Calls Try.prog 3 #[.slice a len cap, .float .f64 x] w fun e w' => e = .returned (.bool true) ∧ Below w.heap.size w w' := by
  go_enter Try.func3, Try.ntmps3
  go_wp2
  go_ret
  exact ⟨rfl, Below.refl _ _⟩
end Go.Proofs.Ytjamfjhdeijbpac
