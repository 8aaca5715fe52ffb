/- Wishes as they were read: marked, held. -/
import Derived.Test.YtmlfijapndkfhaaDoorQReEq
namespace Go.Proofs.YtmlfijapndkfhaaDoor
open Go.RowKit
set_option maxHeartbeats 2000000 in
theorem heldSt (a : Option Addr) (n cap k : Nat) (w : World) (hn : n ≤ 1048576) (hk : k ≤ 8388608) (h : SL w a n (fun i => mkT (k + i))) :
    Calls Tryd.prog 55 #[.slice a n cap, .int .i64 (k : Int)] w fun e w' => e = .returned (.int .i64 ((k + n : Nat) : Int)) ∧ Below w.heap.size w w' := by
  go_enter Tryd.func55, Tryd.ntmps55
  go_wp2
  go_loopw [1, 5] (fun v i wr => ∃ (p K : Nat), v = .int .i64 (K : Int) ∧ i = .int .i64 (p : Int) ∧ p ≤ n ∧ Hid (K = k + p) ∧ Below w.heap.size w wr) (fun _ i _ => n - (intOf i).toNat)
  case atStart => exact ⟨0, k, rfl, rfl, Nat.zero_le _, (rfl : k = k + 0), Below.refl _ _⟩
  case round =>
    obtain ⟨p, K, rfl, rfl, hp, HK, hB⟩ := hrel
    have hKb : K ≤ 12582912 := by have := HK.out; omega
    by_cases hlt : p < n
    · obtain ⟨b1, o1, rfl, l1, hc1⟩ := (h.below hB) (by omega)
      have y1 : wr.cell? ⟨b1, o1 + p, none⟩ = some (.string (mkT (k + p))) := hc1 p hlt
      have j0 : (0 : Int) ≤ (p : Int) := by omega
      have j1 : (p : Int) < (n : Int) := by omega
      have kT := markText_any K wr.drew (by omega)
      rw [← HK.out] at y1
      have HK2 : Hid (K + 1 = k + (p + 1)) := by show _ = _; rw [HK.out]; omega
      have e1 := bl_same (mkT K)
      have e2 := bl_same' (mkT K)
      have hw0 := Below.refl wr.heap.size wr
      have jK : (0 : Int) ≤ (K : Int) := by omega
      have jK2 : (K : Int) ≤ 12582912 := by omega
      clear hc1 h HK
      generalize mkT K = s at *
      go_wp2_with fail
      go_region_held3 (fun w' => w'.cell? ⟨b1, o1 + p, none⟩ = some (.string s) ∧ w'.cell? ⟨b1, o1 + p, none⟩ = some (.string s))
        (first | (exact ⟨(hw0.drew.cell (p := ⟨b1, _, none⟩) l1).trans y1, (hw0.drew.cell (p := ⟨b1, _, none⟩) l1).trans y1⟩) | (exact ⟨(hw1.cell (p := ⟨b1, _, none⟩) l1).trans y1, (hw1.cell (p := ⟨b1, _, none⟩) l1).trans y1⟩) | (fail))
        ((go_at_call 75; refine kT.mono ?_; rintro e w1 ⟨rfl, hbn⟩; have hw1 := stepA hw0.drew hbn; clear hbn))
      go_wp2
      go_roundw
      case rel => exact ⟨p + 1, K + 1, by go_num, by go_num, by omega, HK2, hB.trans (hw1.mono hB.size)⟩
      case measure => simp [intOf]; omega
    · have hpn : p = n := by omega
      subst hpn
      clear h
      go_wp2
      go_ret
      exact ⟨ret_int (by rw [HK.out]), hB⟩
set_option maxHeartbeats 2000000 in
theorem markW (a b : Option Addr) (n c m d k lo hi : Nat) (f g : Nat → ByteArray) (w : World) (hn : n ≤ 1048576) (hm : m ≤ 1048576) (hk : k ≤ 4194304) (hhi : hi ≤ w.heap.size) (h : WQ w lo hi a n f b m g) :
    Calls Tryd.prog 33 #[wsv a n c b m d, .int .i64 (k : Int)] w fun e w' => e = .returned (.int .i64 ((k + n + m : Nat) : Int)) ∧ (SL w' a n (fun i => mkT (k + i)) ∧ SL w' b m (fun i => mkT (k + n + i))) ∧ Turns lo hi w w' := by
  have hb0 : Below w.heap.size w (w.alloc (.cells #[.slice a n c, .slice b m d] 25)) := (Below.refl _ _).alloc (Nat.le_refl _) _
  have bA := bx_new (w := w) [.slice a n c, .slice b m d] 25 rfl
  obtain ⟨l1, h1, l2, h2, e1, e2, e3, e4, e5, hA, hB⟩ := h
  have x0 := bA.c0
  go_enter Tryd.func33, Tryd.ntmps33
  go_wp2_with fail
  refine (markSt a n c k l1 h1 _ _ hn (by omega) (hA.on hb0)).mono ?_
  rintro e w1 ⟨rfl, hA1, hT1⟩
  have hB1 := (hB.on hb0).turns hT1 (by omega)
  have hT2 : Turns lo hi w w1 := (turns_of hb0).trans (hT1.wide e1 e2)
  have x1 := (bA.turns hT1 (by omega)).c1
  clear hA hB bA hT1 x0
  go_wp2_with fail
  refine (markSt b m d (k + n) l2 h2 _ _ hm (by omega) hB1).mono ?_
  rintro e w2 ⟨rfl, hB2, hT3⟩
  have hT4 := hT2.trans (hT3.wide e3 e4)
  have hA2 := hA1.turns hT3 (by omega)
  clear hT3 hB1 hT2 x1 hA1
  go_wp2
  go_ret
  exact ⟨rfl, ⟨hA2.sl, hB2.sl⟩, hT4⟩
set_option maxHeartbeats 2000000 in
theorem markWr (a b : Option Addr) (n c m d lo hi : Nat) (k x : Int) (f g : Nat → ByteArray) (w : World) (hn : n ≤ 1048576) (hm : m ≤ 1048576) (hhi : hi ≤ w.heap.size) (h : WQ w lo hi a n f b m g) :
    Calls Tryd.prog 13 #[wrd a n c b m d k x, .int .i64 1] w fun e w' => e = .returned (.int .i64 ((1 + n + m : Nat) : Int)) ∧ (SL w' a n (fun i => mkT (1 + i)) ∧ SL w' b m (fun i => mkT (1 + n + i))) ∧ Turns lo hi w w' := by
  have hb0 : Below w.heap.size w (w.alloc (.cells #[.slice a n c, .slice b m d, .int .i64 k, .int .i64 x] 30)) := (Below.refl _ _).alloc (Nat.le_refl _) _
  have bA := bx_new (w := w) [.slice a n c, .slice b m d, .int .i64 k, .int .i64 x] 30 rfl
  have x0 := bA.c0
  have x1 := bA.c1
  have kM := markW a b n c m d 1 lo hi f g _ hn hm (by omega) (Nat.le_trans hhi hb0.size) (h.on hb0)
  have hT0 : Turns lo hi w _ := turns_of hb0
  go_enter Tryd.func13, Tryd.ntmps13
  go_wp2_with fail
  refine kM.mono ?_
  rintro e w1 ⟨rfl, hS1, hT1⟩
  have hT2 := hT0.trans hT1
  clear kM
  go_wp2
  go_ret
  exact ⟨rfl, hS1, hT2⟩
set_option maxHeartbeats 2000000 in
theorem heldW (a b : Option Addr) (n c m d k : Nat) (w : World) (hn : n ≤ 1048576) (hm : m ≤ 1048576) (hk : k ≤ 4194304) (h1 : SL w a n (fun i => mkT (k + i))) (h2 : SL w b m (fun i => mkT (k + n + i))) :
    Calls Tryd.prog 34 #[wsv a n c b m d, .int .i64 (k : Int)] w fun e w' => e = .returned (.int .i64 ((k + n + m : Nat) : Int)) ∧ Below w.heap.size w w' := by
  have hb0 : Below w.heap.size w (w.alloc (.cells #[.slice a n c, .slice b m d] 25)) := (Below.refl _ _).alloc (Nat.le_refl _) _
  have bA := bx_new (w := w) [.slice a n c, .slice b m d] 25 rfl
  have x0 := bA.c0
  go_enter Tryd.func34, Tryd.ntmps34
  go_wp2_with fail
  refine (heldSt a n c k _ hn (by omega) (h1.below hb0)).mono ?_
  rintro e w1 ⟨rfl, hb1⟩
  have x1 := (bA.on hb1).c1
  have hB1 := stepA hb0 hb1
  have n1 : ¬ ((k + n : Nat) : Int) < 0 := by omega
  clear x0 bA hb0 hb1
  go_wp2_with fail
  refine (heldSt b m d (k + n) _ hm (by omega) (h2.below hB1)).mono ?_
  rintro e w2 ⟨rfl, hb2⟩
  have hB2 := stepA hB1 hb2
  have n2 : ¬ ((k + n + m : Nat) : Int) < 0 := by omega
  clear x1
  go_wp2
  go_ret
  exact ⟨rfl, hB2⟩
set_option maxHeartbeats 2000000 in
theorem heldWr (a b : Option Addr) (n c m d : Nat) (k x : Int) (w : World) (hn : n ≤ 1048576) (hm : m ≤ 1048576) (h1 : SL w a n (fun i => mkT (1 + i))) (h2 : SL w b m (fun i => mkT (1 + n + i))) :
    Calls Tryd.prog 14 #[wrd a n c b m d k x, .int .i64 1] w fun e w' => e = .returned (.int .i64 ((1 + n + m : Nat) : Int)) ∧ Below w.heap.size w w' := by
  have hb0 : Below w.heap.size w (w.alloc (.cells #[.slice a n c, .slice b m d, .int .i64 k, .int .i64 x] 30)) := (Below.refl _ _).alloc (Nat.le_refl _) _
  have bA := bx_new (w := w) [.slice a n c, .slice b m d, .int .i64 k, .int .i64 x] 30 rfl
  have x0 := bA.c0
  have x1 := bA.c1
  have kM := heldW a b n c m d 1 _ hn hm (by omega) (h1.below hb0) (h2.below hb0)
  have n1 : ¬ ((1 + n + m : Nat) : Int) < 0 := by omega
  go_enter Tryd.func14, Tryd.ntmps14
  go_wp2_with fail
  refine kM.mono ?_
  rintro e w1 ⟨rfl, hb1⟩
  have hB1 := stepA hb0 hb1
  clear kM
  go_wp2
  go_ret
  exact ⟨rfl, hB1⟩
end Go.Proofs.YtmlfijapndkfhaaDoor
