/- The law's marks on a frame's bytes. -/
import Derived.Test.YtplpggcbpcebcaaDoorFrBase
namespace Go.Proofs.YtplpggcbpcebcaaDoor
open Go.RowKit
theorem VP.congr' {w : World} {b n : Nat} {f g : Nat → Value} (h : VP w b n f) (e : ∀ i, i < n → f i = g i) : VP w b n g := ⟨h.lt, fun i hi => by rw [h.c i hi, e i hi], h.fz⟩
theorem u8_in (x : Int) (h0 : 0 ≤ x) (h1 : x ≤ 255) : IntKind.u8.wrap x = x := by rw [IntKind.wrap_u8]; omega
set_option maxHeartbeats 1000000 in
theorem markB_any (b n cap : Nat) (F : Nat → Value) (w : World) (hn : n ≤ 8) (h : VP w b n F) (hU : ∀ i, i < n → ∃ x, F i = .int .u8 x) :
    Calls Tryd.prog 43 #[.slice (some ⟨b, 0, none⟩) n cap, .int .i64 1] w fun e w' => e = .returned (.int .i64 (1 + (n : Int))) ∧ VP w' b n (fun i => .int .u8 (1 + (i : Int))) ∧ Only b w w' := by
  go_enter Tryd.func43, Tryd.ntmps43
  go_wp2
  go_loopw [1, 5] (fun q i wr => ∃ (k : Nat) (F' : Nat → Value), k ≤ n ∧ i = .int .i64 k ∧ q = .int .i64 (1 + (k : Int)) ∧ VP wr b n F' ∧ (∀ j, j < k → F' j = .int .u8 (1 + (j : Int))) ∧ Hid (∀ i, i < n → ∃ x, F' i = .int .u8 x) ∧ Only b w wr) (fun _ i _ => n - (intOf i).toNat)
  case atStart => exact ⟨0, F, Nat.zero_le _, rfl, by simp, h, fun j hj => absurd hj (Nat.not_lt_zero _), hU, Only.refl _ _⟩
  case round =>
    obtain ⟨k, F', hk, rfl, rfl, hP, hF, HU, hO⟩ := hrel
    clear h hU
    by_cases hlt : k < n
    · have x0 := hP.c k hlt
      obtain ⟨y, hy⟩ := HU.out k hlt
      rw [hy] at x0
      have f0 := hP.fz k
      have l0 := hP.lt
      have i0 : (0 : Int) ≤ (k : Int) := by omega
      have i1 : (k : Int) < (n : Int) := by omega
      have hwv : IntKind.u8.wrap (1 + (k : Int)) = 1 + (k : Int) := u8_in _ (by omega) (by omega)
      have HP2 := hP.set hlt (.int .u8 (1 + (k : Int)))
      have hO2 := hO.set k (.int .u8 (1 + (k : Int)))
      go_wp2
      refine ⟨⟨k + 1, _, by omega, by go_num, by congr 1 <;> omega, HP2, fun j hj => ?_, fun j hj => ?_, hO2⟩, by simp [intOf]; omega⟩
      · by_cases e : j = k
        · subst e; simp
        · rw [if_neg e]; exact hF j (by omega)
      · by_cases e : j = k
        · exact ⟨1 + (k : Int), by rw [if_pos e]⟩
        · rw [if_neg e]; exact HU.out j hj
    · have hke : k = n := by omega
      subst hke
      go_wp2
      go_ret
      exact ⟨rfl, hP.congr' hF, hO⟩
set_option maxHeartbeats 1000000 in
theorem heldB_any (b n cap : Nat) (w : World) (hn : n ≤ 8) (h : VP w b n (fun i => .int .u8 (1 + (i : Int)))) :
    Calls Tryd.prog 44 #[.slice (some ⟨b, 0, none⟩) n cap, .int .i64 1] w fun e w' => e = .returned (.int .i64 (1 + (n : Int))) ∧ w' = w := by
  go_enter Tryd.func44, Tryd.ntmps44
  go_wp2
  go_loopw [1, 5] (fun q i wr => ∃ k : Nat, k ≤ n ∧ i = .int .i64 k ∧ q = .int .i64 (1 + (k : Int)) ∧ wr = w) (fun _ i _ => n - (intOf i).toNat)
  case atStart => exact ⟨0, Nat.zero_le _, rfl, by simp, rfl⟩
  case round =>
    obtain ⟨k, hk, rfl, rfl, hw⟩ := hrel
    subst hw
    by_cases hlt : k < n
    · have x0 := h.c k hlt
      have i0 : (0 : Int) ≤ (k : Int) := by omega
      have i1 : (k : Int) < (n : Int) := by omega
      have hwv : IntKind.u8.wrap (1 + (k : Int)) = 1 + (k : Int) := u8_in _ (by omega) (by omega)
      clear h
      go_wp2
      exact ⟨⟨k + 1, by omega, by go_num, by congr 1 <;> omega, trivial⟩, by simp [intOf]; omega⟩
    · have hke : k = n := by omega
      subst hke
      clear h
      go_wp2
      go_ret
      exact ⟨rfl, rfl⟩
set_option maxHeartbeats 400000 in
theorem markB_zero (a : Option Addr) (cap : Nat) (w : World) : Calls Tryd.prog 43 #[.slice a 0 cap, .int .i64 1] w fun e w' => e = .returned (.int .i64 1) ∧ w' = w := by
  go_enter Tryd.func43, Tryd.ntmps43
  go_wp2
  go_loopw [1, 5] (fun q i wr => i = .int .i64 0 ∧ q = .int .i64 1 ∧ wr = w) (fun _ _ _ => 0)
  case atStart => exact ⟨rfl, rfl, rfl⟩
  case round =>
    obtain ⟨rfl, rfl, hw⟩ := hrel
    subst hw
    go_wp2
    go_ret
    exact ⟨rfl, rfl⟩
set_option maxHeartbeats 400000 in
theorem heldB_zero (a : Option Addr) (cap : Nat) (w : World) : Calls Tryd.prog 44 #[.slice a 0 cap, .int .i64 1] w fun e w' => e = .returned (.int .i64 1) ∧ w' = w := by
  go_enter Tryd.func44, Tryd.ntmps44
  go_wp2
  go_loopw [1, 5] (fun q i wr => i = .int .i64 0 ∧ q = .int .i64 1 ∧ wr = w) (fun _ _ _ => 0)
  case atStart => exact ⟨rfl, rfl, rfl⟩
  case round =>
    obtain ⟨rfl, rfl, hw⟩ := hrel
    subst hw
    go_wp2
    go_ret
    exact ⟨rfl, rfl⟩
theorem markV (a : Option Addr) (n cap lo hi : Nat) (D : Nat → Int) (w : World) (hn : n ≤ 8) (h : VQ w lo hi a n (fun i => .int .u8 (D i))) :
    Calls Tryd.prog 43 #[.slice a n cap, .int .i64 1] w fun e w' => e = .returned (.int .i64 (1 + (n : Int))) ∧ VQ w' lo hi a n (fun i => .int .u8 (1 + (i : Int))) ∧ Turns lo hi w w' := by
  by_cases h0 : 0 < n
  · obtain ⟨b, rfl, h1, h2, hP⟩ := h h0
    exact (markB_any b n cap _ w hn hP (fun i _ => ⟨_, rfl⟩)).mono fun e w' ⟨h3, h4, h5⟩ => ⟨h3, fun _ => ⟨b, rfl, h1, h2, h4⟩, (OnlyIn.of h5 h1 h2).turns⟩
  · have : n = 0 := by omega
    subst this
    refine (markB_zero a cap w).mono fun e w' ⟨h3, h4⟩ => ?_
    subst h4
    exact ⟨by rw [h3]; simp, vq_none _ _ _ _ _, (OnlyIn.refl _ _ _).turns⟩
theorem heldV (a : Option Addr) (n cap lo hi : Nat) (w : World) (hn : n ≤ 8) (h : VQ w lo hi a n (fun i => .int .u8 (1 + (i : Int)))) :
    Calls Tryd.prog 44 #[.slice a n cap, .int .i64 1] w fun e w' => e = .returned (.int .i64 (1 + (n : Int))) ∧ w' = w := by
  by_cases h0 : 0 < n
  · obtain ⟨b, rfl, h1, h2, hP⟩ := h h0
    exact heldB_any b n cap w hn hP
  · have : n = 0 := by omega
    subst this
    exact (heldB_zero a cap w).mono fun e w' ⟨h3, h4⟩ => ⟨by rw [h3]; simp, h4⟩
set_option maxHeartbeats 1000000 in
theorem markF (W : Int) (a : Option Addr) (n c lo hi : Nat) (D : Nat → Int) (w : World) (hn : n ≤ 8) (h : VQ w lo hi a n (fun i => .int .u8 (D i))) :
    Calls Tryd.prog 20 #[frv W a n c, .int .i64 1] w fun e w' => e = .returned (.int .i64 (1 + (n : Int))) ∧ VQ w' lo hi a n (fun i => .int .u8 (1 + (i : Int))) ∧ Turns lo hi w w' := by
  have hb0 : Below w.heap.size w (w.alloc (frvO W a n c 24)) := (Below.refl _ _).alloc (Nat.le_refl _) _
  have z1 := bx_new (w := w) (frvL W a n c) 24 rfl
  have x1 := z1.c1
  have k := markV a n c lo hi D (w.alloc (frvO W a n c 24)) hn (h.on hb0)
  have hT : Turns lo hi w (w.alloc (frvO W a n c 24)) := turns_of hb0
  go_enter Tryd.func20, Tryd.ntmps20
  go_wp2_with fail
  refine k.mono ?_
  rintro e w2 ⟨rfl, hQ, hT2⟩
  have hT3 := hT.trans hT2
  clear k
  go_wp2
  go_ret
  exact ⟨rfl, hQ, hT3⟩
set_option maxHeartbeats 1000000 in
theorem heldF (W : Int) (a : Option Addr) (n c lo hi : Nat) (w : World) (hn : n ≤ 8) (h : VQ w lo hi a n (fun i => .int .u8 (1 + (i : Int)))) :
    Calls Tryd.prog 21 #[frv W a n c, .int .i64 1] w fun e w' => e = .returned (.int .i64 (1 + (n : Int))) ∧ Below w.heap.size w w' := by
  have hb0 : Below w.heap.size w (w.alloc (frvO W a n c 24)) := (Below.refl _ _).alloc (Nat.le_refl _) _
  have z1 := bx_new (w := w) (frvL W a n c) 24 rfl
  have x1 := z1.c1
  have k := heldV a n c lo hi (w.alloc (frvO W a n c 24)) hn (h.on hb0)
  have j0 : ¬ (1 : Int) + (n : Int) < 0 := by omega
  go_enter Tryd.func21, Tryd.ntmps21
  go_wp2_with fail
  refine k.mono ?_
  rintro e w2 ⟨rfl, hw2⟩
  subst hw2
  clear k
  go_wp2
  go_ret
  exact ⟨rfl, hb0⟩
end Go.Proofs.YtplpggcbpcebcaaDoor
