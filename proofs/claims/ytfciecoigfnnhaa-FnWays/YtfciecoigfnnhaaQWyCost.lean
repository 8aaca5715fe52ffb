/- What a way costs, as the specification says it. -/
import Derived.Test.YtfciecoigfnnhaaQWyStep
import Derived.Test.YtfciecoigfnnhaaQSzHv
import Derived.Deep.RegionHeld
import Derived.Deep.RegionHeld3
import Derived.Deep.CutRange
namespace Go.Proofs.Ytfciecoigfnnhaa
open Go.RowKit

theorem stepV_in (W : Int) (n : Nat) (f : Nat → Int) (a b : Int) : stepV W n f a b = 0 ∨ stepV W n f a b = 1 ∨ stepV W n f a b = 2 := by
  unfold stepV
  repeat' split
  all_goals simp
theorem ret_three {a b a' b' : Int} {x x' : Bool} (h1 : a = a') (h2 : b = b') (h3 : x = x') : Ending.returned (.tuple #[.int .i64 a, .int .i64 b, .bool x]) = .returned (.tuple #[.int .i64 a', .int .i64 b', .bool x']) := by rw [h1, h2, h3]
theorem wayK_not {W : Int} {n : Nat} {f g : Nat → Int} {k i : Nat} (hi : i < k) (h : stepV W n f (g i) (g (i + 1)) = 0) : wayK W n f g k = false := by
  induction k with
  | zero => omega
  | succ k ih =>
    unfold wayK
    by_cases e : i = k
    · subst e; simp [h]
    · simp [ih (by omega)]

set_option maxHeartbeats 4000000 in
theorem specCost (W : Int) (q b : Option Addr) (n c m d : Nat) (f g : Nat → Int) (w : World) (hn : n ≤ 1048576) (hm : m ≤ 1048576) (hf : IL w q n f) (hg : IL w b m g) :
    Calls Try.prog 29 #[cel W q n c, .slice b m d] w fun e w' => e = .returned (.tuple #[.int .i64 (wayS W n f m g 1), .int .i64 (wayS W n f m g 2), .bool (wayQ W n f m g)]) ∧ Below w.heap.size w w' := by
  have hb0 : Below w.heap.size w (w.alloc (celO W q n c 25)) := (Below.refl _ _).alloc (Nat.le_refl _) _
  have bA := bx_new (w := w) (celL W q n c) 25 rfl
  have hf0 := hf.below hb0
  have hg0 := hg.below hb0
  go_enter Try.func29, Try.ntmps29
  go_upto_region 1 with fail
  generalize w.alloc (celO W q n c 25) = w1 at bA hf0 hg0 hb0 ⊢
  have hw0 := Below.refl w1.heap.size w1
  go_cut [30] from 10 to 30 (fun s wx => s = .bool (!(celB W n f && decide (1 ≤ m) && decide (m ≤ 256) && frB n f (g 0))) ∧ Below w1.heap.size w1 wx)
  case first =>
    have kg := fun w h => specGoodL W q n c f w hn h
    cases eg : celB W n f with
    | false =>
      rw [eg] at kg
      refine wp_region_held (S := fun w' => w'.cell? ⟨w.heap.size, 0, none⟩ = some (.int .i64 W) ∧ w'.cell? ⟨w.heap.size, 1, none⟩ = some (.slice q n c)) (by kernel_rfl) ?_
      change wpAnyH _ _ _ _ _ _ _ _ (World.drew _)
      have hSw := (⟨(bA.on hw0.drew).c0, (bA.on hw0.drew).c1⟩ : _ ∧ _)
      refine wpAnyH_take (i := 0) (v := cel W q n c) rfl (by kernel_rfl) (by kernel_rfl) (by kernel_rfl) (fun _ _ _ h => h) (Or.inl ⟨by rfl, ?_⟩) hSw ?_
      · intro wz hsz
        obtain ⟨z0, z1⟩ := hsz
        go_simp
      try simp [Act.put]
      refine wpAnyH_ready (rs := [1]) (by kernel_rfl) (by simp) ?_
      refine AllReadyH.cons rfl (fun K hK => ?_) AllReadyH.nil
      go_simp
      go_wp2_with (first | (go_at_call 44; refine (kg _ (hf0.below hw0.drew)).mono ?_; rintro e w5 ⟨rfl, hb5⟩; have hw1 := stepA hw0.drew hb5; clear hb5) | (fail))
      refine hK.out _ _ (⟨(bA.on hw1).c0, (bA.on hw1).c1⟩) (fun hSn => ?_)
      clear hK K hSw
      have hSw := hSn
      clear hSn
      try simp [Act.put]
      refine wpAnyH_take (i := 2) (v := .bool true) rfl (by kernel_rfl) (by kernel_rfl) (by kernel_rfl) (fun _ _ _ h => h) (Or.inl ⟨by rfl, ?_⟩) hSw ?_
      · intro wz hsz
        obtain ⟨z0, z1⟩ := hsz
        go_simp
      try simp [Act.put]
      refine wpAnyH_take (i := 3) (v := .bool true) rfl (by kernel_rfl) (by kernel_rfl) (by kernel_rfl) (fun _ _ _ h => h) (Or.inl ⟨by rfl, ?_⟩) hSw ?_
      · intro wz hsz
        obtain ⟨z0, z1⟩ := hsz
        go_simp
      try simp [Act.put]
      refine wpAnyH_take (i := 4) (v := undef) rfl (by kernel_rfl) (by kernel_rfl) (by kernel_rfl) (fun _ _ _ h => h) (Or.inr ⟨by kernel_rfl, rfl⟩) hSw ?_
      try simp [Act.put]
      refine wpAnyH_take (i := 5) (v := undef) rfl (by kernel_rfl) (by kernel_rfl) (by kernel_rfl) (fun _ _ _ h => h) (Or.inr ⟨by kernel_rfl, rfl⟩) hSw ?_
      try simp [Act.put]
      refine wpAnyH_take (i := 6) (v := undef) rfl (by kernel_rfl) (by kernel_rfl) (by kernel_rfl) (fun _ _ _ h => h) (Or.inr ⟨by kernel_rfl, rfl⟩) hSw ?_
      try simp [Act.put]
      refine wpAnyH_take (i := 7) (v := .bool true) rfl (by kernel_rfl) (by kernel_rfl) (by kernel_rfl) (fun _ _ _ h => h) (Or.inl ⟨by rfl, ?_⟩) hSw ?_
      · intro wz hsz
        obtain ⟨z0, z1⟩ := hsz
        go_simp
      try simp [Act.put]
      refine wpAnyH_take (i := 8) (v := .bool true) rfl (by kernel_rfl) (by kernel_rfl) (by kernel_rfl) (fun _ _ _ h => h) (Or.inl ⟨by rfl, ?_⟩) hSw ?_
      · intro wz hsz
        obtain ⟨z0, z1⟩ := hsz
        go_simp
      try simp [Act.put]
      refine wpAnyH_take (i := 9) (v := undef) rfl (by kernel_rfl) (by kernel_rfl) (by kernel_rfl) (fun _ _ _ h => h) (Or.inr ⟨by kernel_rfl, rfl⟩) hSw ?_
      try simp [Act.put]
      refine wpAnyH_take (i := 10) (v := undef) rfl (by kernel_rfl) (by kernel_rfl) (by kernel_rfl) (fun _ _ _ h => h) (Or.inr ⟨by kernel_rfl, rfl⟩) hSw ?_
      try simp [Act.put]
      refine wpAnyH_take (i := 11) (v := undef) rfl (by kernel_rfl) (by kernel_rfl) (by kernel_rfl) (fun _ _ _ h => h) (Or.inr ⟨by kernel_rfl, rfl⟩) hSw ?_
      try simp [Act.put]
      refine wpAnyH_take (i := 12) (v := .bool true) rfl (by kernel_rfl) (by kernel_rfl) (by kernel_rfl) (fun _ _ _ h => h) (Or.inl ⟨by rfl, ?_⟩) hSw ?_
      · intro wz hsz
        obtain ⟨z0, z1⟩ := hsz
        go_simp
      try simp [Act.put]
      refine wpAnyH_take (i := 13) (v := .bool true) rfl (by kernel_rfl) (by kernel_rfl) (by kernel_rfl) (fun _ _ _ h => h) (Or.inl ⟨by rfl, ?_⟩) hSw ?_
      · intro wz hsz
        obtain ⟨z0, z1⟩ := hsz
        go_simp
      try simp [Act.put]
      refine wpAnyH_take (i := 14) (v := undef) rfl (by kernel_rfl) (by kernel_rfl) (by kernel_rfl) (fun _ _ _ h => h) (Or.inr ⟨by kernel_rfl, rfl⟩) hSw ?_
      try simp [Act.put]
      refine wpAnyH_take (i := 15) (v := undef) rfl (by kernel_rfl) (by kernel_rfl) (by kernel_rfl) (fun _ _ _ h => h) (Or.inr ⟨by kernel_rfl, rfl⟩) hSw ?_
      try simp [Act.put]
      refine wpAnyH_take (i := 16) (v := undef) rfl (by kernel_rfl) (by kernel_rfl) (by kernel_rfl) (fun _ _ _ h => h) (Or.inr ⟨by kernel_rfl, rfl⟩) hSw ?_
      try simp [Act.put]
      refine wpAnyH_take (i := 17) (v := undef) rfl (by kernel_rfl) (by kernel_rfl) (by kernel_rfl) (fun _ _ _ h => h) (Or.inr ⟨by kernel_rfl, rfl⟩) hSw ?_
      try simp [Act.put]
      refine wpAnyH_take (i := 18) (v := undef) rfl (by kernel_rfl) (by kernel_rfl) (by kernel_rfl) (fun _ _ _ h => h) (Or.inr ⟨by kernel_rfl, rfl⟩) hSw ?_
      try simp [Act.put]
      refine wpAnyH_take (i := 19) (v := undef) rfl (by kernel_rfl) (by kernel_rfl) (by kernel_rfl) (fun _ _ _ h => h) (Or.inr ⟨by kernel_rfl, rfl⟩) hSw ?_
      try simp [Act.put]
      refine wpAnyH_take (i := 20) (v := .bool true) rfl (by kernel_rfl) (by kernel_rfl) (by kernel_rfl) (fun _ _ _ h => h) (Or.inl ⟨by rfl, ?_⟩) hSw ?_
      · intro wz hsz
        obtain ⟨z0, z1⟩ := hsz
        go_simp
      try simp [Act.put]
      refine wpAnyH_done (by kernel_rfl) ?_ _
      go_wp2_with fail
      go_meet
      case rel => exact ⟨by simp [eg], hw1⟩
    | true =>
      rw [eg] at kg
      by_cases m1 : (m : Int) < 1
      · have m2 : ¬ 1 ≤ m := by omega
        refine wp_region_held (S := fun w' => w'.cell? ⟨w.heap.size, 0, none⟩ = some (.int .i64 W) ∧ w'.cell? ⟨w.heap.size, 1, none⟩ = some (.slice q n c)) (by kernel_rfl) ?_
        change wpAnyH _ _ _ _ _ _ _ _ (World.drew _)
        have hSw := (⟨(bA.on hw0.drew).c0, (bA.on hw0.drew).c1⟩ : _ ∧ _)
        refine wpAnyH_take (i := 0) (v := cel W q n c) rfl (by kernel_rfl) (by kernel_rfl) (by kernel_rfl) (fun _ _ _ h => h) (Or.inl ⟨by rfl, ?_⟩) hSw ?_
        · intro wz hsz
          obtain ⟨z0, z1⟩ := hsz
          go_simp
        try simp [Act.put]
        refine wpAnyH_ready (rs := [1]) (by kernel_rfl) (by simp) ?_
        refine AllReadyH.cons rfl (fun K hK => ?_) AllReadyH.nil
        go_simp
        go_wp2_with (first | (go_at_call 44; refine (kg _ (hf0.below hw0.drew)).mono ?_; rintro e w5 ⟨rfl, hb5⟩; have hw1 := stepA hw0.drew hb5; clear hb5) | (fail))
        refine hK.out _ _ (⟨(bA.on hw1).c0, (bA.on hw1).c1⟩) (fun hSn => ?_)
        clear hK K hSw
        have hSw := hSn
        clear hSn
        try simp [Act.put]
        refine wpAnyH_take (i := 2) (v := .bool false) rfl (by kernel_rfl) (by kernel_rfl) (by kernel_rfl) (fun _ _ _ h => h) (Or.inl ⟨by rfl, ?_⟩) hSw ?_
        · intro wz hsz
          obtain ⟨z0, z1⟩ := hsz
          go_simp
        try simp [Act.put]
        refine wpAnyH_take (i := 3) (v := .bool false) rfl (by kernel_rfl) (by kernel_rfl) (by kernel_rfl) (fun _ _ _ h => h) (Or.inl ⟨by rfl, ?_⟩) hSw ?_
        · intro wz hsz
          obtain ⟨z0, z1⟩ := hsz
          go_simp
        try simp [Act.put]
        refine wpAnyH_take (i := 4) (v := .slice b m d) rfl (by kernel_rfl) (by kernel_rfl) (by kernel_rfl) (fun _ _ _ h => h) (Or.inl ⟨by rfl, ?_⟩) hSw ?_
        · intro wz hsz
          obtain ⟨z0, z1⟩ := hsz
          go_simp
        try simp [Act.put]
        refine wpAnyH_take (i := 5) (v := .int .i64 (m : Int)) rfl (by kernel_rfl) (by kernel_rfl) (by kernel_rfl) (fun _ _ _ h => h) (Or.inl ⟨by rfl, ?_⟩) hSw ?_
        · intro wz hsz
          obtain ⟨z0, z1⟩ := hsz
          go_simp
        try simp [Act.put]
        refine wpAnyH_take (i := 6) (v := .bool true) rfl (by kernel_rfl) (by kernel_rfl) (by kernel_rfl) (fun _ _ _ h => h) (Or.inl ⟨by rfl, ?_⟩) hSw ?_
        · intro wz hsz
          obtain ⟨z0, z1⟩ := hsz
          go_simp
          try omega
        try simp [Act.put]
        refine wpAnyH_take (i := 7) (v := .bool true) rfl (by kernel_rfl) (by kernel_rfl) (by kernel_rfl) (fun _ _ _ h => h) (Or.inl ⟨by rfl, ?_⟩) hSw ?_
        · intro wz hsz
          obtain ⟨z0, z1⟩ := hsz
          go_simp
        try simp [Act.put]
        refine wpAnyH_take (i := 8) (v := .bool true) rfl (by kernel_rfl) (by kernel_rfl) (by kernel_rfl) (fun _ _ _ h => h) (Or.inl ⟨by rfl, ?_⟩) hSw ?_
        · intro wz hsz
          obtain ⟨z0, z1⟩ := hsz
          go_simp
        try simp [Act.put]
        refine wpAnyH_take (i := 9) (v := undef) rfl (by kernel_rfl) (by kernel_rfl) (by kernel_rfl) (fun _ _ _ h => h) (Or.inr ⟨by kernel_rfl, rfl⟩) hSw ?_
        try simp [Act.put]
        refine wpAnyH_take (i := 10) (v := undef) rfl (by kernel_rfl) (by kernel_rfl) (by kernel_rfl) (fun _ _ _ h => h) (Or.inr ⟨by kernel_rfl, rfl⟩) hSw ?_
        try simp [Act.put]
        refine wpAnyH_take (i := 11) (v := undef) rfl (by kernel_rfl) (by kernel_rfl) (by kernel_rfl) (fun _ _ _ h => h) (Or.inr ⟨by kernel_rfl, rfl⟩) hSw ?_
        try simp [Act.put]
        refine wpAnyH_take (i := 12) (v := .bool true) rfl (by kernel_rfl) (by kernel_rfl) (by kernel_rfl) (fun _ _ _ h => h) (Or.inl ⟨by rfl, ?_⟩) hSw ?_
        · intro wz hsz
          obtain ⟨z0, z1⟩ := hsz
          go_simp
        try simp [Act.put]
        refine wpAnyH_take (i := 13) (v := .bool true) rfl (by kernel_rfl) (by kernel_rfl) (by kernel_rfl) (fun _ _ _ h => h) (Or.inl ⟨by rfl, ?_⟩) hSw ?_
        · intro wz hsz
          obtain ⟨z0, z1⟩ := hsz
          go_simp
        try simp [Act.put]
        refine wpAnyH_take (i := 14) (v := undef) rfl (by kernel_rfl) (by kernel_rfl) (by kernel_rfl) (fun _ _ _ h => h) (Or.inr ⟨by kernel_rfl, rfl⟩) hSw ?_
        try simp [Act.put]
        refine wpAnyH_take (i := 15) (v := undef) rfl (by kernel_rfl) (by kernel_rfl) (by kernel_rfl) (fun _ _ _ h => h) (Or.inr ⟨by kernel_rfl, rfl⟩) hSw ?_
        try simp [Act.put]
        refine wpAnyH_take (i := 16) (v := undef) rfl (by kernel_rfl) (by kernel_rfl) (by kernel_rfl) (fun _ _ _ h => h) (Or.inr ⟨by kernel_rfl, rfl⟩) hSw ?_
        try simp [Act.put]
        refine wpAnyH_take (i := 17) (v := undef) rfl (by kernel_rfl) (by kernel_rfl) (by kernel_rfl) (fun _ _ _ h => h) (Or.inr ⟨by kernel_rfl, rfl⟩) hSw ?_
        try simp [Act.put]
        refine wpAnyH_take (i := 18) (v := undef) rfl (by kernel_rfl) (by kernel_rfl) (by kernel_rfl) (fun _ _ _ h => h) (Or.inr ⟨by kernel_rfl, rfl⟩) hSw ?_
        try simp [Act.put]
        refine wpAnyH_take (i := 19) (v := undef) rfl (by kernel_rfl) (by kernel_rfl) (by kernel_rfl) (fun _ _ _ h => h) (Or.inr ⟨by kernel_rfl, rfl⟩) hSw ?_
        try simp [Act.put]
        refine wpAnyH_take (i := 20) (v := .bool true) rfl (by kernel_rfl) (by kernel_rfl) (by kernel_rfl) (fun _ _ _ h => h) (Or.inl ⟨by rfl, ?_⟩) hSw ?_
        · intro wz hsz
          obtain ⟨z0, z1⟩ := hsz
          go_simp
        try simp [Act.put]
        refine wpAnyH_done (by kernel_rfl) ?_ _
        go_wp2_with fail
        go_meet
        case rel => exact ⟨by simp [eg, m2], hw1⟩
      by_cases m3 : (256 : Int) < (m : Int)
      · have m4 : ¬ m ≤ 256 := by omega
        refine wp_region_held (S := fun w' => w'.cell? ⟨w.heap.size, 0, none⟩ = some (.int .i64 W) ∧ w'.cell? ⟨w.heap.size, 1, none⟩ = some (.slice q n c)) (by kernel_rfl) ?_
        change wpAnyH _ _ _ _ _ _ _ _ (World.drew _)
        have hSw := (⟨(bA.on hw0.drew).c0, (bA.on hw0.drew).c1⟩ : _ ∧ _)
        refine wpAnyH_take (i := 0) (v := cel W q n c) rfl (by kernel_rfl) (by kernel_rfl) (by kernel_rfl) (fun _ _ _ h => h) (Or.inl ⟨by rfl, ?_⟩) hSw ?_
        · intro wz hsz
          obtain ⟨z0, z1⟩ := hsz
          go_simp
        try simp [Act.put]
        refine wpAnyH_ready (rs := [1]) (by kernel_rfl) (by simp) ?_
        refine AllReadyH.cons rfl (fun K hK => ?_) AllReadyH.nil
        go_simp
        go_wp2_with (first | (go_at_call 44; refine (kg _ (hf0.below hw0.drew)).mono ?_; rintro e w5 ⟨rfl, hb5⟩; have hw1 := stepA hw0.drew hb5; clear hb5) | (fail))
        refine hK.out _ _ (⟨(bA.on hw1).c0, (bA.on hw1).c1⟩) (fun hSn => ?_)
        clear hK K hSw
        have hSw := hSn
        clear hSn
        try simp [Act.put]
        refine wpAnyH_take (i := 2) (v := .bool false) rfl (by kernel_rfl) (by kernel_rfl) (by kernel_rfl) (fun _ _ _ h => h) (Or.inl ⟨by rfl, ?_⟩) hSw ?_
        · intro wz hsz
          obtain ⟨z0, z1⟩ := hsz
          go_simp
        try simp [Act.put]
        refine wpAnyH_take (i := 3) (v := .bool false) rfl (by kernel_rfl) (by kernel_rfl) (by kernel_rfl) (fun _ _ _ h => h) (Or.inl ⟨by rfl, ?_⟩) hSw ?_
        · intro wz hsz
          obtain ⟨z0, z1⟩ := hsz
          go_simp
        try simp [Act.put]
        refine wpAnyH_take (i := 4) (v := .slice b m d) rfl (by kernel_rfl) (by kernel_rfl) (by kernel_rfl) (fun _ _ _ h => h) (Or.inl ⟨by rfl, ?_⟩) hSw ?_
        · intro wz hsz
          obtain ⟨z0, z1⟩ := hsz
          go_simp
        try simp [Act.put]
        refine wpAnyH_take (i := 5) (v := .int .i64 (m : Int)) rfl (by kernel_rfl) (by kernel_rfl) (by kernel_rfl) (fun _ _ _ h => h) (Or.inl ⟨by rfl, ?_⟩) hSw ?_
        · intro wz hsz
          obtain ⟨z0, z1⟩ := hsz
          go_simp
        try simp [Act.put]
        refine wpAnyH_take (i := 6) (v := .bool false) rfl (by kernel_rfl) (by kernel_rfl) (by kernel_rfl) (fun _ _ _ h => h) (Or.inl ⟨by rfl, ?_⟩) hSw ?_
        · intro wz hsz
          obtain ⟨z0, z1⟩ := hsz
          go_simp
          try omega
        try simp [Act.put]
        refine wpAnyH_take (i := 7) (v := .bool false) rfl (by kernel_rfl) (by kernel_rfl) (by kernel_rfl) (fun _ _ _ h => h) (Or.inl ⟨by rfl, ?_⟩) hSw ?_
        · intro wz hsz
          obtain ⟨z0, z1⟩ := hsz
          go_simp
        try simp [Act.put]
        refine wpAnyH_take (i := 8) (v := .bool false) rfl (by kernel_rfl) (by kernel_rfl) (by kernel_rfl) (fun _ _ _ h => h) (Or.inl ⟨by rfl, ?_⟩) hSw ?_
        · intro wz hsz
          obtain ⟨z0, z1⟩ := hsz
          go_simp
        try simp [Act.put]
        refine wpAnyH_take (i := 9) (v := .slice b m d) rfl (by kernel_rfl) (by kernel_rfl) (by kernel_rfl) (fun _ _ _ h => h) (Or.inl ⟨by rfl, ?_⟩) hSw ?_
        · intro wz hsz
          obtain ⟨z0, z1⟩ := hsz
          go_simp
        try simp [Act.put]
        refine wpAnyH_take (i := 10) (v := .int .i64 (m : Int)) rfl (by kernel_rfl) (by kernel_rfl) (by kernel_rfl) (fun _ _ _ h => h) (Or.inl ⟨by rfl, ?_⟩) hSw ?_
        · intro wz hsz
          obtain ⟨z0, z1⟩ := hsz
          go_simp
        try simp [Act.put]
        refine wpAnyH_take (i := 11) (v := .bool true) rfl (by kernel_rfl) (by kernel_rfl) (by kernel_rfl) (fun _ _ _ h => h) (Or.inl ⟨by rfl, ?_⟩) hSw ?_
        · intro wz hsz
          obtain ⟨z0, z1⟩ := hsz
          go_simp
          try omega
        try simp [Act.put]
        refine wpAnyH_take (i := 12) (v := .bool true) rfl (by kernel_rfl) (by kernel_rfl) (by kernel_rfl) (fun _ _ _ h => h) (Or.inl ⟨by rfl, ?_⟩) hSw ?_
        · intro wz hsz
          obtain ⟨z0, z1⟩ := hsz
          go_simp
        try simp [Act.put]
        refine wpAnyH_take (i := 13) (v := .bool true) rfl (by kernel_rfl) (by kernel_rfl) (by kernel_rfl) (fun _ _ _ h => h) (Or.inl ⟨by rfl, ?_⟩) hSw ?_
        · intro wz hsz
          obtain ⟨z0, z1⟩ := hsz
          go_simp
        try simp [Act.put]
        refine wpAnyH_take (i := 14) (v := undef) rfl (by kernel_rfl) (by kernel_rfl) (by kernel_rfl) (fun _ _ _ h => h) (Or.inr ⟨by kernel_rfl, rfl⟩) hSw ?_
        try simp [Act.put]
        refine wpAnyH_take (i := 15) (v := undef) rfl (by kernel_rfl) (by kernel_rfl) (by kernel_rfl) (fun _ _ _ h => h) (Or.inr ⟨by kernel_rfl, rfl⟩) hSw ?_
        try simp [Act.put]
        refine wpAnyH_take (i := 16) (v := undef) rfl (by kernel_rfl) (by kernel_rfl) (by kernel_rfl) (fun _ _ _ h => h) (Or.inr ⟨by kernel_rfl, rfl⟩) hSw ?_
        try simp [Act.put]
        refine wpAnyH_take (i := 17) (v := undef) rfl (by kernel_rfl) (by kernel_rfl) (by kernel_rfl) (fun _ _ _ h => h) (Or.inr ⟨by kernel_rfl, rfl⟩) hSw ?_
        try simp [Act.put]
        refine wpAnyH_take (i := 18) (v := undef) rfl (by kernel_rfl) (by kernel_rfl) (by kernel_rfl) (fun _ _ _ h => h) (Or.inr ⟨by kernel_rfl, rfl⟩) hSw ?_
        try simp [Act.put]
        refine wpAnyH_take (i := 19) (v := undef) rfl (by kernel_rfl) (by kernel_rfl) (by kernel_rfl) (fun _ _ _ h => h) (Or.inr ⟨by kernel_rfl, rfl⟩) hSw ?_
        try simp [Act.put]
        refine wpAnyH_take (i := 20) (v := .bool true) rfl (by kernel_rfl) (by kernel_rfl) (by kernel_rfl) (fun _ _ _ h => h) (Or.inl ⟨by rfl, ?_⟩) hSw ?_
        · intro wz hsz
          obtain ⟨z0, z1⟩ := hsz
          go_simp
        try simp [Act.put]
        refine wpAnyH_done (by kernel_rfl) ?_ _
        go_wp2_with fail
        go_meet
        case rel => exact ⟨by simp [eg, m4], hw1⟩
      have m5 : 1 ≤ m ∧ m ≤ 256 := by omega
      obtain ⟨gb, go, rfl, hgb, hgc⟩ := hg0 (by omega)
      have hg1 := hgc 0 (by omega)
      have kf := fun w h => sfree_any W q n c f (g 0) w h hn
      generalize hfb : frB n f (g 0) = fb at kf
      refine wp_region_held (S := fun w' => w'.cell? ⟨w.heap.size, 0, none⟩ = some (.int .i64 W) ∧ w'.cell? ⟨w.heap.size, 1, none⟩ = some (.slice q n c) ∧ w'.cell? ⟨gb, go + 0, none⟩ = some (.int .i64 (g 0))) (by kernel_rfl) ?_
      change wpAnyH _ _ _ _ _ _ _ _ (World.drew _)
      have hSw := (⟨(bA.on hw0.drew).c0, (bA.on hw0.drew).c1, (hw0.drew.cell (p := ⟨gb, go + 0, none⟩) hgb).trans hg1⟩ : _ ∧ _ ∧ _)
      refine wpAnyH_take (i := 0) (v := cel W q n c) rfl (by kernel_rfl) (by kernel_rfl) (by kernel_rfl) (fun _ _ _ h => h) (Or.inl ⟨by rfl, ?_⟩) hSw ?_
      · intro wz hsz
        obtain ⟨z0, z1, z2⟩ := hsz
        go_simp
      try simp [Act.put]
      refine wpAnyH_ready (rs := [1]) (by kernel_rfl) (by simp) ?_
      refine AllReadyH.cons rfl (fun K hK => ?_) AllReadyH.nil
      go_simp
      go_wp2_with (first | (go_at_call 44; refine (kg _ (hf0.below hw0.drew)).mono ?_; rintro e w5 ⟨rfl, hb5⟩; have hw1 := stepA hw0.drew hb5; clear hb5) | (fail))
      refine hK.out _ _ (⟨(bA.on hw1).c0, (bA.on hw1).c1, (hw1.cell (p := ⟨gb, go + 0, none⟩) hgb).trans hg1⟩) (fun hSn => ?_)
      clear hK K hSw
      have hSw := hSn
      clear hSn
      try simp [Act.put]
      refine wpAnyH_take (i := 2) (v := .bool false) rfl (by kernel_rfl) (by kernel_rfl) (by kernel_rfl) (fun _ _ _ h => h) (Or.inl ⟨by rfl, ?_⟩) hSw ?_
      · intro wz hsz
        obtain ⟨z0, z1, z2⟩ := hsz
        go_simp
      try simp [Act.put]
      refine wpAnyH_take (i := 3) (v := .bool false) rfl (by kernel_rfl) (by kernel_rfl) (by kernel_rfl) (fun _ _ _ h => h) (Or.inl ⟨by rfl, ?_⟩) hSw ?_
      · intro wz hsz
        obtain ⟨z0, z1, z2⟩ := hsz
        go_simp
      try simp [Act.put]
      refine wpAnyH_take (i := 4) (v := .slice (some ⟨gb, go, none⟩) m d) rfl (by kernel_rfl) (by kernel_rfl) (by kernel_rfl) (fun _ _ _ h => h) (Or.inl ⟨by rfl, ?_⟩) hSw ?_
      · intro wz hsz
        obtain ⟨z0, z1, z2⟩ := hsz
        go_simp
      try simp [Act.put]
      refine wpAnyH_take (i := 5) (v := .int .i64 (m : Int)) rfl (by kernel_rfl) (by kernel_rfl) (by kernel_rfl) (fun _ _ _ h => h) (Or.inl ⟨by rfl, ?_⟩) hSw ?_
      · intro wz hsz
        obtain ⟨z0, z1, z2⟩ := hsz
        go_simp
      try simp [Act.put]
      refine wpAnyH_take (i := 6) (v := .bool false) rfl (by kernel_rfl) (by kernel_rfl) (by kernel_rfl) (fun _ _ _ h => h) (Or.inl ⟨by rfl, ?_⟩) hSw ?_
      · intro wz hsz
        obtain ⟨z0, z1, z2⟩ := hsz
        go_simp
        try omega
      try simp [Act.put]
      refine wpAnyH_take (i := 7) (v := .bool false) rfl (by kernel_rfl) (by kernel_rfl) (by kernel_rfl) (fun _ _ _ h => h) (Or.inl ⟨by rfl, ?_⟩) hSw ?_
      · intro wz hsz
        obtain ⟨z0, z1, z2⟩ := hsz
        go_simp
      try simp [Act.put]
      refine wpAnyH_take (i := 8) (v := .bool false) rfl (by kernel_rfl) (by kernel_rfl) (by kernel_rfl) (fun _ _ _ h => h) (Or.inl ⟨by rfl, ?_⟩) hSw ?_
      · intro wz hsz
        obtain ⟨z0, z1, z2⟩ := hsz
        go_simp
      try simp [Act.put]
      refine wpAnyH_take (i := 9) (v := .slice (some ⟨gb, go, none⟩) m d) rfl (by kernel_rfl) (by kernel_rfl) (by kernel_rfl) (fun _ _ _ h => h) (Or.inl ⟨by rfl, ?_⟩) hSw ?_
      · intro wz hsz
        obtain ⟨z0, z1, z2⟩ := hsz
        go_simp
      try simp [Act.put]
      refine wpAnyH_take (i := 10) (v := .int .i64 (m : Int)) rfl (by kernel_rfl) (by kernel_rfl) (by kernel_rfl) (fun _ _ _ h => h) (Or.inl ⟨by rfl, ?_⟩) hSw ?_
      · intro wz hsz
        obtain ⟨z0, z1, z2⟩ := hsz
        go_simp
      try simp [Act.put]
      refine wpAnyH_take (i := 11) (v := .bool false) rfl (by kernel_rfl) (by kernel_rfl) (by kernel_rfl) (fun _ _ _ h => h) (Or.inl ⟨by rfl, ?_⟩) hSw ?_
      · intro wz hsz
        obtain ⟨z0, z1, z2⟩ := hsz
        go_simp
        try omega
      try simp [Act.put]
      refine wpAnyH_take (i := 12) (v := .bool false) rfl (by kernel_rfl) (by kernel_rfl) (by kernel_rfl) (fun _ _ _ h => h) (Or.inl ⟨by rfl, ?_⟩) hSw ?_
      · intro wz hsz
        obtain ⟨z0, z1, z2⟩ := hsz
        go_simp
      try simp [Act.put]
      refine wpAnyH_take (i := 13) (v := .bool false) rfl (by kernel_rfl) (by kernel_rfl) (by kernel_rfl) (fun _ _ _ h => h) (Or.inl ⟨by rfl, ?_⟩) hSw ?_
      · intro wz hsz
        obtain ⟨z0, z1, z2⟩ := hsz
        go_simp
      try simp [Act.put]
      refine wpAnyH_take (i := 14) (v := cel W q n c) rfl (by kernel_rfl) (by kernel_rfl) (by kernel_rfl) (fun _ _ _ h => h) (Or.inl ⟨by rfl, ?_⟩) hSw ?_
      · intro wz hsz
        obtain ⟨z0, z1, z2⟩ := hsz
        go_simp
      try simp [Act.put]
      refine wpAnyH_take (i := 15) (v := .slice (some ⟨gb, go, none⟩) m d) rfl (by kernel_rfl) (by kernel_rfl) (by kernel_rfl) (fun _ _ _ h => h) (Or.inl ⟨by rfl, ?_⟩) hSw ?_
      · intro wz hsz
        obtain ⟨z0, z1, z2⟩ := hsz
        go_simp
      try simp [Act.put]
      refine wpAnyH_take (i := 16) (v := .pointer (some ⟨gb, go + 0, none⟩)) rfl (by kernel_rfl) (by kernel_rfl) (by kernel_rfl) (fun _ _ _ h => h) (Or.inl ⟨by rfl, ?_⟩) hSw ?_
      · intro wz hsz
        obtain ⟨z0, z1, z2⟩ := hsz
        go_simp
        intro h9; omega
      try simp [Act.put]
      refine wpAnyH_take (i := 17) (v := .int .i64 (g 0)) rfl (by kernel_rfl) (by kernel_rfl) (by kernel_rfl) (fun _ _ _ h => h) (Or.inl ⟨by rfl, ?_⟩) hSw ?_
      · intro wz hsz
        obtain ⟨z0, z1, z2⟩ := hsz
        go_simp
      try simp [Act.put]
      refine wpAnyH_ready (rs := [18]) (by kernel_rfl) (by simp) ?_
      refine AllReadyH.cons rfl (fun K hK => ?_) AllReadyH.nil
      go_simp
      go_wp2_with (first | (go_at_call 45; refine (kf _ (hf0.below hw1)).mono ?_; rintro e w6 ⟨rfl, hb6⟩; have hw2 := stepA hw1 hb6; clear hb6) | (fail))
      refine hK.out _ _ (⟨(bA.on hw2).c0, (bA.on hw2).c1, (hw2.cell (p := ⟨gb, go + 0, none⟩) hgb).trans hg1⟩) (fun hSn => ?_)
      clear hK K hSw
      have hSw := hSn
      clear hSn
      try simp [Act.put]
      refine wpAnyH_take (i := 19) (v := .bool (!fb)) rfl (by kernel_rfl) (by kernel_rfl) (by kernel_rfl) (fun _ _ _ h => h) (Or.inl ⟨by rfl, ?_⟩) hSw ?_
      · intro wz hsz
        obtain ⟨z0, z1, z2⟩ := hsz
        go_simp
      try simp [Act.put]
      refine wpAnyH_take (i := 20) (v := .bool (!fb)) rfl (by kernel_rfl) (by kernel_rfl) (by kernel_rfl) (fun _ _ _ h => h) (Or.inl ⟨by rfl, ?_⟩) hSw ?_
      · intro wz hsz
        obtain ⟨z0, z1, z2⟩ := hsz
        go_simp
      try simp [Act.put]
      refine wpAnyH_done (by kernel_rfl) ?_ _
      go_wp2_with fail
      go_meet
      case rel => exact ⟨by simp [eg, m5.1, m5.2, hfb], hw2⟩
  case rest =>
    obtain ⟨rfl, hbc⟩ := hcut
    have hB := hb0.trans (hbc.mono hb0.size)
    cases eq : (celB W n f && decide (1 ≤ m) && decide (m ≤ 256) && frB n f (g 0)) with
    | false =>
      have eQ : wayQ W n f m g = false := by simp only [wayQ, eq, Bool.false_and]
      have e1 : wayS W n f m g 1 = 0 := by simp [wayS, eQ]
      have e2 : wayS W n f m g 2 = 0 := by simp [wayS, eQ]
      go_wp2
      go_ret3
      exact ⟨ret_three e1.symm e2.symm eQ.symm, hB⟩
    | true =>
      have eQ : wayQ W n f m g = wayK W n f g (m - 1) := by simp only [wayQ, eq, Bool.true_and]
      have hpt : celB W n f = true ∧ 1 ≤ m ∧ m ≤ 256 := by simp only [Bool.and_eq_true, decide_eq_true_eq] at eq; exact ⟨eq.1.1.1, eq.1.1.2, eq.1.2⟩
      obtain ⟨hc, m1, m2⟩ := hpt
      have hs := (celB_parts hc).1
      have bB := bA.on hbc
      have hF : Hid (IL wc q n f) := hf0.below hbc
      have hG : Hid (IL wc b m g) := hg0.below hbc
      have HQ : Hid _ := eQ
      clear eq eQ hf hg hf0 hg0 hbc bA hc hw0
      go_wp2
      go_loopw [7, 8, 9] (fun s1 s2 i wr => ∃ k : Nat, k ≤ m - 1 ∧ i = .int .i64 ((k : Int) + 1) ∧ s1 = .int .i64 (kindK W n f g 1 k) ∧ s2 = .int .i64 (kindK W n f g 2 k) ∧ wayK W n f g k = true ∧ Below wc.heap.size wc wr) (fun _ _ i _ => m - (intOf i).toNat)
      case atStart => exact ⟨0, by omega, rfl, rfl, rfl, rfl, Below.refl _ _⟩
      case round =>
        obtain ⟨k, hk, rfl, rfl, rfl, hway, hbel⟩ := hrel
        by_cases hlt : k < m - 1
        · have j1 : (k : Int) + 1 < (m : Int) := by omega
          have j0 : (0 : Int) ≤ (k : Int) := by omega
          have j3 : (0 : Int) ≤ (k : Int) + 1 := by omega
          have j4 : ((k : Int) + 1).toNat = k + 1 := by omega
          have j5 : IntKind.i64.wrap ((k : Int) + 1 - 1) = (k : Int) := by rw [IntWalk.i64_in _ ⟨by omega, by omega⟩]; omega
          have j6 : IntKind.i64.wrap (k : Int) = (k : Int) := IntWalk.i64_in _ ⟨by omega, by omega⟩
          have j2 : (k : Int) < (m : Int) := by omega
          have bC := bB.on hbel
          have x0 := bC.c0
          have x1 := bC.c1
          obtain ⟨gb, go, rfl, hgb, hgc⟩ := hG.out (by omega)
          have g0 := (hbel.cell (p := ⟨gb, go + k, none⟩) hgb).trans (hgc k (by omega))
          have g1 := (hbel.cell (p := ⟨gb, go + (k + 1), none⟩) hgb).trans (hgc (k + 1) (by omega))
          have hgb' : gb < wr.heap.size := Nat.lt_of_lt_of_le hgb hbel.size
          have hFr := IL.below hF.out hbel
          have ks := fun w h => sStep W q n c f (g k) (g (k + 1)) w hs h
          have hin := stepV_in W n f (g k) (g (k + 1))
          have n1 := kindK_le W n f g 1 k
          have n2 := kindK_le W n f g 2 k
          have t1 : Hid (kindK W n f g 1 (k + 1) = kindK W n f g 1 k + if stepV W n f (g k) (g (k + 1)) = 1 then 1 else 0) := (rfl : _ = _)
          have t2 : Hid (kindK W n f g 2 (k + 1) = kindK W n f g 2 k + if stepV W n f (g k) (g (k + 1)) = 2 then 1 else 0) := (rfl : _ = _)
          have hno : Hid (stepV W n f (g k) (g (k + 1)) = 0 → wayK W n f g (m - 1) = false) := fun h => wayK_not hlt h
          have hyes : Hid (stepV W n f (g k) (g (k + 1)) ≠ 0 → wayK W n f g (k + 1) = true) := fun h => (by unfold wayK; simp [hway, h] : _ = _)
          clear hgc hF hG hway
          generalize hv : stepV W n f (g k) (g (k + 1)) = v at ks hin t1 t2 hno hyes
          clear hv
          generalize g k = gk at *
          generalize g (k + 1) = gl' at *
          generalize kindK W n f g 1 k = K1 at *
          generalize kindK W n f g 2 k = K2 at *
          have hw0 := Below.refl wr.heap.size wr
          go_upto_region 8 with fail
          go_cut [47] from 37 to 47 (fun s wx => s = .int .i64 v ∧ Below wr.heap.size wr wx)
          case first =>
            go_region_held3 (fun w' => w'.cell? ⟨w.heap.size, 0, none⟩ = some (.int .i64 W) ∧ w'.cell? ⟨w.heap.size, 1, none⟩ = some (.slice q n c) ∧ w'.cell? ⟨gb, go + k, none⟩ = some (.int .i64 gk) ∧ w'.cell? ⟨gb, go + (k + 1), none⟩ = some (.int .i64 gl'))
              (first | (exact ⟨x0, x1, g0, g1⟩) | (exact ⟨(bC.on hw0.drew).c0, (bC.on hw0.drew).c1, (hw0.drew.cell (p := ⟨gb, go + k, none⟩) hgb').trans g0, (hw0.drew.cell (p := ⟨gb, go + (k + 1), none⟩) hgb').trans g1⟩) | (exact ⟨(bC.on hw1).c0, (bC.on hw1).c1, (hw1.cell (p := ⟨gb, go + k, none⟩) hgb').trans g0, (hw1.cell (p := ⟨gb, go + (k + 1), none⟩) hgb').trans g1⟩) | (fail))
              (first | (go_at_call 48; refine (ks _ (hFr.below hw0.drew)).mono ?_; rintro e w5 ⟨rfl, hb5⟩; have hw1 := stepA hw0.drew hb5; clear hb5) | (fail))
            go_wp2_with fail
            go_meet
            case rel => exact ⟨rfl, hw1⟩
          case rest =>
            obtain ⟨rfl, hbs⟩ := hcut
            have hbel2 := stepA hbel hbs
            have hB2 := stepA hB hbel2
            clear x0 x1 g0 g1 hw0 ks hFr
            rcases hin with rfl | rfl | rfl
            · have h0 := hno.out rfl
              have eQ := HQ.out.trans h0
              have e1 : wayS W n f m g 1 = 0 := by simp [wayS, eQ]
              have e2 : wayS W n f m g 2 = 0 := by simp [wayS, eQ]
              clear hno hyes t1 t2 HQ h0
              go_wp2
              go_ret3
              exact ⟨ret_three e1.symm e2.symm eQ.symm, hB2⟩
            · have h0 := hyes.out (by decide)
              have u1 := t1.out
              have u2 := t2.out
              simp at u1 u2
              clear hno hyes t1 t2 HQ
              go_wp2
              exact ⟨⟨k + 1, by omega, by go_num, by rw [u1], by rw [u2], h0, hbel2⟩, by simp [intOf]; omega⟩
            · have h0 := hyes.out (by decide)
              have u1 := t1.out
              have u2 := t2.out
              simp at u1 u2
              clear hno hyes t1 t2 HQ
              go_wp2
              exact ⟨⟨k + 1, by omega, by go_num, by rw [u1], by rw [u2], h0, hbel2⟩, by simp [intOf]; omega⟩
        · have hke : k = m - 1 := by omega
          subst hke
          have eQ := HQ.out.trans hway
          have e1 : wayS W n f m g 1 = kindK W n f g 1 (m - 1) := by simp [wayS, eQ]
          have e2 : wayS W n f m g 2 = kindK W n f g 2 (m - 1) := by simp [wayS, eQ]
          have j1 : ¬ ((m - 1 : Nat) : Int) + 1 < (m : Int) := by omega
          have E1 : Hid _ := e1
          have E2 : Hid _ := e2
          have E3 : Hid _ := eQ
          clear hF hG HQ e1 e2 eQ
          go_wp2
          go_ret3
          exact ⟨ret_three E1.out.symm E2.out.symm E3.out.symm, stepA hB hbel⟩
end Go.Proofs.Ytfciecoigfnnhaa
