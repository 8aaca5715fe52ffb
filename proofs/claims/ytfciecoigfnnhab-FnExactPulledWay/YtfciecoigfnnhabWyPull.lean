/- A way pulled straight, as the specification says it. -/
import Derived.Test.YtfciecoigfnnhabWyClear
import Derived.Test.YtfciecoigfnnhabWyPlM
import Derived.Laws.OwnMore
import Derived.Deep.RegionHeld
import Derived.Deep.RegionHeld3
import Derived.Deep.CutRange
import Derived.Deep.Cut
namespace Go.Proofs.Ytfciecoigfnnhab
open Go.RowKit
set_option maxHeartbeats 8000000 in
theorem specPull (W : Int) (q b : Option Addr) (n c m d : Nat) (f g : Nat → Int) (w : World) (hn : n ≤ 1048576) (hm : m ≤ 1048576) (hf : IL w q n f) (hg : IL w b m g) :
    Calls Try.prog 11 #[cel W q n c, .slice b m d] w fun e w' => AnsW w w' e (pullL W n f m g) (pullQ W n f m g) ∧ Below w.heap.size w w' := by
  obtain ⟨i0, hi, hzz⟩ := Option.map_eq_some_iff.1 infoI
  simp only [Prod.mk.injEq] at hzz
  obtain ⟨hz0, hz1, hz2⟩ := hzz
  have hb0 : Below w.heap.size w (w.alloc (celO W q n c 27)) := (Below.refl _ _).alloc (Nat.le_refl _) _
  have bA := bx_new (w := w) (celL W q n c) 27 rfl
  have hf0 := hf.below hb0
  have hg0 := hg.below hb0
  go_enter Try.func11, Try.ntmps11
  go_upto_region 1 with fail
  generalize w.alloc (celO W q n c 27) = w1 at bA hf0 hg0 hb0 ⊢
  have hw0 := Below.refl w1.heap.size w1
  go_cut [30] from 10 to 30 (fun s wx => s = .bool (!(celB W n f && decide (1 ≤ m) && decide (m ≤ 256) && frB n f (g 0))) ∧ Below w1.heap.size w1 wx)
  case first =>
    have kg := fun w h => specGoodL W q n c f w hn h
    cases eg : celB W n f with
    | false =>
      rw [eg] at kg
      refine wp_region_held (S := fun w' => w'.cell? ⟨w.heap.size, 0, none⟩ = some (.int .i64 W) ∧ w'.cell? ⟨w.heap.size, 1, none⟩ = some (.slice q n c)) (by kernel_rfl) ?_
      change wpAnyH _ _ _ _ _ _ _ _ (World.drew _)
      have hSw := (⟨(bA.on hw0.drew).c0, (bA.on hw0.drew).c1⟩ : _ ∧ _)
      refine wpAnyH_take (i := 0) (v := cel W q n c) rfl (by kernel_rfl) (by kernel_rfl) (by kernel_rfl) (fun _ _ _ h => h) (Or.inl ⟨by rfl, ?_⟩) hSw ?_
      · intro wz hsz
        obtain ⟨z0, z1⟩ := hsz
        go_simp
      try simp [Act.put]
      refine wpAnyH_ready (rs := [1]) (by kernel_rfl) (by simp) ?_
      refine AllReadyH.cons rfl (fun K hK => ?_) AllReadyH.nil
      go_simp
      go_wp2_with (first | (go_at_call 21; refine (kg _ (hf0.below hw0.drew)).mono ?_; rintro e w5 ⟨rfl, hb5⟩; have hw1 := stepA hw0.drew hb5; clear hb5) | (fail))
      refine hK.out _ _ (⟨(bA.on hw1).c0, (bA.on hw1).c1⟩) (fun hSn => ?_)
      clear hK K hSw
      have hSw := hSn
      clear hSn
      try simp [Act.put]
      refine wpAnyH_take (i := 2) (v := .bool true) rfl (by kernel_rfl) (by kernel_rfl) (by kernel_rfl) (fun _ _ _ h => h) (Or.inl ⟨by rfl, ?_⟩) hSw ?_
      · intro wz hsz
        obtain ⟨z0, z1⟩ := hsz
        go_simp
      try simp [Act.put]
      refine wpAnyH_take (i := 3) (v := .bool true) rfl (by kernel_rfl) (by kernel_rfl) (by kernel_rfl) (fun _ _ _ h => h) (Or.inl ⟨by rfl, ?_⟩) hSw ?_
      · intro wz hsz
        obtain ⟨z0, z1⟩ := hsz
        go_simp
      try simp [Act.put]
      refine wpAnyH_take (i := 4) (v := undef) rfl (by kernel_rfl) (by kernel_rfl) (by kernel_rfl) (fun _ _ _ h => h) (Or.inr ⟨by kernel_rfl, rfl⟩) hSw ?_
      try simp [Act.put]
      refine wpAnyH_take (i := 5) (v := undef) rfl (by kernel_rfl) (by kernel_rfl) (by kernel_rfl) (fun _ _ _ h => h) (Or.inr ⟨by kernel_rfl, rfl⟩) hSw ?_
      try simp [Act.put]
      refine wpAnyH_take (i := 6) (v := undef) rfl (by kernel_rfl) (by kernel_rfl) (by kernel_rfl) (fun _ _ _ h => h) (Or.inr ⟨by kernel_rfl, rfl⟩) hSw ?_
      try simp [Act.put]
      refine wpAnyH_take (i := 7) (v := .bool true) rfl (by kernel_rfl) (by kernel_rfl) (by kernel_rfl) (fun _ _ _ h => h) (Or.inl ⟨by rfl, ?_⟩) hSw ?_
      · intro wz hsz
        obtain ⟨z0, z1⟩ := hsz
        go_simp
      try simp [Act.put]
      refine wpAnyH_take (i := 8) (v := .bool true) rfl (by kernel_rfl) (by kernel_rfl) (by kernel_rfl) (fun _ _ _ h => h) (Or.inl ⟨by rfl, ?_⟩) hSw ?_
      · intro wz hsz
        obtain ⟨z0, z1⟩ := hsz
        go_simp
      try simp [Act.put]
      refine wpAnyH_take (i := 9) (v := undef) rfl (by kernel_rfl) (by kernel_rfl) (by kernel_rfl) (fun _ _ _ h => h) (Or.inr ⟨by kernel_rfl, rfl⟩) hSw ?_
      try simp [Act.put]
      refine wpAnyH_take (i := 10) (v := undef) rfl (by kernel_rfl) (by kernel_rfl) (by kernel_rfl) (fun _ _ _ h => h) (Or.inr ⟨by kernel_rfl, rfl⟩) hSw ?_
      try simp [Act.put]
      refine wpAnyH_take (i := 11) (v := undef) rfl (by kernel_rfl) (by kernel_rfl) (by kernel_rfl) (fun _ _ _ h => h) (Or.inr ⟨by kernel_rfl, rfl⟩) hSw ?_
      try simp [Act.put]
      refine wpAnyH_take (i := 12) (v := .bool true) rfl (by kernel_rfl) (by kernel_rfl) (by kernel_rfl) (fun _ _ _ h => h) (Or.inl ⟨by rfl, ?_⟩) hSw ?_
      · intro wz hsz
        obtain ⟨z0, z1⟩ := hsz
        go_simp
      try simp [Act.put]
      refine wpAnyH_take (i := 13) (v := .bool true) rfl (by kernel_rfl) (by kernel_rfl) (by kernel_rfl) (fun _ _ _ h => h) (Or.inl ⟨by rfl, ?_⟩) hSw ?_
      · intro wz hsz
        obtain ⟨z0, z1⟩ := hsz
        go_simp
      try simp [Act.put]
      refine wpAnyH_take (i := 14) (v := undef) rfl (by kernel_rfl) (by kernel_rfl) (by kernel_rfl) (fun _ _ _ h => h) (Or.inr ⟨by kernel_rfl, rfl⟩) hSw ?_
      try simp [Act.put]
      refine wpAnyH_take (i := 15) (v := undef) rfl (by kernel_rfl) (by kernel_rfl) (by kernel_rfl) (fun _ _ _ h => h) (Or.inr ⟨by kernel_rfl, rfl⟩) hSw ?_
      try simp [Act.put]
      refine wpAnyH_take (i := 16) (v := undef) rfl (by kernel_rfl) (by kernel_rfl) (by kernel_rfl) (fun _ _ _ h => h) (Or.inr ⟨by kernel_rfl, rfl⟩) hSw ?_
      try simp [Act.put]
      refine wpAnyH_take (i := 17) (v := undef) rfl (by kernel_rfl) (by kernel_rfl) (by kernel_rfl) (fun _ _ _ h => h) (Or.inr ⟨by kernel_rfl, rfl⟩) hSw ?_
      try simp [Act.put]
      refine wpAnyH_take (i := 18) (v := undef) rfl (by kernel_rfl) (by kernel_rfl) (by kernel_rfl) (fun _ _ _ h => h) (Or.inr ⟨by kernel_rfl, rfl⟩) hSw ?_
      try simp [Act.put]
      refine wpAnyH_take (i := 19) (v := undef) rfl (by kernel_rfl) (by kernel_rfl) (by kernel_rfl) (fun _ _ _ h => h) (Or.inr ⟨by kernel_rfl, rfl⟩) hSw ?_
      try simp [Act.put]
      refine wpAnyH_take (i := 20) (v := .bool true) rfl (by kernel_rfl) (by kernel_rfl) (by kernel_rfl) (fun _ _ _ h => h) (Or.inl ⟨by rfl, ?_⟩) hSw ?_
      · intro wz hsz
        obtain ⟨z0, z1⟩ := hsz
        go_simp
      try simp [Act.put]
      refine wpAnyH_done (by kernel_rfl) ?_ _
      go_wp2_with fail
      go_meet
      case rel => exact ⟨by simp [eg], hw1⟩
    | true =>
      rw [eg] at kg
      by_cases m1 : (m : Int) < 1
      · have m2 : ¬ 1 ≤ m := by omega
        refine wp_region_held (S := fun w' => w'.cell? ⟨w.heap.size, 0, none⟩ = some (.int .i64 W) ∧ w'.cell? ⟨w.heap.size, 1, none⟩ = some (.slice q n c)) (by kernel_rfl) ?_
        change wpAnyH _ _ _ _ _ _ _ _ (World.drew _)
        have hSw := (⟨(bA.on hw0.drew).c0, (bA.on hw0.drew).c1⟩ : _ ∧ _)
        refine wpAnyH_take (i := 0) (v := cel W q n c) rfl (by kernel_rfl) (by kernel_rfl) (by kernel_rfl) (fun _ _ _ h => h) (Or.inl ⟨by rfl, ?_⟩) hSw ?_
        · intro wz hsz
          obtain ⟨z0, z1⟩ := hsz
          go_simp
        try simp [Act.put]
        refine wpAnyH_ready (rs := [1]) (by kernel_rfl) (by simp) ?_
        refine AllReadyH.cons rfl (fun K hK => ?_) AllReadyH.nil
        go_simp
        go_wp2_with (first | (go_at_call 21; refine (kg _ (hf0.below hw0.drew)).mono ?_; rintro e w5 ⟨rfl, hb5⟩; have hw1 := stepA hw0.drew hb5; clear hb5) | (fail))
        refine hK.out _ _ (⟨(bA.on hw1).c0, (bA.on hw1).c1⟩) (fun hSn => ?_)
        clear hK K hSw
        have hSw := hSn
        clear hSn
        try simp [Act.put]
        refine wpAnyH_take (i := 2) (v := .bool false) rfl (by kernel_rfl) (by kernel_rfl) (by kernel_rfl) (fun _ _ _ h => h) (Or.inl ⟨by rfl, ?_⟩) hSw ?_
        · intro wz hsz
          obtain ⟨z0, z1⟩ := hsz
          go_simp
        try simp [Act.put]
        refine wpAnyH_take (i := 3) (v := .bool false) rfl (by kernel_rfl) (by kernel_rfl) (by kernel_rfl) (fun _ _ _ h => h) (Or.inl ⟨by rfl, ?_⟩) hSw ?_
        · intro wz hsz
          obtain ⟨z0, z1⟩ := hsz
          go_simp
        try simp [Act.put]
        refine wpAnyH_take (i := 4) (v := .slice b m d) rfl (by kernel_rfl) (by kernel_rfl) (by kernel_rfl) (fun _ _ _ h => h) (Or.inl ⟨by rfl, ?_⟩) hSw ?_
        · intro wz hsz
          obtain ⟨z0, z1⟩ := hsz
          go_simp
        try simp [Act.put]
        refine wpAnyH_take (i := 5) (v := .int .i64 (m : Int)) rfl (by kernel_rfl) (by kernel_rfl) (by kernel_rfl) (fun _ _ _ h => h) (Or.inl ⟨by rfl, ?_⟩) hSw ?_
        · intro wz hsz
          obtain ⟨z0, z1⟩ := hsz
          go_simp
        try simp [Act.put]
        refine wpAnyH_take (i := 6) (v := .bool true) rfl (by kernel_rfl) (by kernel_rfl) (by kernel_rfl) (fun _ _ _ h => h) (Or.inl ⟨by rfl, ?_⟩) hSw ?_
        · intro wz hsz
          obtain ⟨z0, z1⟩ := hsz
          go_simp
          try omega
        try simp [Act.put]
        refine wpAnyH_take (i := 7) (v := .bool true) rfl (by kernel_rfl) (by kernel_rfl) (by kernel_rfl) (fun _ _ _ h => h) (Or.inl ⟨by rfl, ?_⟩) hSw ?_
        · intro wz hsz
          obtain ⟨z0, z1⟩ := hsz
          go_simp
        try simp [Act.put]
        refine wpAnyH_take (i := 8) (v := .bool true) rfl (by kernel_rfl) (by kernel_rfl) (by kernel_rfl) (fun _ _ _ h => h) (Or.inl ⟨by rfl, ?_⟩) hSw ?_
        · intro wz hsz
          obtain ⟨z0, z1⟩ := hsz
          go_simp
        try simp [Act.put]
        refine wpAnyH_take (i := 9) (v := undef) rfl (by kernel_rfl) (by kernel_rfl) (by kernel_rfl) (fun _ _ _ h => h) (Or.inr ⟨by kernel_rfl, rfl⟩) hSw ?_
        try simp [Act.put]
        refine wpAnyH_take (i := 10) (v := undef) rfl (by kernel_rfl) (by kernel_rfl) (by kernel_rfl) (fun _ _ _ h => h) (Or.inr ⟨by kernel_rfl, rfl⟩) hSw ?_
        try simp [Act.put]
        refine wpAnyH_take (i := 11) (v := undef) rfl (by kernel_rfl) (by kernel_rfl) (by kernel_rfl) (fun _ _ _ h => h) (Or.inr ⟨by kernel_rfl, rfl⟩) hSw ?_
        try simp [Act.put]
        refine wpAnyH_take (i := 12) (v := .bool true) rfl (by kernel_rfl) (by kernel_rfl) (by kernel_rfl) (fun _ _ _ h => h) (Or.inl ⟨by rfl, ?_⟩) hSw ?_
        · intro wz hsz
          obtain ⟨z0, z1⟩ := hsz
          go_simp
        try simp [Act.put]
        refine wpAnyH_take (i := 13) (v := .bool true) rfl (by kernel_rfl) (by kernel_rfl) (by kernel_rfl) (fun _ _ _ h => h) (Or.inl ⟨by rfl, ?_⟩) hSw ?_
        · intro wz hsz
          obtain ⟨z0, z1⟩ := hsz
          go_simp
        try simp [Act.put]
        refine wpAnyH_take (i := 14) (v := undef) rfl (by kernel_rfl) (by kernel_rfl) (by kernel_rfl) (fun _ _ _ h => h) (Or.inr ⟨by kernel_rfl, rfl⟩) hSw ?_
        try simp [Act.put]
        refine wpAnyH_take (i := 15) (v := undef) rfl (by kernel_rfl) (by kernel_rfl) (by kernel_rfl) (fun _ _ _ h => h) (Or.inr ⟨by kernel_rfl, rfl⟩) hSw ?_
        try simp [Act.put]
        refine wpAnyH_take (i := 16) (v := undef) rfl (by kernel_rfl) (by kernel_rfl) (by kernel_rfl) (fun _ _ _ h => h) (Or.inr ⟨by kernel_rfl, rfl⟩) hSw ?_
        try simp [Act.put]
        refine wpAnyH_take (i := 17) (v := undef) rfl (by kernel_rfl) (by kernel_rfl) (by kernel_rfl) (fun _ _ _ h => h) (Or.inr ⟨by kernel_rfl, rfl⟩) hSw ?_
        try simp [Act.put]
        refine wpAnyH_take (i := 18) (v := undef) rfl (by kernel_rfl) (by kernel_rfl) (by kernel_rfl) (fun _ _ _ h => h) (Or.inr ⟨by kernel_rfl, rfl⟩) hSw ?_
        try simp [Act.put]
        refine wpAnyH_take (i := 19) (v := undef) rfl (by kernel_rfl) (by kernel_rfl) (by kernel_rfl) (fun _ _ _ h => h) (Or.inr ⟨by kernel_rfl, rfl⟩) hSw ?_
        try simp [Act.put]
        refine wpAnyH_take (i := 20) (v := .bool true) rfl (by kernel_rfl) (by kernel_rfl) (by kernel_rfl) (fun _ _ _ h => h) (Or.inl ⟨by rfl, ?_⟩) hSw ?_
        · intro wz hsz
          obtain ⟨z0, z1⟩ := hsz
          go_simp
        try simp [Act.put]
        refine wpAnyH_done (by kernel_rfl) ?_ _
        go_wp2_with fail
        go_meet
        case rel => exact ⟨by simp [eg, m2], hw1⟩
      by_cases m3 : (256 : Int) < (m : Int)
      · have m4 : ¬ m ≤ 256 := by omega
        refine wp_region_held (S := fun w' => w'.cell? ⟨w.heap.size, 0, none⟩ = some (.int .i64 W) ∧ w'.cell? ⟨w.heap.size, 1, none⟩ = some (.slice q n c)) (by kernel_rfl) ?_
        change wpAnyH _ _ _ _ _ _ _ _ (World.drew _)
        have hSw := (⟨(bA.on hw0.drew).c0, (bA.on hw0.drew).c1⟩ : _ ∧ _)
        refine wpAnyH_take (i := 0) (v := cel W q n c) rfl (by kernel_rfl) (by kernel_rfl) (by kernel_rfl) (fun _ _ _ h => h) (Or.inl ⟨by rfl, ?_⟩) hSw ?_
        · intro wz hsz
          obtain ⟨z0, z1⟩ := hsz
          go_simp
        try simp [Act.put]
        refine wpAnyH_ready (rs := [1]) (by kernel_rfl) (by simp) ?_
        refine AllReadyH.cons rfl (fun K hK => ?_) AllReadyH.nil
        go_simp
        go_wp2_with (first | (go_at_call 21; refine (kg _ (hf0.below hw0.drew)).mono ?_; rintro e w5 ⟨rfl, hb5⟩; have hw1 := stepA hw0.drew hb5; clear hb5) | (fail))
        refine hK.out _ _ (⟨(bA.on hw1).c0, (bA.on hw1).c1⟩) (fun hSn => ?_)
        clear hK K hSw
        have hSw := hSn
        clear hSn
        try simp [Act.put]
        refine wpAnyH_take (i := 2) (v := .bool false) rfl (by kernel_rfl) (by kernel_rfl) (by kernel_rfl) (fun _ _ _ h => h) (Or.inl ⟨by rfl, ?_⟩) hSw ?_
        · intro wz hsz
          obtain ⟨z0, z1⟩ := hsz
          go_simp
        try simp [Act.put]
        refine wpAnyH_take (i := 3) (v := .bool false) rfl (by kernel_rfl) (by kernel_rfl) (by kernel_rfl) (fun _ _ _ h => h) (Or.inl ⟨by rfl, ?_⟩) hSw ?_
        · intro wz hsz
          obtain ⟨z0, z1⟩ := hsz
          go_simp
        try simp [Act.put]
        refine wpAnyH_take (i := 4) (v := .slice b m d) rfl (by kernel_rfl) (by kernel_rfl) (by kernel_rfl) (fun _ _ _ h => h) (Or.inl ⟨by rfl, ?_⟩) hSw ?_
        · intro wz hsz
          obtain ⟨z0, z1⟩ := hsz
          go_simp
        try simp [Act.put]
        refine wpAnyH_take (i := 5) (v := .int .i64 (m : Int)) rfl (by kernel_rfl) (by kernel_rfl) (by kernel_rfl) (fun _ _ _ h => h) (Or.inl ⟨by rfl, ?_⟩) hSw ?_
        · intro wz hsz
          obtain ⟨z0, z1⟩ := hsz
          go_simp
        try simp [Act.put]
        refine wpAnyH_take (i := 6) (v := .bool false) rfl (by kernel_rfl) (by kernel_rfl) (by kernel_rfl) (fun _ _ _ h => h) (Or.inl ⟨by rfl, ?_⟩) hSw ?_
        · intro wz hsz
          obtain ⟨z0, z1⟩ := hsz
          go_simp
          try omega
        try simp [Act.put]
        refine wpAnyH_take (i := 7) (v := .bool false) rfl (by kernel_rfl) (by kernel_rfl) (by kernel_rfl) (fun _ _ _ h => h) (Or.inl ⟨by rfl, ?_⟩) hSw ?_
        · intro wz hsz
          obtain ⟨z0, z1⟩ := hsz
          go_simp
        try simp [Act.put]
        refine wpAnyH_take (i := 8) (v := .bool false) rfl (by kernel_rfl) (by kernel_rfl) (by kernel_rfl) (fun _ _ _ h => h) (Or.inl ⟨by rfl, ?_⟩) hSw ?_
        · intro wz hsz
          obtain ⟨z0, z1⟩ := hsz
          go_simp
        try simp [Act.put]
        refine wpAnyH_take (i := 9) (v := .slice b m d) rfl (by kernel_rfl) (by kernel_rfl) (by kernel_rfl) (fun _ _ _ h => h) (Or.inl ⟨by rfl, ?_⟩) hSw ?_
        · intro wz hsz
          obtain ⟨z0, z1⟩ := hsz
          go_simp
        try simp [Act.put]
        refine wpAnyH_take (i := 10) (v := .int .i64 (m : Int)) rfl (by kernel_rfl) (by kernel_rfl) (by kernel_rfl) (fun _ _ _ h => h) (Or.inl ⟨by rfl, ?_⟩) hSw ?_
        · intro wz hsz
          obtain ⟨z0, z1⟩ := hsz
          go_simp
        try simp [Act.put]
        refine wpAnyH_take (i := 11) (v := .bool true) rfl (by kernel_rfl) (by kernel_rfl) (by kernel_rfl) (fun _ _ _ h => h) (Or.inl ⟨by rfl, ?_⟩) hSw ?_
        · intro wz hsz
          obtain ⟨z0, z1⟩ := hsz
          go_simp
          try omega
        try simp [Act.put]
        refine wpAnyH_take (i := 12) (v := .bool true) rfl (by kernel_rfl) (by kernel_rfl) (by kernel_rfl) (fun _ _ _ h => h) (Or.inl ⟨by rfl, ?_⟩) hSw ?_
        · intro wz hsz
          obtain ⟨z0, z1⟩ := hsz
          go_simp
        try simp [Act.put]
        refine wpAnyH_take (i := 13) (v := .bool true) rfl (by kernel_rfl) (by kernel_rfl) (by kernel_rfl) (fun _ _ _ h => h) (Or.inl ⟨by rfl, ?_⟩) hSw ?_
        · intro wz hsz
          obtain ⟨z0, z1⟩ := hsz
          go_simp
        try simp [Act.put]
        refine wpAnyH_take (i := 14) (v := undef) rfl (by kernel_rfl) (by kernel_rfl) (by kernel_rfl) (fun _ _ _ h => h) (Or.inr ⟨by kernel_rfl, rfl⟩) hSw ?_
        try simp [Act.put]
        refine wpAnyH_take (i := 15) (v := undef) rfl (by kernel_rfl) (by kernel_rfl) (by kernel_rfl) (fun _ _ _ h => h) (Or.inr ⟨by kernel_rfl, rfl⟩) hSw ?_
        try simp [Act.put]
        refine wpAnyH_take (i := 16) (v := undef) rfl (by kernel_rfl) (by kernel_rfl) (by kernel_rfl) (fun _ _ _ h => h) (Or.inr ⟨by kernel_rfl, rfl⟩) hSw ?_
        try simp [Act.put]
        refine wpAnyH_take (i := 17) (v := undef) rfl (by kernel_rfl) (by kernel_rfl) (by kernel_rfl) (fun _ _ _ h => h) (Or.inr ⟨by kernel_rfl, rfl⟩) hSw ?_
        try simp [Act.put]
        refine wpAnyH_take (i := 18) (v := undef) rfl (by kernel_rfl) (by kernel_rfl) (by kernel_rfl) (fun _ _ _ h => h) (Or.inr ⟨by kernel_rfl, rfl⟩) hSw ?_
        try simp [Act.put]
        refine wpAnyH_take (i := 19) (v := undef) rfl (by kernel_rfl) (by kernel_rfl) (by kernel_rfl) (fun _ _ _ h => h) (Or.inr ⟨by kernel_rfl, rfl⟩) hSw ?_
        try simp [Act.put]
        refine wpAnyH_take (i := 20) (v := .bool true) rfl (by kernel_rfl) (by kernel_rfl) (by kernel_rfl) (fun _ _ _ h => h) (Or.inl ⟨by rfl, ?_⟩) hSw ?_
        · intro wz hsz
          obtain ⟨z0, z1⟩ := hsz
          go_simp
        try simp [Act.put]
        refine wpAnyH_done (by kernel_rfl) ?_ _
        go_wp2_with fail
        go_meet
        case rel => exact ⟨by simp [eg, m4], hw1⟩
      have m5 : 1 ≤ m ∧ m ≤ 256 := by omega
      obtain ⟨gb, go, rfl, hgb, hgc⟩ := hg0 (by omega)
      have hg1 := hgc 0 (by omega)
      have kf := fun w h => sfree_any W q n c f (g 0) w h hn
      generalize hfb : frB n f (g 0) = fb at kf
      refine wp_region_held (S := fun w' => w'.cell? ⟨w.heap.size, 0, none⟩ = some (.int .i64 W) ∧ w'.cell? ⟨w.heap.size, 1, none⟩ = some (.slice q n c) ∧ w'.cell? ⟨gb, go + 0, none⟩ = some (.int .i64 (g 0))) (by kernel_rfl) ?_
      change wpAnyH _ _ _ _ _ _ _ _ (World.drew _)
      have hSw := (⟨(bA.on hw0.drew).c0, (bA.on hw0.drew).c1, (hw0.drew.cell (p := ⟨gb, go + 0, none⟩) hgb).trans hg1⟩ : _ ∧ _ ∧ _)
      refine wpAnyH_take (i := 0) (v := cel W q n c) rfl (by kernel_rfl) (by kernel_rfl) (by kernel_rfl) (fun _ _ _ h => h) (Or.inl ⟨by rfl, ?_⟩) hSw ?_
      · intro wz hsz
        obtain ⟨z0, z1, z2⟩ := hsz
        go_simp
      try simp [Act.put]
      refine wpAnyH_ready (rs := [1]) (by kernel_rfl) (by simp) ?_
      refine AllReadyH.cons rfl (fun K hK => ?_) AllReadyH.nil
      go_simp
      go_wp2_with (first | (go_at_call 21; refine (kg _ (hf0.below hw0.drew)).mono ?_; rintro e w5 ⟨rfl, hb5⟩; have hw1 := stepA hw0.drew hb5; clear hb5) | (fail))
      refine hK.out _ _ (⟨(bA.on hw1).c0, (bA.on hw1).c1, (hw1.cell (p := ⟨gb, go + 0, none⟩) hgb).trans hg1⟩) (fun hSn => ?_)
      clear hK K hSw
      have hSw := hSn
      clear hSn
      try simp [Act.put]
      refine wpAnyH_take (i := 2) (v := .bool false) rfl (by kernel_rfl) (by kernel_rfl) (by kernel_rfl) (fun _ _ _ h => h) (Or.inl ⟨by rfl, ?_⟩) hSw ?_
      · intro wz hsz
        obtain ⟨z0, z1, z2⟩ := hsz
        go_simp
      try simp [Act.put]
      refine wpAnyH_take (i := 3) (v := .bool false) rfl (by kernel_rfl) (by kernel_rfl) (by kernel_rfl) (fun _ _ _ h => h) (Or.inl ⟨by rfl, ?_⟩) hSw ?_
      · intro wz hsz
        obtain ⟨z0, z1, z2⟩ := hsz
        go_simp
      try simp [Act.put]
      refine wpAnyH_take (i := 4) (v := .slice (some ⟨gb, go, none⟩) m d) rfl (by kernel_rfl) (by kernel_rfl) (by kernel_rfl) (fun _ _ _ h => h) (Or.inl ⟨by rfl, ?_⟩) hSw ?_
      · intro wz hsz
        obtain ⟨z0, z1, z2⟩ := hsz
        go_simp
      try simp [Act.put]
      refine wpAnyH_take (i := 5) (v := .int .i64 (m : Int)) rfl (by kernel_rfl) (by kernel_rfl) (by kernel_rfl) (fun _ _ _ h => h) (Or.inl ⟨by rfl, ?_⟩) hSw ?_
      · intro wz hsz
        obtain ⟨z0, z1, z2⟩ := hsz
        go_simp
      try simp [Act.put]
      refine wpAnyH_take (i := 6) (v := .bool false) rfl (by kernel_rfl) (by kernel_rfl) (by kernel_rfl) (fun _ _ _ h => h) (Or.inl ⟨by rfl, ?_⟩) hSw ?_
      · intro wz hsz
        obtain ⟨z0, z1, z2⟩ := hsz
        go_simp
        try omega
      try simp [Act.put]
      refine wpAnyH_take (i := 7) (v := .bool false) rfl (by kernel_rfl) (by kernel_rfl) (by kernel_rfl) (fun _ _ _ h => h) (Or.inl ⟨by rfl, ?_⟩) hSw ?_
      · intro wz hsz
        obtain ⟨z0, z1, z2⟩ := hsz
        go_simp
      try simp [Act.put]
      refine wpAnyH_take (i := 8) (v := .bool false) rfl (by kernel_rfl) (by kernel_rfl) (by kernel_rfl) (fun _ _ _ h => h) (Or.inl ⟨by rfl, ?_⟩) hSw ?_
      · intro wz hsz
        obtain ⟨z0, z1, z2⟩ := hsz
        go_simp
      try simp [Act.put]
      refine wpAnyH_take (i := 9) (v := .slice (some ⟨gb, go, none⟩) m d) rfl (by kernel_rfl) (by kernel_rfl) (by kernel_rfl) (fun _ _ _ h => h) (Or.inl ⟨by rfl, ?_⟩) hSw ?_
      · intro wz hsz
        obtain ⟨z0, z1, z2⟩ := hsz
        go_simp
      try simp [Act.put]
      refine wpAnyH_take (i := 10) (v := .int .i64 (m : Int)) rfl (by kernel_rfl) (by kernel_rfl) (by kernel_rfl) (fun _ _ _ h => h) (Or.inl ⟨by rfl, ?_⟩) hSw ?_
      · intro wz hsz
        obtain ⟨z0, z1, z2⟩ := hsz
        go_simp
      try simp [Act.put]
      refine wpAnyH_take (i := 11) (v := .bool false) rfl (by kernel_rfl) (by kernel_rfl) (by kernel_rfl) (fun _ _ _ h => h) (Or.inl ⟨by rfl, ?_⟩) hSw ?_
      · intro wz hsz
        obtain ⟨z0, z1, z2⟩ := hsz
        go_simp
        try omega
      try simp [Act.put]
      refine wpAnyH_take (i := 12) (v := .bool false) rfl (by kernel_rfl) (by kernel_rfl) (by kernel_rfl) (fun _ _ _ h => h) (Or.inl ⟨by rfl, ?_⟩) hSw ?_
      · intro wz hsz
        obtain ⟨z0, z1, z2⟩ := hsz
        go_simp
      try simp [Act.put]
      refine wpAnyH_take (i := 13) (v := .bool false) rfl (by kernel_rfl) (by kernel_rfl) (by kernel_rfl) (fun _ _ _ h => h) (Or.inl ⟨by rfl, ?_⟩) hSw ?_
      · intro wz hsz
        obtain ⟨z0, z1, z2⟩ := hsz
        go_simp
      try simp [Act.put]
      refine wpAnyH_take (i := 14) (v := cel W q n c) rfl (by kernel_rfl) (by kernel_rfl) (by kernel_rfl) (fun _ _ _ h => h) (Or.inl ⟨by rfl, ?_⟩) hSw ?_
      · intro wz hsz
        obtain ⟨z0, z1, z2⟩ := hsz
        go_simp
      try simp [Act.put]
      refine wpAnyH_take (i := 15) (v := .slice (some ⟨gb, go, none⟩) m d) rfl (by kernel_rfl) (by kernel_rfl) (by kernel_rfl) (fun _ _ _ h => h) (Or.inl ⟨by rfl, ?_⟩) hSw ?_
      · intro wz hsz
        obtain ⟨z0, z1, z2⟩ := hsz
        go_simp
      try simp [Act.put]
      refine wpAnyH_take (i := 16) (v := .pointer (some ⟨gb, go + 0, none⟩)) rfl (by kernel_rfl) (by kernel_rfl) (by kernel_rfl) (fun _ _ _ h => h) (Or.inl ⟨by rfl, ?_⟩) hSw ?_
      · intro wz hsz
        obtain ⟨z0, z1, z2⟩ := hsz
        go_simp
        intro h9; omega
      try simp [Act.put]
      refine wpAnyH_take (i := 17) (v := .int .i64 (g 0)) rfl (by kernel_rfl) (by kernel_rfl) (by kernel_rfl) (fun _ _ _ h => h) (Or.inl ⟨by rfl, ?_⟩) hSw ?_
      · intro wz hsz
        obtain ⟨z0, z1, z2⟩ := hsz
        go_simp
      try simp [Act.put]
      refine wpAnyH_ready (rs := [18]) (by kernel_rfl) (by simp) ?_
      refine AllReadyH.cons rfl (fun K hK => ?_) AllReadyH.nil
      go_simp
      go_wp2_with (first | (go_at_call 25; refine (kf _ (hf0.below hw1)).mono ?_; rintro e w6 ⟨rfl, hb6⟩; have hw2 := stepA hw1 hb6; clear hb6) | (fail))
      refine hK.out _ _ (⟨(bA.on hw2).c0, (bA.on hw2).c1, (hw2.cell (p := ⟨gb, go + 0, none⟩) hgb).trans hg1⟩) (fun hSn => ?_)
      clear hK K hSw
      have hSw := hSn
      clear hSn
      try simp [Act.put]
      refine wpAnyH_take (i := 19) (v := .bool (!fb)) rfl (by kernel_rfl) (by kernel_rfl) (by kernel_rfl) (fun _ _ _ h => h) (Or.inl ⟨by rfl, ?_⟩) hSw ?_
      · intro wz hsz
        obtain ⟨z0, z1, z2⟩ := hsz
        go_simp
      try simp [Act.put]
      refine wpAnyH_take (i := 20) (v := .bool (!fb)) rfl (by kernel_rfl) (by kernel_rfl) (by kernel_rfl) (fun _ _ _ h => h) (Or.inl ⟨by rfl, ?_⟩) hSw ?_
      · intro wz hsz
        obtain ⟨z0, z1, z2⟩ := hsz
        go_simp
      try simp [Act.put]
      refine wpAnyH_done (by kernel_rfl) ?_ _
      go_wp2_with fail
      go_meet
      case rel => exact ⟨by simp [eg, m5.1, m5.2, hfb], hw2⟩
  case rest =>
    obtain ⟨rfl, hbc⟩ := hcut
    have hB := hb0.trans (hbc.mono hb0.size)
    cases eq : (celB W n f && decide (1 ≤ m) && decide (m ≤ 256) && frB n f (g 0)) with
    | false =>
      have eQ : pullQ W n f m g = false := by simp only [pullQ, eq, Bool.false_and]
      have e1 : pullL W n f m g = [] := by simp [pullL, eQ]
      have E1 : Hid _ := e1
      have E2 : Hid _ := eQ
      clear e1 eQ
      go_wp2
      go_ret2
      exact ⟨by rw [E1.out, E2.out]; exact ansW_nil _ _ _, hB⟩
    | true =>
      have eQ : pullQ W n f m g = legK W n f g (m - 1) := by simp only [pullQ, eq, Bool.true_and]
      have hpt : celB W n f = true ∧ 1 ≤ m ∧ m ≤ 256 := by simp only [Bool.and_eq_true, decide_eq_true_eq] at eq; exact ⟨eq.1.1.1, eq.1.1.2, eq.1.2⟩
      obtain ⟨hc, m1, m2⟩ := hpt
      have hs := (celB_parts hc).1
      have bB := bA.on hbc
      have hF : Hid (IL wc q n f) := hf0.below hbc
      have hG0 := hg0.below hbc
      obtain ⟨gb, go, rfl, hgb, hgc⟩ := hG0 (by omega)
      have HG : Hid _ := hgc
      have HQ : Hid _ := eQ
      clear eq eQ hf hg hf0 hg0 hbc bA hc hw0 hgc hG0
      go_wp2
      go_loopw [6] (fun i wr => ∃ k : Nat, k ≤ m - 1 ∧ i = .int .i64 ((k : Int) + 1) ∧ legK W n f g k = true ∧ Below wc.heap.size wc wr) (fun i _ => m - (intOf i).toNat)
      case atStart => exact ⟨0, by omega, rfl, rfl, Below.refl _ _⟩
      case round =>
        obtain ⟨k, hk, rfl, hway, hbel⟩ := hrel
        by_cases hlt : k < m - 1
        · have j1 : (k : Int) + 1 < (m : Int) := by omega
          have j0 : (0 : Int) ≤ (k : Int) := by omega
          have j3 : (0 : Int) ≤ (k : Int) + 1 := by omega
          have j4 : ((k : Int) + 1).toNat = k + 1 := by omega
          have j5 : IntKind.i64.wrap ((k : Int) + 1 - 1) = (k : Int) := by rw [IntWalk.i64_in _ ⟨by omega, by omega⟩]; omega
          have j6 : IntKind.i64.wrap (k : Int) = (k : Int) := IntWalk.i64_in _ ⟨by omega, by omega⟩
          have j2 : (k : Int) < (m : Int) := by omega
          have bC := bB.on hbel
          have x0 := bC.c0
          have x1 := bC.c1
          have g0 := (hbel.cell (p := ⟨gb, go + k, none⟩) hgb).trans (HG.out k (by omega))
          have g1 := (hbel.cell (p := ⟨gb, go + (k + 1), none⟩) hgb).trans (HG.out (k + 1) (by omega))
          have hgb' : gb < wr.heap.size := Nat.lt_of_lt_of_le hgb hbel.size
          have hFr := IL.below hF.out hbel
          have ks := fun w h => sClear W q n c f (g k) (g (k + 1)) w hs h
          have hno : Hid (clrB W n f (g k) (g (k + 1)) = false → legK W n f g (m - 1) = false) := fun h => legK_not hlt h
          have hyes : Hid (clrB W n f (g k) (g (k + 1)) = true → legK W n f g (k + 1) = true) := fun h => (by unfold legK; simp [hway, h] : _ = _)
          clear HG hF hway
          generalize hv : clrB W n f (g k) (g (k + 1)) = v at ks hno hyes
          clear hv
          generalize g k = gk at g0 ks
          generalize g (k + 1) = gl' at g1 ks
          have hw0 := Below.refl wr.heap.size wr
          go_upto_region 6 with fail
          go_cut [48] from 37 to 48 (fun s wx => s = .bool (!v) ∧ Below wr.heap.size wr wx)
          case first =>
            go_region_held3 (fun w' => w'.cell? ⟨w.heap.size, 0, none⟩ = some (.int .i64 W) ∧ w'.cell? ⟨w.heap.size, 1, none⟩ = some (.slice q n c) ∧ w'.cell? ⟨gb, go + k, none⟩ = some (.int .i64 gk) ∧ w'.cell? ⟨gb, go + (k + 1), none⟩ = some (.int .i64 gl'))
              (first | (exact ⟨x0, x1, g0, g1⟩) | (exact ⟨(bC.on hw0.drew).c0, (bC.on hw0.drew).c1, (hw0.drew.cell (p := ⟨gb, go + k, none⟩) hgb').trans g0, (hw0.drew.cell (p := ⟨gb, go + (k + 1), none⟩) hgb').trans g1⟩) | (exact ⟨(bC.on hw1).c0, (bC.on hw1).c1, (hw1.cell (p := ⟨gb, go + k, none⟩) hgb').trans g0, (hw1.cell (p := ⟨gb, go + (k + 1), none⟩) hgb').trans g1⟩) | (fail))
              (first | (go_at_call 22; refine (ks _ (hFr.below hw0.drew)).mono ?_; rintro e w5 ⟨rfl, hb5⟩; have hw1 := stepA hw0.drew hb5; clear hb5) | (fail))
            go_wp2_with fail
            go_meet
            case rel => exact ⟨rfl, hw1⟩
          case rest =>
            obtain ⟨rfl, hbs⟩ := hcut
            have hbel2 := stepA hbel hbs
            have hB2 := stepA hB hbel2
            clear x0 x1 g0 g1 hw0 ks hFr
            cases v with
            | false =>
              have h0 := hno.out rfl
              have eQ := HQ.out.trans h0
              have e1 : pullL W n f m g = [] := by simp [pullL, eQ]
              have E1 : Hid _ := e1
              have E2 : Hid _ := eQ
              clear hno hyes HQ h0 e1 eQ
              go_wp2
              go_ret2
              exact ⟨by rw [E1.out, E2.out]; exact ansW_nil _ _ _, hB2⟩
            | true =>
              have h0 := hyes.out rfl
              clear hno hyes HQ
              go_wp2
              exact ⟨⟨k + 1, by omega, by go_num, h0, hbel2⟩, by simp [intOf]; omega⟩
        · have hke : k = m - 1 := by omega
          subst hke
          have eQ := HQ.out.trans hway
          have e1 : pullL W n f m g = g 0 :: pullK W n f g m (m - 1) 0 := by simp [pullL, eQ]
          have j1 : ¬ ((m - 1 : Nat) : Int) + 1 < (m : Int) := by omega
          have E1 : Hid _ := e1
          have E2 : Hid _ := eQ
          have HW : Hid (legK W n f g (m - 1) = true) := hway
          have bC := bB.on hbel
          have hB2 := stepA hB hbel
          have hF2 : Hid (IL wr q n f) := IL.below hF.out hbel
          have HG2 : Hid (∀ i, i < m → wr.cell? ⟨gb, go + i, none⟩ = some (.int .i64 (g i))) := fun i hi => (hbel.cell (p := ⟨gb, go + i, none⟩) hgb).trans (HG.out i hi)
          have hgb2 : gb < wr.heap.size := Nat.lt_of_lt_of_le hgb hbel.size
          have g0 : wr.cell? ⟨gb, go, none⟩ = some (.int .i64 (g 0)) := HG2.out 0 (by omega)
          have hown0 := own_one wr wr.heap.size (g 0) (Nat.le_refl _)
          have hal : Below wr.heap.size wr (wr.alloc (.cells #[.int .i64 (g 0)] 3)) := (Below.refl _ _).alloc (Nat.le_refl _) _
          have jm : (0 : Int) < (m : Int) := by omega
          have hgot : Hid (gotL W n f g m [g 0] 0) := (rfl : _ = _)
          clear hF HG HQ e1 eQ hway hbel bB hB hgb
          go_wp2
          clear g0
          generalize wr.alloc (.cells #[.int .i64 (g 0)] 3) = w3 at hown0 hal ⊢
          have hnb : w.heap.size < wr.heap.size := bC.lt
          obtain ⟨w7, hw7⟩ : ∃ w7, w7 = wr := ⟨wr, rfl⟩
          subst hw7
          go_loopw [7, 8] (fun v i wx => ∃ (p : Nat) (l : List Int), p ≤ m - 1 ∧ i = .int .i64 (p : Int) ∧ l.length ≤ p + 1 ∧ gotL W n f g m l p ∧ Own wx w7.heap.size v l.length (gl l) ∧ Below w7.heap.size w7 wx) (fun _ i _ => m - (intOf i).toNat)
          case atStart => exact ⟨0, [g 0], by omega, rfl, by simp, hgot.out, hown0, hal⟩
          case round =>
            obtain ⟨p, l, hp, rfl, hll, hgl, hown, hbe⟩ := hrel
            clear hown0 hal
            have HL : Hid (gotL W n f g m l p) := hgl
            clear hgl hgot
            obtain ⟨sa, sc, rfl⟩ := hown.shape
            obtain ⟨w8, hw8⟩ : ∃ w8, w8 = wr := ⟨wr, rfl⟩
            subst hw8
            by_cases hlt2 : p < m - 1
            · have k1 : (p : Int) < (m : Int) - 1 := by omega
              have k0 : (0 : Int) ≤ (p : Int) := by omega
              have k2 : (p : Int) < (m : Int) := by omega
              have HX : Hid (clrB W n f (g p) (g (p + 1)) = true) := legK_at HW.out hlt2
              go_wp2
              go_loopw [9] (fun i wy => ∃ j : Nat, p < j ∧ j ≤ m - 1 ∧ i = .int .i64 (j : Int) ∧ (∀ i, j < i → i ≤ m - 1 → clrB W n f (g p) (g i) = false) ∧ Below w8.heap.size w8 wy) (fun i _ => (intOf i).toNat)
              case atStart => exact ⟨m - 1, by omega, by omega, by congr 1; omega, fun i h1 h2 => by omega, Below.refl _ _⟩
              case round =>
                obtain ⟨j, hpj, hjm, rfl, hall, hby⟩ := hrel
                have HA : Hid _ := hall
                clear hall
                have hby7 : Below w7.heap.size w7 wr := hbe.trans (hby.mono hbe.size)
                have bE := bC.on hby7
                have x0 := bE.c0
                have x1 := bE.c1
                have g0 := (hby7.cell (p := ⟨gb, go + p, none⟩) hgb2).trans (HG2.out p (by omega))
                have g1 := (hby7.cell (p := ⟨gb, go + j, none⟩) hgb2).trans (HG2.out j (by omega))
                have hgb' : gb < wr.heap.size := Nat.lt_of_lt_of_le hgb2 hby7.size
                have hFr := IL.below hF2.out hby7
                have ks := fun w h => sClear W q n c f (g p) (g j) w hs h
                have q0 : (0 : Int) ≤ (j : Int) := by omega
                have q1 : (j : Int) < (m : Int) := by omega
                have hyes : Hid (clrB W n f (g p) (g j) = true → lastC W n f g p (m - 1) = j) := fun h => ((lastC_down hjm HA.out).trans (lastC_hit (by omega) h) : _ = _)
                have hno : Hid (clrB W n f (g p) (g j) = false → p < j - 1 ∧ ∀ i, j - 1 < i → i ≤ m - 1 → clrB W n f (g p) (g i) = false) := fun h => (by
                  have hne : j ≠ p + 1 := by intro e; rw [e, HX.out] at h; cases h
                  refine ⟨by omega, fun i h1 h2 => ?_⟩
                  by_cases e : i = j
                  · rw [e]; exact h
                  · exact HA.out i (by omega) h2 : _ ∧ _)
                have hgs : Hid (lastC W n f g p (m - 1) = j → gotL W n f g m (l ++ [g j]) j) := fun e => (by have := got_step HW.out HL.out hlt2; rw [e] at this; exact this : gotL _ _ _ _ _ _ _)
                have bC' := bE
                clear HG2 hF2 HX HA bC bE
                have bC := bC'
                clear bC'
                generalize hv : clrB W n f (g p) (g j) = v at ks hno hyes
                clear hv
                generalize hgk : g p = gk at g0 ks
                have HK : Hid (g p = gk) := hgk
                clear hgk
                generalize hgj : g j = gl' at g1 ks hgs
                clear hgj
                have hw0 := Below.refl wr.heap.size wr
                go_upto_region 12 with fail
                go_cut [71] from 61 to 71 (fun s wx => s = .bool (!v) ∧ Below wr.heap.size wr wx)
                case first =>
                  go_region_held3 (fun w' => w'.cell? ⟨w.heap.size, 0, none⟩ = some (.int .i64 W) ∧ w'.cell? ⟨w.heap.size, 1, none⟩ = some (.slice q n c) ∧ w'.cell? ⟨gb, go + p, none⟩ = some (.int .i64 gk) ∧ w'.cell? ⟨gb, go + j, none⟩ = some (.int .i64 gl'))
                    (first | (exact ⟨x0, x1, g0, g1⟩) | (exact ⟨(bC.on hw0.drew).c0, (bC.on hw0.drew).c1, (hw0.drew.cell (p := ⟨gb, go + p, none⟩) hgb').trans g0, (hw0.drew.cell (p := ⟨gb, go + j, none⟩) hgb').trans g1⟩) | (exact ⟨(bC.on hw1).c0, (bC.on hw1).c1, (hw1.cell (p := ⟨gb, go + p, none⟩) hgb').trans g0, (hw1.cell (p := ⟨gb, go + j, none⟩) hgb').trans g1⟩) | (fail))
                    (first | (go_at_call 22; refine (ks _ (hFr.below hw0.drew)).mono ?_; rintro e w5 ⟨rfl, hb5⟩; have hw1 := stepA hw0.drew hb5; clear hb5) | (fail))
                  go_wp2_with fail
                  go_meet
                  case rel => exact ⟨rfl, hw1⟩
                case rest =>
                  obtain ⟨rfl, hbs⟩ := hcut
                  have hby2 := stepA hby hbs
                  have hby72 : Below w7.heap.size w7 wc := hby7.trans (hbs.mono hby7.size)
                  clear x0 x1 hw0 ks hFr
                  cases v with
                  | false =>
                    obtain ⟨h1, h2⟩ := hno.out rfl
                    clear hno hyes hgs g0 g1
                    go_wp2
                    exact ⟨⟨j - 1, h1, by omega, by congr 1; omega, (by first | exact h2 | (rw [← HK.out]; exact h2)), hby2⟩, by simp [intOf]; omega⟩
                  | true =>
                    have h1 := hyes.out rfl
                    have h2 := hgs.out h1
                    have H2 : Hid _ := h2
                    clear hno hyes hgs h1 h2
                    have hown4 := hown.below hby2
                    have g2 := (hbs.cell (p := ⟨gb, go + j, none⟩) hgb').trans g1
                    have hbz : w7.heap.size ≤ wc.heap.size := hby72.size
                    clear g0 g1 hown
                    obtain ⟨w4, hw4⟩ : ∃ w4, w4 = wc := ⟨wc, rfl⟩
                    subst hw4
                    generalize gl' = gj at g2 H2
                    go_wp2_with (at_builtin; refine wpList_append_own _ rfl _ _ 22 rfl w7.heap.size 3 i0 (.int .i64 0) 1 8 Try.underlying22 hi hz0 hz1 hz2 rfl (by decide) _ _ _ rfl (World.ownsRow.alloc hown4 _) ⟨w4.heap.size, 0, none⟩ 1 1 [.int .i64 gj] rfl rfl (cell_one_new _ _ _) (fun x hx => by simp at hx; subst hx; rfl) (by unfold maxLen; omega) (by omega) (by simp; omega) ?_; intro v' w3 hown' hgrow3 _)
                    have hB5 := (hby72.alloc hby72.size (.cells #[.int .i64 gj] 3)).grown hgrow3 (by simp; omega) (fun q hq => (World.ownsRow.lt hown4 q hq).1)
                    exact ⟨⟨j, l ++ [gj], by omega, rfl, by simp; omega, H2.out, own_snoc hown', hB5⟩, by simp [intOf]; omega⟩
            · have hpe : ¬ p < m - 1 := hlt2
              have k1 : ¬ (p : Int) < (m : Int) - 1 := by omega
              have hl := got_end HL.out hpe
              have E3 : Hid (pullL W n f m g = l) := (E1.out.trans hl.symm : _ = _)
              have hB9 := hB2.trans (hbe.mono hB2.size)
              have hbs : w.heap.size ≤ w7.heap.size := hB2.size
              clear HG2 hF2 HL hl E1
              go_wp2
              go_ret2
              exact ⟨by rw [E3.out, E2.out]; exact ansW_own hown hbs, hB9⟩
end Go.Proofs.Ytfciecoigfnnhab
