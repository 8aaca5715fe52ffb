/- Where one may be at the next tick, as the model tells it. -/
import Derived.Test.YtbndhhjgjalecabDoorQClNxS
import Derived.Test.YtbndhhjgjalecabDoorQCwNb
namespace Go.Proofs.YtbndhhjgjalecabDoor
open Go.RowKit

theorem keepC {w w' : World} {b : Nat} {W : Int} {a : Option Addr} {n c : Nat} (h : Bx w b (celL W a n c)) (k : Below w.heap.size w w') : w'.cell? ⟨b, 0, none⟩ = some (.int .i64 W) ∧ w'.cell? ⟨b, 1, none⟩ = some (.slice a n c) := ⟨(h.on k).c0, (h.on k).c1⟩
set_option maxRecDepth 20000 in
set_option maxHeartbeats 4000000 in
theorem sNext (W : Int) (a : Option Addr) (n c : Nat) (f : Nat → Int) (p : Nat) (w : World) (hf : IL w a n f) (hs : sizedB W n = true) (hp : p < n) :
    Calls Tryd.prog 12 #[cel W a n c, .int .i64 (p : Int)] w fun e w' => AnsL w w' e (nbL W n f p) ∧ Below w.heap.size w w' := by
  obtain ⟨i0, hi, hzz⟩ := Option.map_eq_some_iff.1 infoI
  simp only [Prod.mk.injEq] at hzz
  obtain ⟨hz0, hz1, hz2⟩ := hzz
  have hb0 : Below w.heap.size w (w.alloc (celO W a n c 29)) := (Below.refl _ _).alloc (Nat.le_refl _) _
  have b0 := bx_new (w := w) (celL W a n c) 29 rfl
  have hf0 := hf.alloc (celO W a n c 29)
  have hn2 := sized_le hs
  have K : ∀ (v : Nat) (w : World), v < 4 → IL w a n f → Calls Tryd.prog 20 #[cel W a n c, .int .i64 (p : Int), .int .i64 (v : Int)] w fun e w' => e = .returned (.int .i64 (nxp W n f v p)) ∧ Below w.heap.size w w' := fun v w hv h => next_at W a n c f p v w h hs hv hp
  have HL : Hid (nbL W n f p = nnK [nxp W n f 3 p, nxp W n f 2 p, (p : Int), nxp W n f 0 p, nxp W n f 1 p] 5) := rfl
  have k3 : ∀ w : World, IL w a n f → Calls Tryd.prog 20 #[cel W a n c, .int .i64 (p : Int), .int .i64 3] w fun e w' => e = .returned (.int .i64 (nxp W n f 3 p)) ∧ Below w.heap.size w w' := fun w h => K 3 w (by omega) h
  have k2 : ∀ w : World, IL w a n f → Calls Tryd.prog 20 #[cel W a n c, .int .i64 (p : Int), .int .i64 2] w fun e w' => e = .returned (.int .i64 (nxp W n f 2 p)) ∧ Below w.heap.size w w' := fun w h => K 2 w (by omega) h
  have k0 : ∀ w : World, IL w a n f → Calls Tryd.prog 20 #[cel W a n c, .int .i64 (p : Int), .int .i64 0] w fun e w' => e = .returned (.int .i64 (nxp W n f 0 p)) ∧ Below w.heap.size w w' := fun w h => K 0 w (by omega) h
  have k1 : ∀ w : World, IL w a n f → Calls Tryd.prog 20 #[cel W a n c, .int .i64 (p : Int), .int .i64 1] w fun e w' => e = .returned (.int .i64 (nxp W n f 1 p)) ∧ Below w.heap.size w w' := fun w h => K 1 w (by omega) h
  clear K
  generalize nxp W n f 3 p = q3 at *
  generalize nxp W n f 2 p = q2 at *
  generalize nxp W n f 0 p = q0 at *
  generalize nxp W n f 1 p = q1 at *
  go_enter Tryd.func12, Tryd.ntmps12
  go_wp2_with fail
  generalize w.alloc (celO W a n c 29) = w1 at *
  have hw0 := Below.refl w1.heap.size w1
  go_region_held3 (fun w' => w'.cell? ⟨w.heap.size, 0, none⟩ = some (.int .i64 W) ∧ w'.cell? ⟨w.heap.size, 1, none⟩ = some (.slice a n c))
    (first | (exact keepC b0 hw0.drew) | (exact keepC b0 hw1) | (exact keepC b0 hw2) | (exact keepC b0 hw3) | (exact keepC b0 hw4) | (exact keepC b0 (hw4.alloc hw4.size _)) | (fail))
    (first
      | (go_at_call_of 20 (Value.int .i64 3); refine (k3 _ (hf0.below hw0.drew)).mono ?_; rintro e v1 ⟨rfl, hbn⟩; have hw1 := stepA hw0.drew hbn; clear hbn)
      | (go_at_call_of 20 (Value.int .i64 2); refine (k2 _ (hf0.below hw1)).mono ?_; rintro e v2 ⟨rfl, hbn⟩; have hw2 := stepA hw1 hbn; clear hbn)
      | (go_at_call_of 20 (Value.int .i64 0); refine (k0 _ (hf0.below hw2)).mono ?_; rintro e v3 ⟨rfl, hbn⟩; have hw3 := stepA hw2 hbn; clear hbn)
      | (go_at_call_of 20 (Value.int .i64 1); refine (k1 _ (hf0.below hw3)).mono ?_; rintro e v4 ⟨rfl, hbn⟩; have hw4 := stepA hw3 hbn; clear hbn)
      | (fail))
  have hB4 := stepA hb0 hw4
  have hIP := lit_ip v4 [q3, q2, (p : Int), q0, q1] 3
  have hbL : Below v4.heap.size v4 (v4.alloc (.cells #[.int .i64 q3, .int .i64 q2, .int .i64 (p : Int), .int .i64 q0, .int .i64 q1] 3)) := (Below.refl _ _).alloc (Nat.le_refl _) _
  have hB5 := stepA hB4 hbL
  simp only [List.map_cons, List.map_nil, List.length_cons, List.length_nil, Nat.zero_add, Nat.reduceAdd] at hIP
  have hLN : [q3, q2, (p : Int), q0, q1].length = 5 := rfl
  clear k0 k1 k2 k3 hw0 hw1 hw2 hw3 hw4 b0 hf0 hb0 hB4 hbL hf
  generalize [q3, q2, (p : Int), q0, q1] = l at HL hIP hLN
  have HLN : Hid (l.length = 5) := hLN
  clear hLN
  go_wp2
  generalize hw5 : v4.alloc (.cells #[.int .i64 q3, .int .i64 q2, .int .i64 (p : Int), .int .i64 q0, .int .i64 q1] 3) = w5 at *
  clear hw5
  go_loopw [5, 23] (fun v i wr => ∃ k : Nat, k ≤ 5 ∧ i = .int .i64 k ∧ Own wr w5.heap.size v (nnK l k).length (gl (nnK l k)) ∧ Below w5.heap.size w5 wr) (fun _ i _ => 5 - (intOf i).toNat)
  case atStart => exact ⟨0, Nat.zero_le _, rfl, World.ownsRow_nil _ _ _ _, Below.refl _ _⟩
  case round =>
    obtain ⟨k, hk, rfl, hown, hB⟩ := hrel
    have hlen := nnK_len l k
    have hbase : w5.heap.size ≤ wr.heap.size := hB.size
    by_cases hlt : k < 5
    · have hP := hIP.below hB hIP.lt
      have x0 := hP.c k hlt
      have hst := nnK_succ (l := l) (k := k) (by rw [HLN.out]; exact hlt)
      have j0 : (0 : Int) ≤ (k : Int) := by omega
      have j1 : (k : Int) < 5 := by omega
      clear hP hIP
      generalize l.getD k 0 = x at x0 hst
      by_cases hz : 0 ≤ x
      · rw [if_pos hz] at hst
        have HS : Hid (nnK l (k + 1) = nnK l k ++ [x]) := hst
        clear hst
        generalize nnK l k = m at hown hlen HS
        obtain ⟨sa, sc, rfl⟩ := hown.shape
        go_wp2_with (at_builtin; refine wpList_append_own _ rfl _ _ 22 rfl w5.heap.size 3 i0 (.int .i64 0) 1 8 Tryd.underlying22 hi hz0 hz1 hz2 rfl (by decide) _ _ _ rfl (World.ownsRow.alloc hown _) ⟨wr.heap.size, 0, none⟩ 1 1 [.int .i64 x] rfl rfl (cell_one_new _ _ _) (fun x hx => by simp at hx; subst hx; rfl) (by unfold maxLen; omega) (by omega) (by simp; omega) ?_; intro v' w3 hown' hgrow3 _)
        have hB3 := (hB.alloc hB.size (.cells #[.int .i64 x] 3)).grown hgrow3 (by simp; omega) (fun q hq => (World.ownsRow.lt hown q hq).1)
        exact ⟨⟨k + 1, by omega, by go_num, by rw [HS.out]; exact own_snoc hown', hB3⟩, by simp [intOf]; omega⟩
      · rw [if_neg hz] at hst
        have HS : Hid (nnK l (k + 1) = nnK l k) := hst
        clear hst
        go_wp2
        exact ⟨⟨k + 1, by omega, by go_num, by rw [HS.out]; exact hown, hB⟩, by simp [intOf]; omega⟩
    · have hke : k = 5 := by omega
      subst hke
      obtain ⟨sa, sc, rfl⟩ := hown.shape
      clear hIP
      go_wp2
      go_ret
      refine ⟨?_, stepA hB5 hB⟩
      rw [HL.out]
      exact ansL_own hown hB5.size
end Go.Proofs.YtbndhhjgjalecabDoor
