/- A queue of the last words, as the program keeps it. -/
import Derived.Test.YtbhfkhlhfpmkmaaTaKlM
import Derived.Test.YtbhfkhlhfpmkmaaTaCc
import Derived.Deep.Cut
namespace Go.Proofs.Ytbhfkhlhfpmkmaa
open Go.RowKit
def dpB (d : Int) : Bool := decide (1 ≤ d) && decide (d ≤ 10)
set_option maxHeartbeats 400000 in
theorem goodDepth_any (d : Int) (w : World) : Calls Try.prog 46 #[.int .i64 d] w fun e w' => e = .returned (.bool (dpB d)) ∧ w' = w := by
  by_cases h1 : 1 ≤ d
  · by_cases h2 : d ≤ 10
    · have e : dpB d = true := by simp [dpB, h1, h2]
      rw [e]
      go_enter Try.func46, Try.ntmps46
      go_wp2
      go_ret
      exact ⟨rfl, rfl⟩
    · have e : dpB d = false := by simp [dpB, h2]
      rw [e]
      go_enter Try.func46, Try.ntmps46
      go_wp2
      go_ret
      exact ⟨rfl, rfl⟩
  · have e : dpB d = false := by simp [dpB, h1]
    rw [e]
    go_enter Try.func46, Try.ntmps46
    go_wp2
    go_ret
    exact ⟨rfl, rfl⟩
theorem cells_two {w : World} (u v : Value) (t : TypeId) : (w.alloc (.cells #[u, v] t)).cell? ⟨w.heap.size, 0, none⟩ = some u ∧ (w.alloc (.cells #[u, v] t)).cell? ⟨w.heap.size, 1, none⟩ = some v := by
  have h := bx_new (b := w.heap.size) (w := w) [u, v] t rfl
  exact ⟨h.c0, h.c1⟩
/-- what comes of two lists laid together -/
def AnsCc (w w' : World) (e : Ending) (N : Nat) (F : Nat → Int) : Prop := ∃ a c, e = .returned (.slice a N c) ∧ Own w' w.heap.size (.slice a N c) N F
set_option maxRecDepth 20000 in
set_option maxHeartbeats 2000000 in
theorem iKeep (b n : Nat) (f : Nat → Int) (d x : Int) (w : World) (hn : n ≤ 1048576) (h : IL w (some ⟨b, 0, none⟩) n f) :
    Calls Try.prog 14 #[.slice (some ⟨b, 0, none⟩) n n, .int .i64 d, .int .i64 x] w fun e w' => AnsTb w w' e (klN n d) (klF n f d x) (klB n d) ∧ Below w.heap.size w w' := by
  by_cases h1 : dpB d = true
  · have h1' := h1
    simp only [dpB, Bool.and_eq_true, decide_eq_true_eq] at h1'
    by_cases h3 : d < (n : Int)
    · have HA : Hid (AnsTb w w (.returned (.tuple #[.slice none 0 0, .bool false])) (klN n d) (klF n f d x) (klB n d)) := kl_nil (klB_bad (.inr (.inr h3)))
      go_enter Try.func14, Try.ntmps14
      go_wp2_with (go_at_call 46; refine (goodDepth_any d _).mono ?_; rintro e w' ⟨rfl, rfl⟩; rw [h1])
      go_ret2
      exact ⟨HA.out, Below.refl _ _⟩
    have HK : Hid (klB n d = true) := klB_ok h1'.1 h1'.2 (by omega)
    -- the world in which both lists lie
    have key : ∀ (A : Option Addr) (m cm : Nat) (g : Nat → Int) (w0 : World), Below w.heap.size w w0 → m ≤ 1048576 → (∃ b o, A = some ⟨b, o, none⟩) → IL w0 A m g →
        Calls Try.prog 47 #[.slice (some ⟨w0.heap.size + 1, 0, none⟩) 2 2] ((w0.alloc (.cells #[.int .i64 x] 3)).alloc (.cells #[.slice A m cm, .slice (some ⟨w0.heap.size, 0, none⟩) 1 1] 32)) fun e w' => (∃ v, e = .returned v ∧ Own w' w.heap.size v (m + 1) (apF g m (fun _ => x))) ∧ Below w.heap.size w w' := by
      intro A m cm g w0 hB hm hA hI
      have c2 := cells_two (w := w0.alloc (.cells #[.int .i64 x] 3)) (.slice A m cm) (.slice (some ⟨w0.heap.size, 0, none⟩) 1 1) 32
      rw [size_al] at c2
      have hl := (lit_ip w0 [x] 3).il
      have hB2 : Below w.heap.size w ((w0.alloc (.cells #[.int .i64 x] 3)).alloc (.cells #[.slice A m cm, .slice (some ⟨w0.heap.size, 0, none⟩) 1 1] 32)) := (hB.alloc hB.size _).alloc (by rw [size_al]; have := hB.size; omega) _
      refine (iConcatI (w0.heap.size + 1) A (some ⟨w0.heap.size, 0, none⟩) m cm 1 1 g (fun _ => x) _ hm (by omega) (by simp) c2.1 c2.2 (.inr hA) (.inr ⟨_, _, rfl⟩) ((hI.alloc _).alloc _) ((hl.alloc _).congr fun i hi => ?_)).mono ?_
      · have : i = 0 := by simpa using hi
        subst this; rfl
      · rintro e w' ⟨⟨v, rfl, hO⟩, hb⟩
        refine ⟨⟨v, rfl, ?_⟩, stepA hB2 hb⟩
        obtain ⟨q1, q2⟩ := hO
        refine ⟨q1, ?_⟩
        rcases q2 with q2 | ⟨g', cap, cur, z1, z2, z3⟩
        · exact .inl q2
        · exact .inr ⟨g', cap, cur, z1, by have := hB2.size; omega, z3⟩
    by_cases he : (n : Int) = d
    · obtain ⟨A, hA1, hA2, hA3⟩ := slice1t b 0 n n (by omega) (Nat.le_refl _)
      have hL : IL w A (n - 1) (fun i => f (i + 1)) := fun h0 => by
        have hA4 := hA2 (by omega)
        subst hA4
        obtain ⟨m, rfl⟩ : ∃ m, n = m + 1 := ⟨n - 1, by omega⟩
        exact il_drop h h0
      have k2 := key A (n - 1) (n - 1) (fun i => f (i + 1)) w (Below.refl _ _) (by omega) hA3 hL
      rw [show n - 1 + 1 = n by omega] at k2
      have HE : Hid ((n : Int) = d) := he
      have HN : Hid (1 ≤ n) := by show 1 ≤ n; omega
      have jd : ¬ d < (n : Int) := h3
      have je : ((n : Int) == d) = true := by simp [he]
      clear key he hL hA2 hA3 h1'
      go_enter Try.func14, Try.ntmps14
      go_wp2_with (first | (go_at_call 46; refine (goodDepth_any d _).mono ?_; rintro e w' ⟨rfl, rfl⟩; rw [h1]) | (go_at_call 47; refine k2.mono ?_; rintro e w' ⟨⟨v, rfl, hO⟩, hB⟩; obtain ⟨sa, sc, rfl⟩ := hO.shape) | fail)
      go_ret2
      refine ⟨kl_eq HK.out HE.out (fun i hi => ?_) hO, hB⟩
      have hq := HN.out
      unfold apF
      by_cases e : i < n - 1
      · rw [if_pos e, if_pos (by omega)]
      · rw [if_neg e, if_neg (by omega)]
    · have k2 := key (some ⟨b, 0, none⟩) n n f w (Below.refl _ _) hn ⟨_, _, rfl⟩ h
      have HE : Hid (¬ (n : Int) = d) := he
      have jd : ¬ d < (n : Int) := h3
      have je : ((n : Int) == d) = false := by simp [he]
      clear key he h1'
      go_enter Try.func14, Try.ntmps14
      go_wp2_with (first | (go_at_call 46; refine (goodDepth_any d _).mono ?_; rintro e w' ⟨rfl, rfl⟩; rw [h1]) | (go_at_call 47; refine k2.mono ?_; rintro e w' ⟨⟨v, rfl, hO⟩, hB⟩; obtain ⟨sa, sc, rfl⟩ := hO.shape) | fail)
      go_ret2
      refine ⟨kl_ne HK.out HE.out (fun i hi => ?_) hO, hB⟩
      rfl
  · have h1f : dpB d = false := by simpa using h1
    have HA : Hid (AnsTb w w (.returned (.tuple #[.slice none 0 0, .bool false])) (klN n d) (klF n f d x) (klB n d)) := kl_nil (klB_bad (by
      rcases Int.lt_or_le d 1 with q | q
      · exact .inl q
      · rcases Int.lt_or_le 10 d with r | r
        · exact .inr (.inl r)
        · exact absurd (by simp [dpB, q, r]) h1))
    go_enter Try.func14, Try.ntmps14
    go_wp2_with (go_at_call 46; refine (goodDepth_any d _).mono ?_; rintro e w' ⟨rfl, rfl⟩; rw [h1f])
    go_ret2
    exact ⟨HA.out, Below.refl _ _⟩
end Go.Proofs.Ytbhfkhlhfpmkmaa
