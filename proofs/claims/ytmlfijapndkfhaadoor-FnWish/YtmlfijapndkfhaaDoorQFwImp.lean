/- Lists of names, as the program looks at them. -/
import Derived.Test.YtmlfijapndkfhaaDoorQWhStr
import Derived.Test.YtmlfijapndkfhaaDoorQFwDn
import Derived.Test.YtmlfijapndkfhaaDoorQU8Shelf
namespace Go.Proofs.YtmlfijapndkfhaaDoor
open Go.RowKit
set_option maxHeartbeats 2000000 in
theorem iNames (a : Option Addr) (n c : Nat) (S : Nat → ByteArray) (w : World) (hn : n ≤ 1048576) (hc : n ≤ c) (hS : ∀ i, i < n → (S i).size ≤ 1048576) (ha : SL w a n S) (hT : U8 w) :
    Calls Tryd.prog 36 #[.slice a n c] w fun e w' => e = .returned (.bool (namB S n)) ∧ Below w.heap.size w w' := by
  have kI := fun (k : Nat) (s : ByteArray) w2 (hk : k ≤ n) (h : SL w2 a k S) => iContS a k c S s w2 (by omega) h
  have kN := fun k w2 (hk : k < n) (h : U8 w2) => iName (S k) w2 (hS k hk) h
  have HT : Hid (U8 w) := hT
  clear hT
  go_enter Tryd.func36, Tryd.ntmps36
  unfold namB
  by_cases h6 : n ≤ 6
  · rw [decide_eq_true h6]
    have h6' : ¬ ((6 : Int) < (n : Int)) := by omega
    go_wp2
    go_loopw [10] (fun i wr => ∃ k : Nat, k ≤ n ∧ i = .int .i64 (k : Int) ∧ Hid (namesB S k = true) ∧ Below w.heap.size w wr) (fun i _ => n - (intOf i).toNat)
    case atStart => exact ⟨0, Nat.zero_le _, rfl, (rfl : namesB S 0 = true), Below.refl _ _⟩
    case round =>
      obtain ⟨k, hk, rfl, HE, hB⟩ := hrel
      by_cases hlt : k < n
      · have kN2 := fun w2 h => kN k w2 hlt h
        have kI2 := fun w2 (h : SL w2 a k S) => kI k (S k) w2 hk h
        have hp := (ha.below hB).pre hk
        have HU : Hid (U8 wr) := HT.out.below hB
        obtain ⟨b1, o1, rfl, l1, hc1⟩ := (ha.below hB) (by omega)
        have y1 := hc1 k hlt
        have j0 : (0 : Int) ≤ (k : Int) := by omega
        have j1 : (k : Int) < (n : Int) := by omega
        clear hc1 kN kI ha
        have HG : Hid (nameB (bt (S k)) (S k).size = true → inS S (S k) k = false → namesB S (k + 1) = true) := fun h1 h2 => by
          unfold namesB; rw [HE.out, h1, h2]; rfl
        have HF : Hid ((nameB (bt (S k)) (S k).size && !(inS S (S k) k)) = false → namesB S n = false) := fun h1 => namesB_no (k := k + 1) (by omega) (by unfold namesB; rw [h1]; exact Bool.and_false _)
        generalize nameB (bt (S k)) (S k).size = N at *
        generalize inS S (S k) k = I at *
        cases N with
        | false =>
          go_wp2_with fail
          refine (kN2 _ HU.out).mono ?_
          rintro e w2 ⟨rfl, hb2⟩
          have hB2 := stepA hB hb2
          go_wp2
          go_ret
          exact ⟨by rw [HF.out rfl]; rfl, hB2⟩
        | true =>
          go_wp2_with fail
          refine (kN2 _ HU.out).mono ?_
          rintro e w2 ⟨rfl, hb2⟩
          have hB2 := stepA hB hb2
          have hp2 := hp.below hb2
          clear hb2 kN2 hB y1
          go_wp2_with fail
          refine (kI2 _ hp2).mono ?_
          rintro e w3 ⟨rfl, hw3⟩
          have hs3 := hw3.symm
          clear hw3 kI2
          subst hs3
          cases I with
          | true =>
            go_wp2
            go_ret
            exact ⟨by rw [HF.out rfl]; rfl, hB2⟩
          | false =>
            go_wp2
            exact ⟨⟨k + 1, by omega, by go_num, HG.out trivial trivial, hB2⟩, by simp [intOf]; omega⟩
      · have : k = n := by omega
        subst this
        go_wp2
        go_ret
        exact ⟨by rw [HE.out]; rfl, hB⟩
  · rw [decide_eq_false h6]
    have h6' : ((6 : Int) < (n : Int)) := by omega
    go_wp2
    go_ret
    exact ⟨rfl, Below.refl _ _⟩
set_option maxHeartbeats 2000000 in
theorem iGood (a b : Option Addr) (n c m d : Nat) (f g : Nat → ByteArray) (w : World) (hn : n ≤ 1048576) (hm : m ≤ 1048576) (hc : n ≤ c) (hd : m ≤ d) (hf : ∀ i, i < n → (f i).size ≤ 1048576) (hg : ∀ i, i < m → (g i).size ≤ 1048576) (ha : SL w a n f) (hb : SL w b m g) (hT : U8 w) :
    Calls Tryd.prog 16 #[wsv a n c b m d] w fun e w' => e = .returned (.bool (namB f n && namB g m)) ∧ Below w.heap.size w w' := by
  have hb0 : Below w.heap.size w (w.alloc (wsO a n c b m d 25)) := (Below.refl _ _).alloc (Nat.le_refl _) _
  have k1 := iNames a n c f (w.alloc (wsO a n c b m d 25)) hn hc hf (ha.alloc _) (hT.below hb0)
  have k2 := fun w2 h h' => iNames b m d g w2 hm hd hg h h'
  have bA := bx_new (w := w) [.slice a n c, .slice b m d] 25 rfl
  have HT : Hid (U8 w) := hT
  clear hT
  generalize namB f n = A at *
  generalize namB g m = B at *
  cases A with
  | false =>
    clear k2
    go_enter Tryd.func16, Tryd.ntmps16
    go_wp2_with fail
    refine k1.mono ?_
    rintro e w1 ⟨rfl, hw1⟩
    have hB1 := stepA hb0 hw1
    clear hw1
    go_wp2
    go_ret
    exact ⟨rfl, hB1⟩
  | true =>
    go_enter Tryd.func16, Tryd.ntmps16
    go_wp2_with fail
    refine k1.mono ?_
    rintro e w1 ⟨rfl, hw1⟩
    have hB1 := stepA hb0 hw1
    have bB := bA.on hw1
    have x1 := bB.c1
    clear hw1 k1 bA
    go_wp2_with fail
    refine (k2 _ (hb.below hB1) (HT.out.below hB1)).mono ?_
    rintro e w2 ⟨rfl, hw2⟩
    have hB2 := stepA hB1 hw2
    clear hw2
    go_wp2
    go_ret
    exact ⟨rfl, hB2⟩
end Go.Proofs.YtmlfijapndkfhaaDoor
