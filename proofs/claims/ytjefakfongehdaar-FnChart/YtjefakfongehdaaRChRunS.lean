/- RunChart, as the model goes. -/
import Derived.Test.YtjefakfongehdaaRChEvS
import Derived.Test.YtjefakfongehdaaRChGcS
import Derived.Test.YtjefakfongehdaaRChStS
namespace Go.Proofs.YtjefakfongehdaaR
open Go.RowKit
set_option maxRecDepth 20000 in
set_option maxHeartbeats 8000000 in
theorem sRunChart (a b x : Option Addr) (n c m d q r : Nat) (f g h : Nat → Int) (w : World) (hn : n ≤ 1048576) (hm : m ≤ 1048576) (hq : q ≤ 1048576) (hf : IL w a (n * 2) f) (hg : IL w b (m * 3) g) (hh : IL w x q h) :
    Calls Try.prog 10 #[chv a n c b m d, .slice x q r] w fun e w' => AnsQb w w' e (runN (runQ n f m g q h) q) (runF n f m g h) (runQ n f m g q h) ∧ Below w.heap.size w w' := by
  obtain ⟨i0, hi, hzz⟩ := Option.map_eq_some_iff.1 infoI
  simp only [Prod.mk.injEq] at hzz
  obtain ⟨hz0, hz1, hz2⟩ := hzz
  have hb0 : Below w.heap.size w (w.alloc (chO a n c b m d 26)) := (Below.refl _ _).alloc (Nat.le_refl _) _
  have b0 := bx_new (w := w) (chL a n c b m d) 26 rfl
  have x0 := b0.c0
  have x1 := b0.c1
  have hf0 := hf.below hb0
  have hg0 := hg.below hb0
  have hh0 := hh.below hb0
  have kG := sGoodChart a b n c m d f g _ hn hm hf0 hg0
  have kV := fun w hh => sEvents x q r h w hq hh
  clear hf hg hh
  cases hG : gchB n f m g with
  | false =>
    have hr : runQ n f m g q h = false := by unfold runQ; rw [hG]; rfl
    rw [hr]
    rw [hG] at kG
    clear hG hr kV
    go_enter Try.func10, Try.ntmps10
    go_wp2_with fail
    refine kG.mono ?_
    rintro e w1 ⟨rfl, hb1⟩
    have hB1 := stepA hb0 hb1
    clear kG x0 x1
    go_wp2
    go_ret2
    exact ⟨ansQb_none rfl rfl, hB1⟩
  | true =>
    rw [hG] at kG
    have H := gchB_iff.1 hG
    cases hV : evsB q h with
    | false =>
      have hr : runQ n f m g q h = false := by unfold runQ; rw [hV]; simp
      rw [hr]
      rw [hV] at kV
      clear hG hr hV H
      go_enter Try.func10, Try.ntmps10
      go_wp2_with fail
      refine kG.mono ?_
      rintro e w1 ⟨rfl, hb1⟩
      have hB1 := stepA hb0 hb1
      have hh1 := hh0.below hb1
      clear kG x0 x1
      go_wp2_with fail
      refine (kV _ hh1).mono ?_
      rintro e w2 ⟨rfl, hw2⟩
      have hs2 := hw2.symm
      clear hw2
      subst hs2
      go_wp2
      go_ret2
      exact ⟨ansQb_none rfl rfl, hB1⟩
    | true =>
      have hr : runQ n f m g q h = true := by unfold runQ; rw [hG, hV]; rfl
      rw [hr]
      rw [hV] at kV
      have hq60 : q ≤ 60 := by unfold evsB at hV; simp only [Bool.and_eq_true, decide_eq_true_eq] at hV; exact hV.1
      have hn1 := H.n1
      have kE : ∀ w, IL w a (n * 2) f → Calls Try.prog 34 #[chv a n c b m d, .int .i64 0] w fun e w' => e = .returned (.int .i64 ((runC n f m g h 0 : Nat) : Int)) ∧ Below w.heap.size w w' := fun w hf => sEnter a b n c m d f g 0 w H hn1 hf
      have kS : ∀ k ev w, ev = h k → IL w a (n * 2) f → IL w b (m * 3) g → Calls Try.prog 35 #[chv a n c b m d, .int .i64 ((runC n f m g h k : Nat) : Int), .int .i64 ev] w fun e w' => e = .returned (.int .i64 (runF n f m g h (k + 1))) ∧ Below w.heap.size w w' := fun k ev w he hf hg => by subst he; exact sStep a b n c m d f g _ (h k) w H (H.run_leaf h k).1 hf hg
      have hF0 : runF n f m g h 0 = ((runC n f m g h 0 : Nat) : Int) := rfl
      have HF : Hid (∀ k, runF n f m g h k = ((runC n f m g h k : Nat) : Int)) := fun k => rfl
      have HZ : Hid (∀ (W : World) (cc B : Nat) (aa : Option Addr), w.heap.size ≤ B → Own W B (.slice aa (q + 1) cc) (q + 1) (runF n f m g h) → AnsQb w W (.returned (.tuple #[.slice aa (q + 1) cc, .bool true])) (runN true q) (runF n f m g h) true) := fun W cc B aa hb ho => ⟨aa, cc, rfl, ho.lq.wide hb (Nat.le_refl _)⟩
      clear hG hr hV H
      generalize runF n f m g h = RF at *
      generalize hRC : runC n f m g h = RC at *
      clear hRC
      go_enter Try.func10, Try.ntmps10
      go_wp2_with fail
      refine kG.mono ?_
      rintro e w1 ⟨rfl, hb1⟩
      have hB1 := stepA hb0 hb1
      have b1 := b0.on hb1
      have hf1 := hf0.below hb1
      have hg1 := hg0.below hb1
      have hh1 := hh0.below hb1
      clear kG x0 x1 hb1 b0 hf0 hg0 hh0 hb0
      have x0 := b1.c0
      have x1 := b1.c1
      go_wp2_with fail
      refine (kV _ hh1).mono ?_
      rintro e w2 ⟨rfl, hw2⟩
      have hs2 := hw2.symm
      clear hw2 kV
      subst hs2
      go_wp2_with fail
      refine (kE _ hf1).mono ?_
      rintro e w2 ⟨rfl, hb2⟩
      have hB2 := stepA hB1 hb2
      have b2 := b1.on hb2
      have hf2 := hf1.below hb2
      have hg2 := hg1.below hb2
      have hh2 := hh1.below hb2
      have hown0 := own_one w2 w2.heap.size ((RC 0 : Nat) : Int) RF hF0 (Nat.le_refl _)
      have hB3 := (Below.refl w2.heap.size w2).alloc (Nat.le_refl _) (.cells #[.int .i64 ((RC 0 : Nat) : Int)] 3)
      have hsz := hB2.size
      clear kE x0 x1 hF0 hb2 b1 hf1 hg1 hh1 hB1
      go_wp2_with fail
      go_loopw [6, 7, 24] (fun lf v i wr => ∃ k : Nat, k ≤ q ∧ i = .int .i64 (k : Int) ∧ lf = .int .i64 ((RC k : Nat) : Int) ∧ Own wr w2.heap.size v (k + 1) RF ∧ Below w2.heap.size w2 wr) (fun _ _ i _ => q - (intOf i).toNat)
      case atStart => exact ⟨0, Nat.zero_le _, rfl, rfl, hown0, hB3⟩
      case round =>
        obtain ⟨k, hk, rfl, rfl, hown, hB⟩ := hrel
        have hbase : w2.heap.size ≤ wr.heap.size := hB.size
        have b4 := b2.on hB
        have x0 := b4.c0
        have x1 := b4.c1
        clear hown0 hB3
        by_cases hlt : k < q
        · obtain ⟨gb, go_, rfl, gl_, hc⟩ := (hh2.below hB) (by omega)
          have y0 := hc k hlt
          have j0 : (0 : Int) ≤ (k : Int) := by omega
          have j1 : (k : Int) < (q : Int) := by omega
          have kS2 := kS k (h k) wr rfl (hf2.below hB) (hg2.below hB)
          have hFk : RF (k + 1) = ((RC (k + 1) : Nat) : Int) := HF.out (k + 1)
          rw [hFk] at kS2
          have HFk : Hid (RF (k + 1) = ((RC (k + 1) : Nat) : Int)) := hFk
          generalize h k = X at *
          clear kS hc HF HZ hFk
          go_wp2_with fail
          refine kS2.mono ?_
          rintro e w5 ⟨rfl, hb5⟩
          have hB5 := stepA hB hb5
          have hown5 := hown.below hb5
          have hbase5 : w2.heap.size ≤ w5.heap.size := hB5.size
          clear kS2 x0 x1 b4 y0 hown
          go_wp2_with (at_builtin; refine wpList_append_own _ rfl _ _ 27 rfl w2.heap.size 3 i0 (.int .i64 0) 1 8 Try.underlying27 hi hz0 hz1 hz2 rfl (by decide) _ _ _ rfl (World.ownsRow.alloc hown5 _) ⟨w5.heap.size, 0, none⟩ 1 1 [.int .i64 ((RC (k + 1) : Nat) : Int)] rfl rfl (cell_one_new _ _ _) (fun x hx => by simp at hx; subst hx; rfl) (by unfold maxLen; omega) (by omega) (by simp; omega) ?_; intro v' w6 hown' hgrow6 _)
          have hB6 := (hB5.alloc hB5.size (.cells #[.int .i64 ((RC (k + 1) : Nat) : Int)] 3)).grown hgrow6 (by simp; omega) (fun q hq => (World.ownsRow.lt hown5 q hq).1)
          exact ⟨⟨k + 1, by omega, by go_num, rfl, by unfold Own; rw [vL_succ, HFk.out]; exact hown', hB6⟩, by simp [intOf]; omega⟩
        · have hkq : k = q := by omega
          subst hkq
          obtain ⟨aa, cc, rfl⟩ := hown.shape
          have HZ2 := HZ.out wr cc w2.heap.size aa hsz hown
          have HZ3 : Hid (AnsQb w wr (.returned (.tuple #[.slice aa (k + 1) cc, .bool true])) (runN true k) RF true) := HZ2
          have hBe := stepA hB2 hB
          clear kS HF HZ HZ2 hown
          go_wp2
          go_ret2
          exact ⟨HZ3.out, hBe⟩
end Go.Proofs.YtjefakfongehdaaR
