/- FreedFine: the model's own check of what is left. -/
import Derived.Test.YtdpblholoogikaaBkGoodS
import Derived.Test.YtdpblholoogikaaBkMy
import Derived.BigQuiet
import Derived.Deep.Cut
namespace Go.Proofs.Ytdpblholoogikaa
open Go.RowKit
theorem ne_bk (a b c d : Int) (w : World) : (Op.equalIn 10000 25 (bkv a b c d) (bkv a b c d)).run Try.prog w = .ok true w := by
  have hf : Try.prog.underlying 25 = some (.struct (Try.prog.fieldsOf 25)) := by
    have h := Try.underlying25
    unfold Program.fieldsOf
    rw [h]
  rw [run_equalIn_struct w 9999 25 _ _ hf (by kernel_rfl)]
  have hp : ∀ (xs : Array Value) (k : Nat) (v : Int), xs[k]? = some (.int .i64 v) → ∀ w, (part 3 xs k).run Try.prog w = .ok (.int .i64 v) w := by
    intro xs k v h w
    simp [part, go_sem, h]
  have he : ∀ (x y : Int) (w : World), (Op.equalIn 9999 3 (.int .i64 x) (.int .i64 y)).run Try.prog w = .ok (x == y) w := fun x y w => run_equalIn_int w 9998 3 .i64 .i64 x y Try.underlying3
  have q0 := hp #[.int .i64 a, .int .i64 b, .int .i64 c, .int .i64 d] 0 a rfl
  have q1 := hp #[.int .i64 a, .int .i64 b, .int .i64 c, .int .i64 d] 1 b rfl
  have q2 := hp #[.int .i64 a, .int .i64 b, .int .i64 c, .int .i64 d] 2 c rfl
  have q3 := hp #[.int .i64 a, .int .i64 b, .int .i64 c, .int .i64 d] 3 d rfl
  unfold Program.fieldsOf
  rw [Try.underlying25]
  simp [Op.eqFields, Sem.run_bind, q0, q1, q2, q3, Result.andThen_ok, he, Sem.run_ite, Sem.run_pure]
set_option maxHeartbeats 4000000 in
set_option maxRecDepth 20000 in
theorem freedFine (a p : Option Addr) (n c N d : Nat) (F : Nat → Int) (who at_ : Int) (w : World) (hn : n ≤ 1048576) (h : IL w a (n * 4) F) (hN : N ≤ 1048576) (hp : IL w p (N * 4) (fun i => (frL F who at_ n).getD i 0)) (hk : bsK F n = true) (hl : (frL F who at_ n).length = N * 4) :
    Calls Try.prog 13 #[.slice a n c, .slice p N d, .int .i64 who, .int .i64 at_] w fun e w' => e = .returned (.bool true) ∧ Below w.heap.size w w' := by
  have HK : Hid (bsK F n = true) := hk
  have HL : Hid ((frL F who at_ n).length = N * 4) := hl
  clear hk hl
  have HB : Hid (Below w.heap.size w w) := Below.refl _ _
  go_enter Try.func13, Try.ntmps13
  go_wp2_with fail
  go_loopw [9, 14] (fun v i wr => ∃ k m : Nat, k ≤ n ∧ i = .int .i64 (k : Int) ∧ v = .int .i64 (m : Int) ∧ (frL F who at_ k).length = m * 4 ∧ m ≤ k ∧ Below w.heap.size w wr) (fun _ i _ => n - (intOf i).toNat)
  case atStart => exact ⟨0, 0, Nat.zero_le _, rfl, rfl, rfl, Nat.le_refl _, HB.out⟩
  case round =>
    obtain ⟨k, m, hk, rfl, rfl, hm, hmk, hB⟩ := hrel
    have HM : Hid ((frL F who at_ k).length = m * 4) := hm
    clear hm HB
    by_cases hlt : k < n
    · obtain ⟨gb, go_, rfl, gl_, x0, x1, x2, x3⟩ := il_four4 (h.below hB) hlt
      have i0 : (0 : Int) ≤ (k : Int) := by omega
      have i1 : (k : Int) < (n : Int) := by omega
      have hbc : F (k * 4 + 1) < F (k * 4 + 2) := by
        have := bkB_t (bsK_t HK.out k hlt).1
        omega
      have HA : Hid (¬ (F (k * 4 + 3) = who ∧ at_ < F (k * 4 + 2) ∧ at_ ≤ F (k * 4 + 1)) → m * 4 + 3 < (frL F who at_ n).length ∧ (frL F who at_ (k + 1)).length = (m + 1) * 4 ∧ ∀ j, j < 4 → (frL F who at_ n).getD (m * 4 + j) 0 = ([F (k * 4), F (k * 4 + 1), frT who at_ (F (k * 4 + 2)) (F (k * 4 + 3)), F (k * 4 + 3)] : List Int).getD j 0) := fun c => fr_at hlt HM.out c
      have HS : Hid ((F (k * 4 + 3) = who ∧ at_ < F (k * 4 + 2) ∧ at_ ≤ F (k * 4 + 1)) → (frL F who at_ (k + 1)).length = m * 4) := fun c => fr_skip HM.out c
      generalize F (k * 4) = A at x0 HA HS
      generalize F (k * 4 + 1) = B at x1 hbc HA HS
      generalize F (k * 4 + 2) = C at x2 hbc HA HS
      generalize F (k * 4 + 3) = D at x3 HA HS
      clear h HM HK
      have hBz : Below wr.heap.size wr (wr.alloc (.cells #[.int .i64 A, .int .i64 B, .int .i64 C, .int .i64 D] 25)) := (Below.refl _ _).alloc (Nat.le_refl _) _
      have hB9 := stepA hB hBz
      by_cases g0 : D = who ∧ at_ ≤ B
      · obtain ⟨g0, g1⟩ := g0
        have hm2 := HS.out ⟨g0, by omega, g1⟩
        have HM2 : Hid ((frL F who at_ (k + 1)).length = m * 4) := hm2
        clear hm2 hbc HA HS HL hp hBz hB
        have g2 : (D == who) = true := by simpa using g0
        clear g0
        go_wp2
        exact ⟨⟨k + 1, m, by omega, by go_num, rfl, HM2.out, by omega, hB9⟩, by simp [intOf]; omega⟩
      · have hc : ¬ (D = who ∧ at_ < C ∧ at_ ≤ B) := fun c => g0 ⟨c.1, c.2.2⟩
        obtain ⟨hlen, hm2, hg⟩ := HA.out hc
        rw [HL.out] at hlen
        have HM2 : Hid ((frL F who at_ (k + 1)).length = (m + 1) * 4) := hm2
        have hmN : m < N := by omega
        have j0 : (0 : Int) ≤ (m : Int) := by omega
        have j1 : (m : Int) < (N : Int) := by omega
        have j2 : decide ((N : Int) ≤ (m : Int)) = false := decide_eq_false (by omega)
        have HG0 : Hid ((frL F who at_ n).getD (m * 4) 0 = A) := hg 0 (by decide)
        have HG1 : Hid ((frL F who at_ n).getD (m * 4 + 1) 0 = B) := hg 1 (by decide)
        have HG2 : Hid ((frL F who at_ n).getD (m * 4 + 2) 0 = frT who at_ C D) := hg 2 (by decide)
        have HG3 : Hid ((frL F who at_ n).getD (m * 4 + 3) 0 = D) := hg 3 (by decide)
        clear hg HA HS HL hm2 hlen hBz hc hB9
        by_cases g1 : D = who
        · have d1 : (D == who) = true := by simpa using g1
          have d2 : ¬ at_ ≤ B := fun c => g0 ⟨g1, c⟩
          by_cases g2 : at_ < C
          · skip
            have HG2' : Hid (frT who at_ C D = at_) := by show frT who at_ C D = _; unfold frT; first | rw [if_pos (by omega)] | rw [if_neg (by omega)]
            have hZ9 := bk_box wr A B at_ D 25
            have hBz : Below wr.heap.size wr (wr.alloc (.cells #[.int .i64 A, .int .i64 B, .int .i64 at_, .int .i64 D] 25)) := (Below.refl _ _).alloc (Nat.le_refl _) _
            have hB9 := stepA hB hBz
            clear hB hBz
            clear g0 g1
            go_upto_region 8 with fail
            generalize wr.alloc (.cells #[.int .i64 A, .int .i64 B, .int .i64 at_, .int .i64 D] 25) = w9 at hZ9 hB9 ⊢
            generalize wr.heap.size = zb at hZ9 ⊢
            obtain ⟨z0, z1, z2, z3⟩ := bx_four4 hZ9
            obtain ⟨pb, po_, rfl, pl_, y0, y1, y2, y3⟩ := il_four4 (hp.below hB9) hmN
            rw [HG0.out] at y0
            rw [HG1.out] at y1
            rw [HG2.out, HG2'.out] at y2
            rw [HG3.out] at y3
            have hq := ne_bk A B at_ D
            clear hp HG0 HG1 HG2 HG2' HG3 hbc x0 x1 x2 x3
            go_quiet (fail)
            go_wp2
            exact ⟨⟨k + 1, m + 1, by omega, by go_num, by go_num, HM2.out, by omega, below_dr hB9 _⟩, by simp [intOf]; omega⟩
          · skip
            have HG2' : Hid (frT who at_ C D = C) := by show frT who at_ C D = _; unfold frT; first | rw [if_pos (by omega)] | rw [if_neg (by omega)]
            have hZ9 := bk_box wr A B C D 25
            have hBz : Below wr.heap.size wr (wr.alloc (.cells #[.int .i64 A, .int .i64 B, .int .i64 C, .int .i64 D] 25)) := (Below.refl _ _).alloc (Nat.le_refl _) _
            have hB9 := stepA hB hBz
            clear hB hBz
            clear g0 g1
            go_upto_region 8 with fail
            generalize wr.alloc (.cells #[.int .i64 A, .int .i64 B, .int .i64 C, .int .i64 D] 25) = w9 at hZ9 hB9 ⊢
            generalize wr.heap.size = zb at hZ9 ⊢
            obtain ⟨z0, z1, z2, z3⟩ := bx_four4 hZ9
            obtain ⟨pb, po_, rfl, pl_, y0, y1, y2, y3⟩ := il_four4 (hp.below hB9) hmN
            rw [HG0.out] at y0
            rw [HG1.out] at y1
            rw [HG2.out, HG2'.out] at y2
            rw [HG3.out] at y3
            have hq := ne_bk A B C D
            clear hp HG0 HG1 HG2 HG2' HG3 hbc x0 x1 x2 x3
            go_quiet (fail)
            go_wp2
            exact ⟨⟨k + 1, m + 1, by omega, by go_num, by go_num, HM2.out, by omega, below_dr hB9 _⟩, by simp [intOf]; omega⟩
        · have d1 : (D == who) = false := by simpa using g1
          have HG2' : Hid (frT who at_ C D = C) := by show frT who at_ C D = _; unfold frT; first | rw [if_pos (by omega)] | rw [if_neg (by omega)]
          have hZ9 := bk_box wr A B C D 25
          have hBz : Below wr.heap.size wr (wr.alloc (.cells #[.int .i64 A, .int .i64 B, .int .i64 C, .int .i64 D] 25)) := (Below.refl _ _).alloc (Nat.le_refl _) _
          have hB9 := stepA hB hBz
          clear hB hBz
          clear g0 g1
          go_upto_region 8 with fail
          generalize wr.alloc (.cells #[.int .i64 A, .int .i64 B, .int .i64 C, .int .i64 D] 25) = w9 at hZ9 hB9 ⊢
          generalize wr.heap.size = zb at hZ9 ⊢
          obtain ⟨z0, z1, z2, z3⟩ := bx_four4 hZ9
          obtain ⟨pb, po_, rfl, pl_, y0, y1, y2, y3⟩ := il_four4 (hp.below hB9) hmN
          rw [HG0.out] at y0
          rw [HG1.out] at y1
          rw [HG2.out, HG2'.out] at y2
          rw [HG3.out] at y3
          have hq := ne_bk A B C D
          clear hp HG0 HG1 HG2 HG2' HG3 hbc x0 x1 x2 x3
          go_quiet (fail)
          go_wp2
          exact ⟨⟨k + 1, m + 1, by omega, by go_num, by go_num, HM2.out, by omega, below_dr hB9 _⟩, by simp [intOf]; omega⟩
    · have hke : k = n := by omega
      subst hke
      have hmN : m = N := by have h1 := HL.out; have h2 := HM.out; omega
      subst hmN
      have j0 : ((m : Int) == (m : Int)) = true := by simp
      clear HL HM HK h hp
      go_wp2
      go_ret
      exact ⟨rfl, hB⟩
end Go.Proofs.Ytdpblholoogikaa
