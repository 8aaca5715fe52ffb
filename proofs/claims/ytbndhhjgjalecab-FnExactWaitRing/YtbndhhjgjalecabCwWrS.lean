/- Who waits in a ring, as the model tells it. -/
import Derived.Test.YtbndhhjgjalecabCwWrM
namespace Go.Proofs.Ytbndhhjgjalecab
open Go.RowKit

set_option maxRecDepth 20000 in
set_option maxHeartbeats 4000000 in
theorem sRing (a : Option Addr) (n c : Nat) (f : Nat → Int) (w : World) (hn : n ≤ 1048576) (hf : IL w a n f) :
    Calls Try.prog 4 #[.slice a n c] w fun e w' => AnsL w w' e (wrL n f) ∧ Below w.heap.size w w' := by
  obtain ⟨i0', hi, hzz⟩ := Option.map_eq_some_iff.1 infoI
  simp only [Prod.mk.injEq] at hzz
  obtain ⟨hz0, hz1, hz2⟩ := hzz
  by_cases h5 : n ≤ 5
  · have h5' : ¬ (5 : Int) < (n : Int) := by omega
    go_enter Try.func4, Try.ntmps4
    go_wp2
    go_loopw [14] (fun i wr => ∃ k : Nat, k ≤ n ∧ i = .int .i64 k ∧ wkB n f k = true ∧ wr = w) (fun i _ => n - (intOf i).toNat)
    case atStart => exact ⟨0, Nat.zero_le _, rfl, rfl, rfl⟩
    case round =>
      obtain ⟨k, hk, rfl, hT, hw⟩ := hrel
      have hw' := hw.symm
      clear hw
      subst hw'
      by_cases hlt : k < n
      · obtain ⟨b, off, rfl, hb, hc⟩ := hf (by omega)
        have x0 := hc k hlt
        have j0 : (0 : Int) ≤ (k : Int) := by omega
        have j1 : (k : Int) < (n : Int) := by omega
        have HN := @wrL_no n f k hlt
        have HNO : Hid (¬ (-1 ≤ f k ∧ f k < (n : Int)) → wrL n f = []) := HN
        have HST : Hid (wkB n f (k + 1) = (wkB n f k && (decide (-1 ≤ f k) && decide (f k < (n : Int))))) := rfl
        clear HN hc
        generalize f k = x at x0 HNO HST
        by_cases h1 : x < -1
        · have hr := HNO.out (by omega)
          have HR : Hid (wrL n f = []) := hr
          clear HNO HST hr
          go_wp2
          go_ret
          exact ⟨by rw [HR.out]; exact ansL_nil _ _, Below.refl _ _⟩
        · by_cases h2 : (n : Int) ≤ x
          · have hr := HNO.out (by omega)
            have HR : Hid (wrL n f = []) := hr
            clear HNO HST hr
            go_wp2
            go_ret
            exact ⟨by rw [HR.out]; exact ansL_nil _ _, Below.refl _ _⟩
          · have hr : wkB n f (k + 1) = true := by
              rw [HST.out, hT]; simp; omega
            have HR : Hid (wkB n f (k + 1) = true) := hr
            clear HNO HST hr
            go_wp2
            exact ⟨⟨k + 1, by omega, by go_num, HR.out, trivial⟩, by simp [intOf]; omega⟩
      · have hke : k = n := by omega
        subst hke
        have hL : wrL k f = wrK k f k := by unfold wrL; rw [if_pos ⟨h5, hT⟩]
        have HL : Hid (wrL k f = wrK k f k) := hL
        have HB : Hid (∀ i, i < k → -1 ≤ f i ∧ f i < (k : Int)) := wkB_at hT
        clear hL hT
        go_wp2
        go_loopw [5, 29] (fun v i wr => ∃ m : Nat, m ≤ k ∧ i = .int .i64 m ∧ Own wr w.heap.size v (wrK k f m).length (gl (wrK k f m)) ∧ Below w.heap.size w wr) (fun _ i _ => k - (intOf i).toNat)
        case atStart => exact ⟨0, Nat.zero_le _, rfl, World.ownsRow_nil _ _ _ _, Below.refl _ _⟩
        case round =>
          obtain ⟨m, hm, rfl, hown, hB⟩ := hrel
          have hlen := wrK_len k f m
          have hbase : w.heap.size ≤ wr.heap.size := hB.size
          by_cases hlt2 : m < k
          · obtain ⟨b, off, rfl, hb, hc⟩ := (hf.below hB) (by omega)
            have x0 := hc m hlt2
            have HC : Hid (∀ i, i < k → wr.cell? ⟨b, off + i, none⟩ = some (.int .i64 (f i))) := hc
            have j0 : (0 : Int) ≤ (m : Int) := by omega
            have j1 : (m : Int) < (k : Int) := by omega
            have HST : Hid (wrK k f (m + 1) = if rgB k f m then wrK k f m ++ [(m : Int)] else wrK k f m) := rfl
            have HRG : Hid (rgB k f m = decide (wgo f (m : Int) k (f m) = (m : Int))) := rfl
            have HFM : Hid (-1 ≤ f m ∧ f m < (k : Int)) := HB.out m hlt2
            clear hc
            obtain ⟨w8, hw8⟩ : ∃ w8, w8 = wr := ⟨wr, rfl⟩
            subst hw8
            have HOWN : Hid (Own w8 w.heap.size _ (wrK k f m).length (gl (wrK k f m))) := hown
            obtain ⟨sa, sc, hve⟩ := hown.shape
            subst hve
            go_wp2
            go_loopw [7, 8] (fun x i wx => ∃ (q : Nat) (at_ : Int), q ≤ k ∧ i = .int .i64 q ∧ x = .int .i64 at_ ∧ -1 ≤ at_ ∧ at_ < (k : Int) ∧ wgo f (m : Int) (k - q) at_ = wgo f (m : Int) k (f m) ∧ wx = w8) (fun _ i _ => k - (intOf i).toNat)
            case atStart => exact ⟨0, f m, Nat.zero_le _, rfl, rfl, HFM.out.1, HFM.out.2, rfl, rfl⟩
            case round =>
              obtain ⟨q, x, hq, rfl, rfl, hx0, hx1, hwg, hw⟩ := hrel
              subst hw
              clear x0
              by_cases c1 : q < k
              · have i1 : (q : Int) < (k : Int) := by omega
                by_cases c2 : 0 ≤ x
                · cases c3 : (x != (m : Int)) with
                  | true =>
                    have hne : x ≠ (m : Int) := by simpa using c3
                    obtain ⟨X, hX⟩ : ∃ X : Nat, x = (X : Int) := ⟨x.toNat, by omega⟩
                    subst hX
                    have y0 := HC.out X (by omega)
                    have hb' := HB.out X (by omega)
                    have hstep : wgo f (m : Int) (k - q) (X : Int) = wgo f (m : Int) (k - (q + 1)) (f X) := by
                      rw [show k - q = (k - (q + 1)) + 1 by omega, wgo_step ⟨c2, hne⟩]
                      simp
                    rw [hstep] at hwg
                    have HW : Hid (wgo f (m : Int) (k - (q + 1)) (f X) = wgo f (m : Int) k (f m)) := hwg
                    have HBB : Hid (-1 ≤ f X ∧ f X < (k : Int)) := hb'
                    clear hwg hstep hb' hne
                    have i2 : (X : Int) < (k : Int) := by omega
                    generalize f X = z at y0 HW HBB
                    go_wp2
                    exact ⟨⟨q + 1, z, by omega, by go_num, rfl, HBB.out.1, HBB.out.2, HW.out, trivial⟩, by simp [intOf]; omega⟩
                  | false =>
                    have c4 : (x == (m : Int)) = true := by simpa using c3
                    have hg : rgB k f m = true := by
                      rw [HRG.out, ← hwg]
                      have : wgo f (m : Int) (k - q) x = x := by rw [show k - q = (k - (q + 1)) + 1 by omega]; exact wgo_stop (by simp only [bne_eq_false_iff_eq] at c3; omega)
                      rw [this]; simpa using c4
                    have hst := HST.out
                    rw [hg, if_pos rfl] at hst
                    have HS : Hid (wrK k f (m + 1) = wrK k f m ++ [(m : Int)]) := hst
                    have hown2 := HOWN.out
                    clear hwg hg hst HST HRG HOWN hown
                    generalize wrK k f m = l at hown2 hlen HS
                    go_wp2_with (at_builtin; refine wpList_append_own _ rfl _ _ 22 rfl w.heap.size 3 i0' (.int .i64 0) 1 8 Try.underlying22 hi hz0 hz1 hz2 rfl (by decide) _ _ _ rfl (World.ownsRow.alloc hown2 _) ⟨wr.heap.size, 0, none⟩ 1 1 [.int .i64 (m : Int)] rfl rfl (cell_one_new _ _ _) (fun x hx => by simp at hx; subst hx; rfl) (by unfold maxLen; omega) (by omega) (by simp; omega) ?_; intro v' w3 hown' hgrow3 _)
                    have hB3 := (hB.alloc hB.size (.cells #[.int .i64 (m : Int)] 3)).grown hgrow3 (by simp; omega) (fun q hq => (World.ownsRow.lt hown2 q hq).1)
                    exact ⟨⟨m + 1, by omega, by go_num, by rw [HS.out]; exact own_snoc hown', hB3⟩, by simp [intOf]; omega⟩
                · have c4 : (x == (m : Int)) = false := by simp; omega
                  have hg : rgB k f m = false := by
                    rw [HRG.out, ← hwg]
                    have : wgo f (m : Int) (k - q) x = x := by rw [show k - q = (k - (q + 1)) + 1 by omega]; exact wgo_stop (by omega)
                    rw [this]; simpa using c4
                  have hst := HST.out
                  rw [hg, if_neg (by simp)] at hst
                  have HS : Hid (wrK k f (m + 1) = wrK k f m) := hst
                  have hown2 := HOWN.out
                  clear hwg hg hst HST HRG HOWN hown
                  go_wp2
                  exact ⟨⟨m + 1, by omega, by go_num, by rw [HS.out]; exact hown2, hB⟩, by simp [intOf]; omega⟩
              · have i1 : ¬ (q : Int) < (k : Int) := by omega
                cases c4 : (x == (m : Int)) with
                | true =>
                  have hg : rgB k f m = true := by
                    rw [HRG.out, ← hwg]
                    have : wgo f (m : Int) (k - q) x = x := by rw [show k - q = 0 by omega]; rfl
                    rw [this]; simpa using c4
                  have hst := HST.out
                  rw [hg, if_pos rfl] at hst
                  have HS : Hid (wrK k f (m + 1) = wrK k f m ++ [(m : Int)]) := hst
                  have hown2 := HOWN.out
                  clear hwg hg hst HST HRG HOWN hown
                  generalize wrK k f m = l at hown2 hlen HS
                  go_wp2_with (at_builtin; refine wpList_append_own _ rfl _ _ 22 rfl w.heap.size 3 i0' (.int .i64 0) 1 8 Try.underlying22 hi hz0 hz1 hz2 rfl (by decide) _ _ _ rfl (World.ownsRow.alloc hown2 _) ⟨wr.heap.size, 0, none⟩ 1 1 [.int .i64 (m : Int)] rfl rfl (cell_one_new _ _ _) (fun x hx => by simp at hx; subst hx; rfl) (by unfold maxLen; omega) (by omega) (by simp; omega) ?_; intro v' w3 hown' hgrow3 _)
                  have hB3 := (hB.alloc hB.size (.cells #[.int .i64 (m : Int)] 3)).grown hgrow3 (by simp; omega) (fun q hq => (World.ownsRow.lt hown2 q hq).1)
                  exact ⟨⟨m + 1, by omega, by go_num, by rw [HS.out]; exact own_snoc hown', hB3⟩, by simp [intOf]; omega⟩
                | false =>
                  have hg : rgB k f m = false := by
                    rw [HRG.out, ← hwg]
                    have : wgo f (m : Int) (k - q) x = x := by rw [show k - q = 0 by omega]; rfl
                    rw [this]; simpa using c4
                  have hst := HST.out
                  rw [hg, if_neg (by simp)] at hst
                  have HS : Hid (wrK k f (m + 1) = wrK k f m) := hst
                  have hown2 := HOWN.out
                  clear hwg hg hst HST HRG HOWN hown
                  go_wp2
                  exact ⟨⟨m + 1, by omega, by go_num, by rw [HS.out]; exact hown2, hB⟩, by simp [intOf]; omega⟩
          · have hmk : m = k := by omega
            subst hmk
            obtain ⟨sa, sc, hve⟩ := hown.shape
            subst hve
            go_wp2
            go_ret
            refine ⟨?_, hB⟩
            rw [HL.out]
            exact ansL_own hown (Nat.le_refl _)
  · have h5' : (5 : Int) < (n : Int) := by omega
    have hr : wrL n f = [] := by unfold wrL; rw [if_neg (fun h => h5 h.1)]
    rw [hr]
    go_enter Try.func4, Try.ntmps4
    go_wp2
    go_ret
    exact ⟨ansL_nil _ _, Below.refl _ _⟩
end Go.Proofs.Ytbndhhjgjalecab
