/- Arbitrate as the model goes. -/
import Derived.Test.YtldagjgpapnfpaaQArI
namespace Go.Proofs.Ytldagjgpapnfpaa
open Go.RowKit
theorem lowB_keep (f L : Nat → Int) (b k : Nat) (h : lowB f L b k = true) : lowB f L b (k + 1) = true := by rw [lowB, h]; rfl
theorem lowB_next (f L : Nat → Int) (b k : Nat) (h : lowB f L b k = false) (X Y : Int) (hX : f k = X) (hY : L k = Y) : lowB f L b (k + 1) = (decide (Y = -1) && decide (ib X b = 0)) := by rw [lowB, h, hX, hY]; rfl
theorem lv_go (n : Nat) (f : Nat → Int) (b j : Nat) (h1 : lv n f b j < 0) (h2 : lowB f (lv n f b) b n = true) (h3 : ib (f j) b = 1) : lv n f (b + 1) j = (b : Int) := by
  rw [lv, if_pos ⟨by have := lv_bd n f b j; omega, h2, h3⟩]
theorem lv_no1 (n : Nat) (f : Nat → Int) (b j : Nat) (h : ¬ lv n f b j < 0) : lv n f (b + 1) j = lv n f b j := by
  rw [lv, if_neg (fun h2 => by omega)]
theorem lv_no2 (n : Nat) (f : Nat → Int) (b j : Nat) (h : lowB f (lv n f b) b n = false) : lv n f (b + 1) j = lv n f b j := by
  rw [lv, if_neg (fun h2 => by rw [h] at h2; exact absurd h2.2.1 (by simp))]
theorem lv_no3 (n : Nat) (f : Nat → Int) (b j : Nat) (h : ib (f j) b = 0) : lv n f (b + 1) j = lv n f b j := by
  rw [lv, if_neg (fun h2 => by omega)]
set_option maxRecDepth 20000 in
set_option maxHeartbeats 4000000 in
theorem sArb (a : Option Addr) (n c : Nat) (f : Nat → Int) (K M : Nat) (G : Nat → Int) (B : Bool) (w : World) (hn : n ≤ 1048576) (hA : ArIs n f K M G B) (hf : IL w a n f) :
    Calls Try.prog 35 #[.slice a n c] w fun e w' => AnsA3 w w' e K M G B ∧ Below w.heap.size w w' := by
  by_cases h1 : n < 1
  · obtain ⟨rfl, rfl, rfl⟩ : K = 0 ∧ M = 0 ∧ B = false := by
      rcases hA with ⟨h, _⟩ | ⟨_, h⟩
      · omega
      · exact h
    have j : (n : Int) < 1 := by omega
    go_enter Try.func35, Try.ntmps35
    go_wp2_with fail
    go_ret3
    exact ⟨⟨none, 0, rfl, lq_none _ _ _ _ _⟩, Below.refl _ _⟩
  have j1 : ¬ (n : Int) < 1 := by omega
  by_cases h2 : 6 < n
  · obtain ⟨rfl, rfl, rfl⟩ : K = 0 ∧ M = 0 ∧ B = false := by
      rcases hA with ⟨h, _⟩ | ⟨_, h⟩
      · omega
      · exact h
    have j : (6 : Int) < (n : Int) := by omega
    go_enter Try.func35, Try.ntmps35
    go_wp2_with fail
    go_ret3
    exact ⟨⟨none, 0, rfl, lq_none _ _ _ _ _⟩, Below.refl _ _⟩
  have j2 : ¬ (6 : Int) < (n : Int) := by omega
  have HNo : Hid (∀ k, k < n → idB (f k) = false → K = 0 ∧ M = 0 ∧ B = false) := fun k hk h => by
    rcases hA with ⟨h, _⟩ | ⟨_, h⟩
    · have h5 := (idsB_iff f n).2 h.2.2
      have := idsB_false (f := f) hk ‹idB (f k) = false›
      rw [h5] at this; cases this
    · exact h
  have HYes : Hid (idsB f n = true → (∀ i, i < n → 0 ≤ f i ∧ f i ≤ 2047) ∧ ∀ k, Fst (lv n f 11) n k → k = K ∧ n = M ∧ lv n f 11 = G ∧ true = B) := fun h3 => by
    have hid := (idsB_iff f n).1 h3
    refine ⟨hid, fun k hk => ?_⟩
    rcases hA with ⟨_, hK, rfl, rfl, rfl⟩ | ⟨h, _⟩
    · exact ⟨hk.uniq hK, rfl, rfl, rfl⟩
    · exact absurd ⟨by omega, by omega, hid⟩ h
  have HF : Hid (IL w a n f) := hf
  have HS : Hid (∀ k, idsB f k = true → idB (f k) = true → idsB f (k + 1) = true) := fun k h1 h2 => by unfold idsB; rw [h1, h2]; rfl
  clear hA hf
  have hmk := run_make_row' (P := Try.prog) 24 3 (.int .i64 0) 8 Try.underlying24 infoI rfl .i64 .i64 n (by omega) (by omega)
  have hip0 : IP (w.alloc (.cells (madeCells #[.int .i64 0] n) 3)) w.heap.size n (fun i => if i < 0 then -1 else 0) := (row_ip (F := fun _ => 0) ((World.rowIs_made w (.int .i64 0) n 3).congr fun i _ => rfl)).congr fun i _ => by simp
  have hb0 : Below w.heap.size w (w.alloc (.cells (madeCells #[.int .i64 0] n) 3)) := (Below.refl _ _).alloc (Nat.le_refl _) _
  go_enter Try.func35, Try.ntmps35
  go_wp2
  go_loopw [26] (fun i wr => ∃ k : Nat, k ≤ n ∧ i = .int .i64 (k : Int) ∧ Hid (idsB f k = true) ∧ wr = w) (fun i _ => n - (intOf i).toNat)
  case atStart => exact ⟨0, Nat.zero_le _, rfl, (rfl : idsB f 0 = true), rfl⟩
  case round =>
    obtain ⟨k, hk, rfl, HE, hw⟩ := hrel
    have hw' := hw.symm
    clear hw
    subst hw'
    by_cases hlt : k < n
    · clear hmk hip0 hb0 HYes
      obtain ⟨b1, o1, rfl, l1, hc1⟩ := HF.out (by omega)
      have y1 := hc1 k hlt
      have j0 : (0 : Int) ≤ (k : Int) := by omega
      have j3 : (k : Int) < (n : Int) := by omega
      have HS2 : Hid (idB (f k) = true → idsB f (k + 1) = true) := HS.out k HE.out
      have HN2 : Hid (idB (f k) = false → K = 0 ∧ M = 0 ∧ B = false) := HNo.out k hlt
      clear hc1 HS HNo HE HF
      generalize f k = X at *
      by_cases x0 : X < 0
      · obtain ⟨rfl, rfl, rfl⟩ := HN2.out (by unfold idB; rw [decide_eq_false (by omega)]; rfl)
        clear HS2 HN2
        go_wp2_with fail
        go_ret3
        exact ⟨⟨none, 0, rfl, lq_none _ _ _ _ _⟩, Below.refl _ _⟩
      · by_cases x1 : 2047 < X
        · obtain ⟨rfl, rfl, rfl⟩ := HN2.out (by unfold idB; rw [decide_eq_false (p := X ≤ 2047) (by omega), Bool.and_false])
          clear HS2 HN2
          go_wp2_with fail
          go_ret3
          exact ⟨⟨none, 0, rfl, lq_none _ _ _ _ _⟩, Below.refl _ _⟩
        · have HR : Hid (idsB f (k + 1) = true) := HS2.out (by unfold idB; rw [decide_eq_true (p := 0 ≤ X) (by omega), decide_eq_true (p := X ≤ 2047) (by omega)]; rfl)
          clear HS2 HN2
          go_wp2
          exact ⟨⟨k + 1, by omega, by go_num, HR, trivial⟩, by simp [intOf]; omega⟩
    · have : k = n := by omega
      subst this
      obtain ⟨hid, ha⟩ := HYes.out HE.out
      have HD : Hid (∀ i, i < k → 0 ≤ f i ∧ f i ≤ 2047) := hid
      have HA : Hid (∀ q, Fst (lv k f 11) k q → q = K ∧ k = M ∧ lv k f 11 = G ∧ true = B) := ha
      clear hid ha HYes HNo HS HE
      go_wp2
      generalize hw1 : w.alloc (.cells (madeCells #[.int .i64 0] k) 3) = w1 at *
      have hg0 : w.heap.size ≤ w.heap.size := Nat.le_refl _
      clear hmk hw1
      generalize hg : w.heap.size = g at *
      have HG : Hid (w.heap.size = g) := hg
      clear hg
      go_loopw [42] (fun i wr => ∃ j : Nat, j ≤ k ∧ i = .int .i64 (j : Int) ∧ IP wr g k (fun i => if i < j then -1 else 0) ∧ Below g w wr) (fun i _ => k - (intOf i).toNat)
      case atStart => exact ⟨0, by omega, rfl, hip0, hb0⟩
      case round =>
        obtain ⟨j, hj, rfl, hip, hB⟩ := hrel
        clear hip0 hb0
        by_cases hjn : j < k
        · have y2 := hip.c j hjn
          have fz := hip.fz j
          have l2 := hip.lt
          have i2 : (0 : Int) ≤ (j : Int) := by omega
          have i3 : (j : Int) < (k : Int) := by omega
          have hip2 : IP (wr.setCell ⟨g, j, none⟩ (.int .i64 (-1))) g k (fun i => if i < j + 1 then -1 else 0) := (hip.set hjn (-1)).congr fun i _ => by
            unfold put
            by_cases c1 : i = j
            · subst c1; simp
            · by_cases c2 : i < j
              · simp [c1, c2, show i < j + 1 by omega]
              · have : ¬ i < j + 1 := by omega
                simp [c1, c2, this]
          have hB6 := hB.setCell (p := ⟨g, j, none⟩) (Nat.le_refl g) (.int .i64 (-1))
          have HP : Hid (IP (wr.setCell ⟨g, j, none⟩ (.int .i64 (-1))) g k (fun i => if i < j + 1 then -1 else 0)) := hip2
          clear hip hip2 hB
          go_wp2
          exact ⟨⟨j + 1, by omega, by go_num, HP.out, hB6⟩, by simp [intOf]; omega⟩
        · have : j = k := by omega
          subst this
          have hip0 : IP wr g j (lv j f 0) := hip.congr fun i hi => by simp [hi, lv]
          clear hip
          go_wp2
          go_loopw [9] (fun i wr => ∃ b : Nat, b ≤ 11 ∧ i = .int .i64 (b : Int) ∧ IP wr g j (lv j f b) ∧ Below g w wr) (fun i _ => 11 - (intOf i).toNat)
          case atStart => exact ⟨0, by omega, rfl, hip0, hB⟩
          case round =>
            obtain ⟨b, hb, rfl, hipo, hBo⟩ := hrel
            clear hip0 hB
            by_cases hlt : b < 11
            · have i1 : (b : Int) < 11 := by omega
              obtain ⟨w8, hw8⟩ : ∃ w8, w8 = wr := ⟨wr, rfl⟩
              subst hw8
              go_wp2
              go_loopw [10, 55] (fun q i wr => ∃ p : Nat, p ≤ j ∧ i = .int .i64 (p : Int) ∧ q = .bool (lowB f (lv j f b) b p) ∧ wr = w8) (fun _ i _ => j - (intOf i).toNat)
              case atStart => exact ⟨0, by omega, rfl, rfl, rfl⟩
              case round =>
                obtain ⟨p, hp, rfl, rfl, hw⟩ := hrel
                have hw' := hw.symm
                clear hw
                subst hw'
                by_cases hpn : p < j
                · obtain ⟨b1, o1, rfl, l1, hc1⟩ := (HF.out.below (by rw [HG.out]; exact hBo)) (by omega)
                  have y1 := hc1 p hpn
                  have y2 := hipo.c p hpn
                  have l2 := hipo.lt
                  have i2 : (0 : Int) ≤ (p : Int) := by omega
                  have i3 : (p : Int) < (j : Int) := by omega
                  have hd := HD.out p hpn
                  have hia := ib_and (f p) b hd.1 hd.2
                  have HK : Hid (lowB f (lv j f b) b p = true → lowB f (lv j f b) b (p + 1) = true) := lowB_keep f (lv j f b) b p
                  have HN : Hid (lowB f (lv j f b) b p = false → lowB f (lv j f b) b (p + 1) = (decide (lv j f b p = -1) && decide (ib (f p) b = 0))) := fun h1 => lowB_next f (lv j f b) b p h1 _ _ rfl rfl
                  have HV : Hid (lv j f b p = -1 ∨ 0 ≤ lv j f b p) := (by have := lv_bd j f b p; omega : lv j f b p = -1 ∨ 0 ≤ lv j f b p)
                  clear hc1
                  generalize hX : f p = X at *
                  generalize hY : lv j f b p = Y at *
                  cases hq : lowB f (lv j f b) b p with
                  | true =>
                    have HR : Hid (lowB f (lv j f b) b (p + 1) = true) := HK.out hq
                    clear HK HN hX hY
                    go_wp2
                    exact ⟨⟨p + 1, by omega, by go_num, by rw [HR.out], trivial⟩, by simp [intOf]; omega⟩
                  | false =>
                    have HN2 : Hid (lowB f (lv j f b) b (p + 1) = (decide (Y = -1) && decide (ib X b = 0))) := HN.out hq
                    clear HK HN hX hY
                    generalize hZ : ib X b = Z at *
                    clear hZ
                    by_cases y0 : Y < 0
                    · cases hz : (Z == 0) with
                      | true =>
                        have HR : Hid (lowB f (lv j f b) b (p + 1) = true) := by
                          show _ = _
                          rw [HN2.out, decide_eq_true (by have := HV.out; omega), decide_eq_true (eq_of_beq hz)]; rfl
                        clear HN2 HV
                        go_wp2
                        exact ⟨⟨p + 1, by omega, by go_num, by rw [HR.out], trivial⟩, by simp [intOf]; omega⟩
                      | false =>
                        have HR : Hid (lowB f (lv j f b) b (p + 1) = false) := by
                          show _ = _
                          rw [HN2.out, decide_eq_false (ne_of_beq_false hz), Bool.and_false]
                        clear HN2 HV
                        go_wp2
                        exact ⟨⟨p + 1, by omega, by go_num, by rw [HR.out], trivial⟩, by simp [intOf]; omega⟩
                    · have HR : Hid (lowB f (lv j f b) b (p + 1) = false) := by
                        show _ = _
                        rw [HN2.out, decide_eq_false (by omega), Bool.false_and]
                      clear HN2 HV
                      go_wp2
                      exact ⟨⟨p + 1, by omega, by go_num, by rw [HR.out], trivial⟩, by simp [intOf]; omega⟩
                · have : p = j := by omega
                  subst this
                  have hip5 : IP w8 g p (mxK p f b 0) := hipo.congr fun i _ => (mxK_zero p f b i).symm
                  clear hipo
                  generalize hq : lowB f (lv p f b) b p = q at *
                  have HQ : Hid (lowB f (lv p f b) b p = q) := hq
                  clear hq
                  go_wp2
                  go_loopw [80] (fun i w5 => ∃ t : Nat, t ≤ p ∧ i = .int .i64 (t : Int) ∧ IP w5 g p (mxK p f b t) ∧ Below g w w5) (fun i _ => p - (intOf i).toNat)
                  case atStart => exact ⟨0, by omega, rfl, hip5, hBo⟩
                  case round =>
                    obtain ⟨t, ht, rfl, hip, hB⟩ := hrel
                    clear hBo hip5
                    by_cases htn : t < p
                    · obtain ⟨b1, o1, rfl, l1, hc1⟩ := (HF.out.below (by rw [HG.out]; exact hB)) (by omega)
                      have y1 := hc1 t htn
                      have y2 := hip.c t htn
                      have fz := hip.fz t
                      have l2 := hip.lt
                      rw [mxK_at] at y2
                      have i2 : (0 : Int) ≤ (t : Int) := by omega
                      have i3 : (t : Int) < (p : Int) := by omega
                      have hd := HD.out t htn
                      have hia := ib_and (f t) b hd.1 hd.2
                      have HG1 : Hid (lv p f b t < 0 → q = true → ib (f t) b = 1 → lv p f (b + 1) t = (b : Int)) := fun h1 h2 h3 => lv_go p f b t h1 (HQ.out.trans h2) h3
                      have HN1 : Hid (¬ lv p f b t < 0 → lv p f (b + 1) t = lv p f b t) := lv_no1 p f b t
                      have HN2 : Hid (q = false → lv p f (b + 1) t = lv p f b t) := fun h => lv_no2 p f b t (HQ.out.trans h)
                      have HN3 : Hid (ib (f t) b = 0 → lv p f (b + 1) t = lv p f b t) := lv_no3 p f b t
                      have HBD : Hid (ib (f t) b = 0 ∨ ib (f t) b = 1) := ib_bd (f t) b
                      have hB6 := hB.setCell (p := ⟨g, t, none⟩) (Nat.le_refl g) (.int .i64 (b : Int))
                      have HST : Hid (lv p f (b + 1) t = lv p f b t → IP wr g p (mxK p f b (t + 1))) := fun h => (hip.congr fun i _ => mxK_step p f b t i h)
                      have HPT : Hid (lv p f (b + 1) t = (b : Int) → IP (wr.setCell ⟨g, t, none⟩ (.int .i64 (b : Int))) g p (mxK p f b (t + 1))) := fun h => ((hip.set htn (b : Int)).congr fun i _ => mxK_put p f b t i (b : Int) h)
                      clear hc1 hip
                      generalize f t = X at *
                      generalize lv p f b t = Y at *
                      generalize hZ : ib X b = Z at *
                      clear hZ
                      cases hq : q with
                      | false =>
                        have HP : Hid (IP wr g p (mxK p f b (t + 1))) := HST.out (HN2.out hq)
                        subst hq
                        clear HG1 HN1 HN2 HN3 HBD HST HPT HQ
                        go_wp2
                        exact ⟨⟨t + 1, by omega, by go_num, HP.out, hB⟩, by simp [intOf]; omega⟩
                      | true =>
                        by_cases y0 : Y < 0
                        · cases hz : (Z == 1) with
                          | true =>
                            have HP : Hid (IP (wr.setCell ⟨g, t, none⟩ (.int .i64 (b : Int))) g p (mxK p f b (t + 1))) := HPT.out (HG1.out y0 hq (eq_of_beq hz))
                            subst hq
                            clear HG1 HN1 HN2 HN3 HBD HST HPT HQ
                            go_wp2
                            exact ⟨⟨t + 1, by omega, by go_num, HP.out, hB6⟩, by simp [intOf]; omega⟩
                          | false =>
                            have HP : Hid (IP wr g p (mxK p f b (t + 1))) := HST.out (HN3.out (by have := HBD.out; have := ne_of_beq_false hz; omega))
                            subst hq
                            clear HG1 HN1 HN2 HN3 HBD HST HPT HQ
                            go_wp2
                            exact ⟨⟨t + 1, by omega, by go_num, HP.out, hB⟩, by simp [intOf]; omega⟩
                        · have HP : Hid (IP wr g p (mxK p f b (t + 1))) := HST.out (HN1.out y0)
                          subst hq
                          clear HG1 HN1 HN2 HN3 HBD HST HPT HQ
                          go_wp2
                          exact ⟨⟨t + 1, by omega, by go_num, HP.out, hB⟩, by simp [intOf]; omega⟩
                    · have : t = p := by omega
                      subst this
                      have hip9 : IP wr g t (lv t f (b + 1)) := hip.congr fun i hi => by unfold mxK; rw [if_pos hi]
                      clear hip
                      go_wp2
                      exact ⟨⟨b + 1, by omega, by go_num, hip9, hB⟩, by simp [intOf]; omega⟩
            · have : b = 11 := by omega
              subst this
              have HAL : Hid (∃ i, i < j ∧ lv j f 11 i = -1) := lv_alive j f (by omega) 11
              have HLB : Hid (∀ i, lv j f 11 i = -1 ∨ 0 ≤ lv j f 11 i) := fun i => by have := lv_bd j f 11 i; omega
              obtain ⟨w8, hw8⟩ : ∃ w8, w8 = wr := ⟨wr, rfl⟩
              subst hw8
              go_wp2
              go_loopw [15] (fun i wr => ∃ t : Nat, t < j ∧ i = .int .i64 (t : Int) ∧ Hid (∀ d, d < t → lv j f 11 d ≠ -1) ∧ wr = w8) (fun i _ => j - (intOf i).toNat)
              case atStart => exact ⟨0, by omega, rfl, (fun d h => absurd h (Nat.not_lt_zero _) : ∀ d, d < 0 → lv j f 11 d ≠ -1), rfl⟩
              case round =>
                obtain ⟨t, ht, rfl, HE, hw⟩ := hrel
                have hw' := hw.symm
                clear hw
                subst hw'
                have y2 := hipo.c t ht
                have l2 := hipo.lt
                have i2 : (0 : Int) ≤ (t : Int) := by omega
                have i3 : (t : Int) < (j : Int) := by omega
                by_cases h0 : 0 ≤ lv j f 11 t
                · have hne : ∀ d, d < t + 1 → lv j f 11 d ≠ -1 := fun d hd => by
                    rcases Nat.lt_or_eq_of_le (Nat.le_of_lt_succ hd) with h2 | rfl
                    · exact HE.out d h2
                    · omega
                  have htl : t + 1 < j := by
                    obtain ⟨i, hi, e⟩ := HAL.out
                    by_cases c : i < t + 1
                    · exact absurd e (hne i c)
                    · omega
                  have HR : Hid (∀ d, d < t + 1 → lv j f 11 d ≠ -1) := hne
                  clear hne HE
                  generalize lv j f 11 t = Y at *
                  go_wp2
                  exact ⟨⟨t + 1, htl, by go_num, HR, trivial⟩, by simp [intOf]; omega⟩
                · have hFst : Fst (lv j f 11) j t := ⟨ht, by have := HLB.out t; omega, HE.out⟩
                  have HZ : Hid (t = K ∧ j = M ∧ lv j f 11 = G ∧ true = B) := HA.out t hFst
                  have hLQ : LQ w8 g w8.heap.size (some ⟨g, 0, none⟩) j (lv j f 11) := lq_of hipo (Nat.le_refl g) hipo.lt
                  clear HA HE HD HLB HAL hFst
                  generalize lv j f 11 t = Y at *
                  go_wp2
                  go_ret3
                  obtain ⟨e1, e2, e3, e4⟩ := HZ.out
                  subst e1 e2 e3 e4
                  rw [← HG.out] at hLQ hBo
                  exact ⟨⟨_, _, rfl, by rw [HG.out]; rw [HG.out] at hLQ; exact hLQ⟩, by rw [HG.out]; rw [HG.out] at hBo; exact hBo⟩
end Go.Proofs.Ytldagjgpapnfpaa
