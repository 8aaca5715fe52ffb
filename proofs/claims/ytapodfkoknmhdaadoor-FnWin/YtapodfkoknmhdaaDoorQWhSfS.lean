/- What can't be kept away from, as the model finds it. -/
import Derived.Test.YtapodfkoknmhdaaDoorQWhSfM
import Derived.Test.YtapodfkoknmhdaaDoorQWhCnI
namespace Go.Proofs.YtapodfkoknmhdaaDoor
open Go.RowKit
theorem safe_set {w : World} {rb n i : Nat} {X : Nat → Bool} (h : IP w rb n (rkX X)) (hi : i < n) : IP (w.setCell ⟨rb, i, none⟩ (.int .i64 (-1))) rb n (rkX (setX X i)) :=
  (h.set hi (-1)).congr fun j _ => by
    unfold put rkX setX
    by_cases e : j = i
    · rw [if_pos e, if_pos e, if_pos rfl]
    · rw [if_neg e, if_neg e]
theorem rkX_congr {X Y : Nat → Bool} {j : Nat} (e : X j = Y j) : rkX X j = rkX Y j := by unfold rkX; rw [e]
theorem kn_av (f : Nat → ByteArray) (rn : Nat) (re : Nat → ByteArray) (an : Nat) (av : Nat → ByteArray) (i : Nat) : (knF f rn re an av i == 2) = inS av (f i) an := by
  unfold knF
  cases inS av (f i) an with
  | true => rfl
  | false => cases inS re (f i) rn <;> rfl
theorem kn_no (f : Nat → ByteArray) (re : Nat → ByteArray) (an : Nat) (av : Nat → ByteArray) {rn : Nat} (h : rn = 0) (i : Nat) : knF f rn re an av i = 0 ∨ knF f rn re an av i = 2 := by
  subst h
  unfold knF
  split
  · exact .inr rfl
  · left; rfl
set_option maxRecDepth 200000 in
set_option maxHeartbeats 8000000 in
theorem sSafe (a : Option Addr) (n c : Nat) (b : Option Addr) (d : Nat) (x : Option Addr) (q : Nat) (f : Nat → ByteArray) (g : Nat → Bool) (K : Nat → Nat) (R : Nat → Nat → Int) (ra : Option Addr) (rc : Nat) (re : Nat → ByteArray) (aa : Option Addr) (an ac : Nat) (av : Nat → ByteArray) (rb cap : Nat) (W0 w : World) (h1 : 1 ≤ n) (hn : n ≤ 14) (hK : ∀ i, i < n → K i ≤ 1048576) (hR : OnB n K R) (han : an ≤ 1048576) (h : BD W0 a n f b n g x n K R) (ha : SL W0 aa an av) (hB0 : Below W0.heap.size W0 w) (hrb : W0.heap.size ≤ rb) (hI : IP w rb n (fun _ => 0)) :
    Calls Tryd.prog 101 #[bdv a n c b n d x n q, wsv ra 0 rc aa an ac, .slice (some ⟨rb, 0, none⟩) n cap] w fun e w' => e = .returned (.tuple #[]) ∧ IP w' rb n (rkV n (knF f 0 re an av) 0 g K R) ∧ Below W0.heap.size W0 w' := by
  have hb2 : Below w.heap.size w ((w.alloc (bdO a n c b n d x n q 38)).alloc (wsO ra 0 rc aa an ac 25)) := ((Below.refl _ _).alloc (Nat.le_refl _) _).alloc (by simp) _
  have bA := (bx_new (w := w) (bdL a n c b n d x n q) 38 rfl).alloc (wsO ra 0 rc aa an ac 25)
  have bW := (bx_new (w := w.alloc (bdO a n c b n d x n q 38)) (b := w.heap.size + 1) [.slice ra 0 rc, .slice aa an ac] 25 (by simp))
  have hB2 := hB0.trans (hb2.mono hB0.size)
  have hrw := hI.lt
  have hI2 := hI.below hb2 hrw
  have kI := fun s w2 (h : SL w2 aa an av) => sIn aa an ac av s w2 han h
  have HKn : Hid (∀ i, (knF f 0 re an av i == 2) = inS av (f i) an) := fun i => kn_av f 0 re an av i
  have HK0 : Hid (∀ i, knF f 0 re an av i = 0 ∨ knF f 0 re an av i = 2) := fun i => kn_no f re an av rfl i
  have HRV : Hid (∀ X w2, Sf n (knF f 0 re an av) g K R n 0 X → IP w2 rb n (rkX X) → IP w2 rb n (rkV n (knF f 0 re an av) 0 g K R)) := fun X w2 hS hP => hP.congr fun j hj => by
    unfold rkV rkX
    rw [if_pos rfl, hS.last hj]
    unfold inL
    by_cases e : 0 ≤ lvl (knF f 0 re an av) 2 g K R false n j
    · rw [if_pos (decide_eq_true e), if_pos e]
    · rw [if_neg (by rw [decide_eq_false e]; simp), if_neg e]
  have HSt : Hid (∀ X, (∀ j, j < n → X j = (knF f 0 re an av j == 2)) → Sf n (knF f 0 re an av) g K R 0 0 X) := fun X hX => Sf.start hX
  have HR : Hid (OnB n K R) := hR
  have HH : Hid (BD W0 a n f b n g x n K R ∧ SL W0 aa an av ∧ ∀ i, i < n → K i ≤ 1048576) := ⟨h, ha, hK⟩
  have HI0 : Hid (IP ((w.alloc (bdO a n c b n d x n q 38)).alloc (wsO ra 0 rc aa an ac 25)) rb n (rkX (fun j => decide (j < 0) && (knF f 0 re an av j == 2)))) := hI2.congr fun j _ => by
    have : (fun j => decide (j < 0) && (knF f 0 re an av j == 2)) j = (fun _ => false) j := by simp
    exact (rkX_congr (X := fun j => decide (j < 0) && (knF f 0 re an av j == 2)) (Y := fun _ => false) this).symm
  have HA0 : Hid (Bx ((w.alloc (bdO a n c b n d x n q 38)).alloc (wsO ra 0 rc aa an ac 25)) w.heap.size (bdL a n c b n d x n q)) := bA
  have HW0 : Hid (Bx ((w.alloc (bdO a n c b n d x n q 38)).alloc (wsO ra 0 rc aa an ac 25)) (w.heap.size + 1) [.slice ra 0 rc, .slice aa an ac]) := bW
  have x0 := bA.c0
  clear hI hI2 hb2 h ha hK hR hB0 bA bW
  generalize knF f 0 re an av = kn at *
  go_enter Tryd.func101, Tryd.ntmps101
  go_wp2
  generalize (w.alloc (bdO a n c b n d x n q 38)).alloc (wsO ra 0 rc aa an ac 25) = w2 at HI0 HA0 HW0 hB2 x0 ⊢
  clear x0
  go_loopw [17] (fun k wr => ∃ i : Nat, i ≤ n ∧ k = .int .i64 (i : Int) ∧ Hid (IP wr rb n (rkX (fun j => decide (j < i) && (kn j == 2)))) ∧ Hid (Bx wr w.heap.size (bdL a n c b n d x n q)) ∧ Hid (Bx wr (w.heap.size + 1) [.slice ra 0 rc, .slice aa an ac]) ∧ Below W0.heap.size W0 wr) (fun k _ => n - (intOf k).toNat)
  case atStart => exact ⟨0, Nat.zero_le _, rfl, HI0, HA0, HW0, hB2⟩
  case round =>
    obtain ⟨i, hin, rfl, HI, HA, HW, hB⟩ := hrel
    clear HI0 HA0 HW0 hB2
    by_cases hlt : i < n
    · have k0 : (0 : Int) ≤ (i : Int) := by omega
      have k1 : (i : Int) < (n : Int) := by omega
      obtain ⟨sb, so, rfl, sl, hc1⟩ := (HH.out.1.nm.below hB) (by omega)
      have y1 := hc1 i hlt
      have u1 := HW.out.c1
      have kI2 := kI (f i) wr (HH.out.2.1.below hB)
      have HKi : Hid ((kn i == 2) = inS av (f i) an) := HKn.out i
      have z1 := HI.out.c i hlt
      have z2 := HI.out.lt
      have z3 := HI.out.fz i
      have HN : Hid (inS av (f i) an = false → IP wr rb n (rkX (fun j => decide (j < i + 1) && (kn j == 2)))) := fun h9 => HI.out.congr fun j _ => rkX_congr (by
        show (decide (j < i) && (kn j == 2)) = (decide (j < i + 1) && (kn j == 2))
        by_cases e : j = i
        · subst e; rw [HKi.out, h9, Bool.and_false, Bool.and_false]
        · rw [show decide (j < i + 1) = decide (j < i) from decide_eq_decide.mpr (by omega)])
      have HY : Hid (inS av (f i) an = true → IP (wr.setCell ⟨rb, i, none⟩ (.int .i64 (-1))) rb n (rkX (fun j => decide (j < i + 1) && (kn j == 2)))) := fun h9 => (safe_set HI.out hlt).congr fun j _ => rkX_congr (by
        show setX (fun j => decide (j < i) && (kn j == 2)) i j = (decide (j < i + 1) && (kn j == 2))
        unfold setX
        by_cases e : j = i
        · subst e; rw [if_pos rfl, HKi.out, h9, decide_eq_true (by omega : j < j + 1)]; rfl
        · rw [if_neg e, show decide (j < i + 1) = decide (j < i) from decide_eq_decide.mpr (by omega)])
      have HA2 : Hid (Bx (wr.setCell ⟨rb, i, none⟩ (.int .i64 (-1))) w.heap.size (bdL (some ⟨sb, so, none⟩) n c b n d x n q)) := HA.out.far (b' := rb) (k := i) (.int .i64 (-1)) (by omega)
      have HW2 : Hid (Bx (wr.setCell ⟨rb, i, none⟩ (.int .i64 (-1))) (w.heap.size + 1) [.slice ra 0 rc, .slice aa an ac]) := HW.out.far (b' := rb) (k := i) (.int .i64 (-1)) (by omega)
      have hBs := hB.setCell (p := ⟨rb, i, none⟩) (by simp <;> omega) (.int .i64 (-1))
      clear hc1 kI HKi
      generalize inS av (f i) an = I at *
      generalize f i = s at *
      cases I with
      | true =>
        have HI2 : Hid (IP (wr.setCell ⟨rb, i, none⟩ (.int .i64 (-1))) rb n (rkX (fun j => decide (j < i + 1) && (kn j == 2)))) := HY.out rfl
        clear HN HY
        go_wp2_with fail
        refine kI2.mono ?_
        rintro e w9 ⟨rfl, hw9⟩
        have hs' := hw9.symm
        clear hw9 kI2
        subst hs'
        go_wp2
        exact ⟨⟨i + 1, by omega, by go_num, HI2, HA2, HW2, hBs⟩, by simp [intOf]; omega⟩
      | false =>
        have HI2 : Hid (IP wr rb n (rkX (fun j => decide (j < i + 1) && (kn j == 2)))) := HN.out rfl
        clear HN HY HA2 HW2
        go_wp2_with fail
        refine kI2.mono ?_
        rintro e w9 ⟨rfl, hw9⟩
        have hs' := hw9.symm
        clear hw9 kI2
        subst hs'
        go_wp2
        exact ⟨⟨i + 1, by omega, by go_num, HI2, HA, HW, hB⟩, by simp [intOf]; omega⟩
    · have hii : i = n := by omega
      subst hii
      have HS0 : Hid (∃ X, Sf i kn g K R 0 0 X ∧ IP wr rb i (rkX X)) := ⟨_, HSt.out _ fun j hj => by rw [decide_eq_true hj, Bool.true_and], HI.out⟩
      clear HI HW HSt HKn kI
      obtain ⟨w8, hw8⟩ : ∃ w8, w8 = wr := ⟨wr, rfl⟩
      subst hw8
      go_wp2_with fail
      go_loopw [32] (fun k wr => ∃ t : Nat, t ≤ i ∧ k = .int .i64 (t : Int) ∧ Hid (∃ X, Sf i kn g K R t 0 X ∧ IP wr rb i (rkX X)) ∧ Hid (Bx wr w.heap.size (bdL a i c b i d x i q)) ∧ Below W0.heap.size W0 wr) (fun k _ => i - (intOf k).toNat)
      case atStart => exact ⟨0, Nat.zero_le _, rfl, HS0, HA, hB⟩
      case round =>
        obtain ⟨t, ht, rfl, HS, HA2, hB2⟩ := hrel
        clear HS0 HA hB
        by_cases hlt2 : t < i
        · have t0 : (0 : Int) ≤ (t : Int) := by omega
          have t1 : (t : Int) < (i : Int) := by omega
          obtain ⟨w9, hw9⟩ : ∃ w9, w9 = wr := ⟨wr, rfl⟩
          subst hw9
          go_wp2_with fail
          go_loopw [38] (fun k wr => ∃ j : Nat, j ≤ i ∧ k = .int .i64 (j : Int) ∧ Hid (∃ X, Sf i kn g K R t j X ∧ IP wr rb i (rkX X)) ∧ Hid (Bx wr w.heap.size (bdL a i c b i d x i q)) ∧ Below W0.heap.size W0 wr) (fun k _ => i - (intOf k).toNat)
          case atStart => exact ⟨0, Nat.zero_le _, rfl, HS, HA2, hB2⟩
          case round =>
            obtain ⟨j, hj, rfl, HS3, HA3, hB3⟩ := hrel
            clear HS HA2 hB2
            by_cases hlt3 : j < i
            · have k0 : (0 : Int) ≤ (j : Int) := by omega
              have k1 : (j : Int) < (i : Int) := by omega
              obtain ⟨X, hSf, hIP⟩ := HS3.out
              clear HS3
              have y1 := hIP.c j hlt3
              have y2 := hIP.lt
              have y3 := hIP.fz j
              have HIP : Hid (IP wr rb i (rkX X)) := hIP
              have HSkip : Hid (X j = true ∨ stp g K R false X j = false → ∃ X, Sf i kn g K R t (j + 1) X ∧ IP wr rb i (rkX X)) := fun h9 => ⟨X, hSf.skip HR.out hlt3 h9, HIP.out⟩
              have HSet : Hid (X j = false → stp g K R false X j = true → ∃ X, Sf i kn g K R t (j + 1) X ∧ IP (wr.setCell ⟨rb, j, none⟩ (.int .i64 (-1))) rb i (rkX X)) := fun h9 h8 => ⟨setX X j, hSf.set HR.out hlt3 (HK0.out j) h9 h8, safe_set HIP.out hlt3⟩
              have HStp : Hid (stp g K R false X j = if (g j == false) = true then smB X (R j) (K j) else (decide (K j ≠ 0) && alB X (R j) (K j))) := (rfl : stp g K R false X j = _)
              clear hSf hIP
              have u2 := HA3.out.c2
              have u1 := HA3.out.c1
              obtain ⟨A, C, hA⟩ := HH.out.1.nx
              obtain ⟨xb, xo, rfl, xl, hc3⟩ := (hA.below hB3).out (by omega)
              have y4 := hc3 j hlt3
              have hrow := (hA.below hB3).row j hlt3
              obtain ⟨mb, mo, rfl, ml, hc4⟩ := (HH.out.1.mi.below hB3) (by omega)
              have y5 := hc4 j hlt3
              have hKj := HH.out.2.2 j hlt3
              have hRj := HR.out j hlt3
              have hBs := hB3.setCell (p := ⟨rb, j, none⟩) (by simp <;> omega) (.int .i64 (-1))
              have HA4 : Hid (Bx (wr.setCell ⟨rb, j, none⟩ (.int .i64 (-1))) w.heap.size (bdL a i c (some ⟨mb, mo, none⟩) i d (some ⟨xb, xo, none⟩) i q)) := HA3.out.far (b' := rb) (k := j) (.int .i64 (-1)) (by omega)
              have HRj : Hid (∀ t, t < K j → 0 ≤ R j t ∧ R j t < (i : Int)) := hRj
              have hxn := rkX_neg X j
              clear hc3 hc4 hA hRj
              generalize R j = F at *
              generalize K j = M at *
              generalize A j = Z at *
              generalize C j = Y at *
              generalize g j = G at *
              generalize hV : rkX X j = V at *
              cases hXj : X j with
              | true =>
                rw [hXj] at hxn
                have v1 : V < 0 := of_decide_eq_true hxn
                have HS4 : Hid (∃ X, Sf i kn g K R t (j + 1) X ∧ IP wr rb i (rkX X)) := HSkip.out (.inl hXj)
                clear HSkip HSet HStp hrow HRj HIP hV hxn
                go_wp2
                exact ⟨⟨j + 1, by omega, by go_num, HS4, HA3, hB3⟩, by simp [intOf]; omega⟩
              | false =>
                rw [hXj] at hxn
                have v1 : ¬ V < 0 := of_decide_eq_false hxn
                by_cases hM : M = 0
                · have e0 : ((M : Int) == 0) = true := by simp; omega
                  have HS4 : Hid (∃ X, Sf i kn g K R t (j + 1) X ∧ IP wr rb i (rkX X)) := HSkip.out (.inr (by
                    rw [HStp.out, hM]
                    split <;> rfl))
                  clear HSkip HSet HStp hrow HRj HIP hV hxn
                  go_wp2
                  exact ⟨⟨j + 1, by omega, by go_num, HS4, HA3, hB3⟩, by simp [intOf]; omega⟩
                · have e0 : ((M : Int) == 0) = false := by simp; omega
                  obtain ⟨wa, hwa⟩ : ∃ wa, wa = wr := ⟨wr, rfl⟩
                  subst hwa
                  go_wp2_with fail
                  go_loopw [10, 11, 61] (fun so al k wr => ∃ r : Nat, r ≤ M ∧ k = .int .i64 (r : Int) ∧ so = .bool (!(alB X F r)) ∧ al = .bool (!(smB X F r)) ∧ wr = wa) (fun _ _ k _ => M - (intOf k).toNat)
                  case atStart => exact ⟨0, Nat.zero_le _, rfl, rfl, rfl, rfl⟩
                  case round =>
                    obtain ⟨r, hr, rfl, rfl, rfl, hw⟩ := hrel
                    have hw' := hw.symm
                    clear hw
                    subst hw'
                    by_cases hlr : r < M
                    · obtain ⟨fb, fo, rfl, fl, hc5⟩ := hrow (by omega)
                      have z1 := hc5 r hlr
                      have hFr := HRj.out r hlr
                      have z2 := HIP.out.c (F r).toNat (by omega)
                      have f0 := hFr.1
                      have f1 := hFr.2
                      have q0 : (0 : Int) ≤ (r : Int) := by omega
                      have q1 : (r : Int) < (M : Int) := by omega
                      have ea : alB X F (r + 1) = (alB X F r && X (F r).toNat) := rfl
                      have es : smB X F (r + 1) = (smB X F r || X (F r).toNat) := rfl
                      have HEA : Hid (alB X F (r + 1) = (alB X F r && X (F r).toNat)) := ea
                      have HES : Hid (smB X F (r + 1) = (smB X F r || X (F r).toNat)) := es
                      have hxp := rkX_pos X (F r).toNat
                      clear hc5 HSkip HSet HStp hFr ea es hV
                      generalize F r = G2 at *
                      generalize rkX X G2.toNat = W2 at *
                      generalize X G2.toNat = B2 at *
                      generalize alB X F r = a1 at *
                      generalize smB X F r = a2 at *
                      cases B2 with
                      | true =>
                        have w1 : ¬ 0 ≤ W2 := of_decide_eq_false hxp
                        clear hxp
                        cases a1 <;> cases a2 <;> go_wp2 <;> exact ⟨⟨r + 1, by omega, by go_num, by rw [HEA.out]; rfl, by rw [HES.out]; rfl, trivial⟩, by simp [intOf]; omega⟩
                      | false =>
                        have w1 : 0 ≤ W2 := of_decide_eq_true hxp
                        clear hxp
                        cases a1 <;> cases a2 <;> go_wp2 <;> exact ⟨⟨r + 1, by omega, by go_num, by rw [HEA.out]; rfl, by rw [HES.out]; rfl, trivial⟩, by simp [intOf]; omega⟩
                    · have hrM : r = M := by omega
                      subst hrM
                      have HStp2 : Hid (stp g K R false X j = if G = false then smB X F r else alB X F r) := by
                        show stp g K R false X j = _
                        rw [HStp.out]
                        cases G with
                        | false => rfl
                        | true => rw [if_neg (by simp), if_neg (by simp), decide_eq_true hM]; rfl
                      have HGo : Hid ((if G = false then smB X F r else alB X F r) = true → ∃ X, Sf i kn g K R t (j + 1) X ∧ IP (wa.setCell ⟨rb, j, none⟩ (.int .i64 (-1))) rb i (rkX X)) := fun h9 => HSet.out hXj (HStp2.out.trans h9)
                      have HNo : Hid ((if G = false then smB X F r else alB X F r) = false → ∃ X, Sf i kn g K R t (j + 1) X ∧ IP wa rb i (rkX X)) := fun h9 => HSkip.out (.inr (HStp2.out.trans h9))
                      clear HSkip HSet HStp HStp2 hrow HRj hV hxn v1
                      generalize alB X F r = a1 at *
                      generalize smB X F r = a2 at *
                      cases G with
                      | false =>
                        cases a2 with
                        | true =>
                          have HS4 : Hid (∃ X, Sf i kn g K R t (j + 1) X ∧ IP (wa.setCell ⟨rb, j, none⟩ (.int .i64 (-1))) rb i (rkX X)) := HGo.out rfl
                          clear HGo HNo
                          go_wp2
                          exact ⟨⟨j + 1, by omega, by go_num, HS4, HA4, hBs⟩, by simp [intOf]; omega⟩
                        | false =>
                          have HS4 : Hid (∃ X, Sf i kn g K R t (j + 1) X ∧ IP wa rb i (rkX X)) := HNo.out rfl
                          clear HGo HNo HA4
                          go_wp2
                          exact ⟨⟨j + 1, by omega, by go_num, HS4, HA3, hB3⟩, by simp [intOf]; omega⟩
                      | true =>
                        cases a1 with
                        | true =>
                          have HS4 : Hid (∃ X, Sf i kn g K R t (j + 1) X ∧ IP (wa.setCell ⟨rb, j, none⟩ (.int .i64 (-1))) rb i (rkX X)) := HGo.out rfl
                          clear HGo HNo
                          go_wp2
                          exact ⟨⟨j + 1, by omega, by go_num, HS4, HA4, hBs⟩, by simp [intOf]; omega⟩
                        | false =>
                          have HS4 : Hid (∃ X, Sf i kn g K R t (j + 1) X ∧ IP wa rb i (rkX X)) := HNo.out rfl
                          clear HGo HNo HA4
                          go_wp2
                          exact ⟨⟨j + 1, by omega, by go_num, HS4, HA3, hB3⟩, by simp [intOf]; omega⟩
            · have hji : j = i := by omega
              subst hji
              have HS4 : Hid (∃ X, Sf j kn g K R (t + 1) 0 X ∧ IP wr rb j (rkX X)) := by
                obtain ⟨X, h9, h8⟩ := HS3.out
                exact ⟨X, h9.next, h8⟩
              clear HS3
              go_wp2
              exact ⟨⟨t + 1, by omega, by go_num, HS4, HA3, hB3⟩, by simp [intOf]; omega⟩
        · have hti : t = i := by omega
          subst hti
          have HF : Hid (IP wr rb t (rkV t kn 0 g K R)) := by
            obtain ⟨X, h9, h8⟩ := HS.out
            exact HRV.out X wr h9 h8
          clear HS HRV
          go_wp2
          go_end0
          exact ⟨rfl, HF.out, hB2⟩
end Go.Proofs.YtapodfkoknmhdaaDoor
