/- When one is due who is at a cell at a tick, as the program tells it. -/
import Derived.Test.YtbndhhjgjalecaaDoorQCwRsI
import Derived.Test.YtbndhhjgjalecaaDoorQCwLfI
import Derived.Test.YtbndhhjgjalecaaDoorQClKind
namespace Go.Proofs.YtbndhhjgjalecaaDoor
open Go.RowKit

/-- the rows of the table from lo on -/
structure Dt (w : World) (Db T n : Nat) (B : Nat → Nat) (D : Nat → Nat → Int) (lo : Nat) : Prop where
  cell : ∀ k, lo ≤ k → k ≤ T + 1 → w.cell? ⟨Db, k, none⟩ = some (.slice (some ⟨B k, 0, none⟩) n n)
  row : ∀ k, lo ≤ k → k ≤ T + 1 → IP w (B k) n (D k)
  lt : Db < w.heap.size
theorem Dt.on {w w' : World} {Db T n : Nat} {B : Nat → Nat} {D : Nat → Nat → Int} {lo : Nat} (h : Dt w Db T n B D lo) (k : Below w.heap.size w w') : Dt w' Db T n B D lo :=
  ⟨fun i h1 h2 => (k.cell (p := ⟨Db, i, none⟩) h.lt).trans (h.cell i h1 h2), fun i h1 h2 => (h.row i h1 h2).below k (h.row i h1 h2).lt, Nat.lt_of_lt_of_le h.lt k.size⟩
/-- what dueFrom tells -/
def dfV (W : Int) (n : Nat) (f : Nat → Int) (R : Nat → Nat → Int) (J : Nat) (t : Int) (T k p : Nat) (Dn : Nat → Int) : Int :=
  if okC n f R J k (p : Int) then (if (p : Int) = t ∧ Dn p = (k : Int) + 1 then (k : Int) else lsK R J T k (p : Int) (nbL W n f p) (fun q => Dn q.toNat) (nbL W n f p).length) else (T : Int) + 1
theorem run_least (x y : Int) (ts : Array TypeId) (t : TypeId) (w : World) : (Builtin.min_ ts t #[.int .i64 x, .int .i64 y]).run Tryd.prog w = .ok (.int .i64 (min x y)) w := by
  by_cases h : x ≤ y
  · rw [Int.min_eq_left h]
    simp [Builtin.min_, Builtin.min2]
    intro h2; omega
  · rw [Int.min_eq_right (by omega)]
    simp [Builtin.min_, Builtin.min2]
    intro h2; omega
set_option maxRecDepth 20000 in
set_option maxHeartbeats 4000000 in
theorem dueFrom_any (W : Int) (a : Option Addr) (n c : Nat) (f : Nat → Int) (R : Nat → Nat → Int) (J Mb cnt : Nat) (t : Int) (Db T : Nat) (B : Nat → Nat) (D : Nat → Nat → Int) (k p : Nat) (w : World) (hs : sizedB W n = true) (hf : IL w a n f) (hT : Tab w) (hT2 : T ≤ 1000) (hm : MS w Mb cnt (mR R T J)) (hD : Dt w Db T n B D (k + 1)) (hk : k ≤ T) (hp : p < n) (hDb : ∀ q, q < n → D (k + 1) q ≤ 100000 ∧ -100000 ≤ D (k + 1) q) :
    Calls Tryd.prog 64 #[olv W (hgt W n) a n c Mb t Db (T + 2), .int .i64 (k : Int), .int .i64 (p : Int)] w fun e w' => e = .returned (.int .i64 (dfV W n f R J t T k p (D (k + 1)))) ∧ Below w.heap.size w w' := by
  have hn := sized_le hs
  obtain ⟨V, hV⟩ : ∃ V, dfV W n f R J t T k p (D (k + 1)) = V := ⟨_, rfl⟩
  rw [hV]
  have HV : Hid (dfV W n f R J t T k p (D (k + 1)) = V) := hV
  clear hV
  have HLE : Hid (lsK R J T k (p : Int) (nbL W n f p) (fun q => D (k + 1) q.toNat) 0 = (T : Int) + 1) := rfl
  have HLS : Hid (∀ j, lsK R J T k (p : Int) (nbL W n f p) (fun q => D (k + 1) q.toNat) (j + 1) = if swB R T J (k + 1) (p : Int) (gl (nbL W n f p) j) then lsK R J T k (p : Int) (nbL W n f p) (fun q => D (k + 1) q.toNat) j else min (lsK R J T k (p : Int) (nbL W n f p) (fun q => D (k + 1) q.toNat) j) (D (k + 1) (gl (nbL W n f p) j).toNat)) := fun j => rfl
  have HLB : Hid (∀ j, lsK R J T k (p : Int) (nbL W n f p) (fun q => D (k + 1) q.toNat) j ≤ (T : Int) + 1) := fun j => lsK_top
  have HFIN : Hid (okC n f R J k (p : Int) = true → ¬ ((p : Int) = t ∧ D (k + 1) p = (k : Int) + 1) → lsK R J T k (p : Int) (nbL W n f p) (fun q => D (k + 1) q.toNat) (nbL W n f p).length = V) := fun h1 h2 => by
    rw [← HV.out]; unfold dfV; rw [if_pos h1, if_neg h2]
  have HNOW : Hid (okC n f R J k (p : Int) = true → ((p : Int) = t ∧ D (k + 1) p = (k : Int) + 1) → V = (k : Int)) := fun h1 h2 => by
    rw [← HV.out]; unfold dfV; rw [if_pos h1, if_pos h2]
  have HNO : Hid (okC n f R J k (p : Int) = false → V = (T : Int) + 1) := fun h1 => by
    rw [← HV.out]; unfold dfV; rw [h1]; simp
  have HGet : Hid (∀ j, j < (nbL W n f p).length → ∃ q : Nat, gl (nbL W n f p) j = (q : Int) ∧ q < n) := fun j hj => by
    obtain ⟨q, h1, h2⟩ := nbL_get hj
    exact ⟨q, h1, h2.lt hs hp⟩
  have hlen := nbL_len W n f p
  have hok : okC n f R J k (p : Int) = (frB n f (p : Int) && !(mR R T J ((k : Int), (p : Int))).isSome) := by
    unfold okC; rw [mR_some hk]; simp
  have HOK : Hid (okC n f R J k (p : Int) = (frB n f (p : Int) && !(mR R T J ((k : Int), (p : Int))).isSome)) := hok
  have HDB : Hid (∀ q, q < n → D (k + 1) q ≤ 100000 ∧ -100000 ≤ D (k + 1) q) := hDb
  have kL := fun w hf hT => later_any W a n c f p w hf hs hp hT
  have kF := fun H w h => free_any W H a n c f (p : Int) w h (by omega)
  have kH := fun w h => have_spot Mb cnt (mR R T J) (k : Int) (p : Int) w h (by omega) (by omega)
  have kN := fun H w => never_any W H a n c Mb t Db T w hT2
  obtain ⟨H, eH⟩ : ∃ H, hgt W n = H := ⟨_, rfl⟩
  rw [eH] at kL ⊢
  clear eH hok HV hDb
  have b0 := bx_new (w := w) (olL W H a n c Mb t Db (T + 2)) 75 rfl
  have hb0 : Below w.heap.size w (w.alloc (.cells (olL W H a n c Mb t Db (T + 2)).toArray 75)) := (Below.refl _ _).alloc (Nat.le_refl _) _
  have hT1 : ((T + 2 : Nat) : Int) = (T : Int) + 2 := by omega
  obtain ⟨Ln, hLn⟩ : ∃ Ln, Ln = T + 2 := ⟨_, rfl⟩
  have hLn2 : ((Ln : Nat) : Int) = (T : Int) + 2 := by omega
  rw [← hLn] at kN b0 hb0 ⊢
  have x0 := b0.c0
  have x1 := b0.c1
  have x2 := b0.c2
  have x3 := b0.c3
  have x4 := b0.c4
  have x5 := b0.c5
  clear hLn hT1
  go_enter Tryd.func64, Tryd.ntmps64
  go_wp2_with fail
  clear x0 x1 x2 x3 x4 x5
  generalize w.alloc (.cells (olL W H a n c Mb t Db Ln).toArray 75) = w1 at *
  refine (kN H w1).mono ?_
  rintro e w2 ⟨rfl, hb2⟩
  have hB2 := stepA hb0 hb2
  have b2 := b0.on hb2
  have x0 := b2.c0
  have x1 := b2.c1
  have x2 := b2.c2
  clear kN hb2 b0 hb0
  go_wp2_with fail
  clear x0 x1 x2
  refine (kF H w2 (hf.below hB2)).mono ?_
  rintro e w3 ⟨rfl, hb3⟩
  have hB3 := stepA hB2 hb3
  have b3 := b2.on hb3
  clear kF hb3 b2 hB2
  cases hfr : frB n f (p : Int) with
  | false =>
    have HR : Hid (V = (T : Int) + 1) := HNO.out (by rw [HOK.out, hfr]; rfl)
    clear HNO HNOW HFIN HLS HLE HLB HOK kL kH
    go_wp2
    go_ret
    exact ⟨ret_int HR.out.symm, hB3⟩
  | true =>
    have x3 := b3.c3
    go_wp2_with fail
    clear x3
    refine (kH w3 (MI.on hm hB3)).mono ?_
    rintro e w4 ⟨rfl, hb4⟩
    have hB4 := stepA hB3 hb4
    have b4 := b3.on hb4
    clear kH hb4 b3 hB3
    cases htk : (mR R T J ((k : Int), (p : Int))).isSome with
    | true =>
      have HR : Hid (V = (T : Int) + 1) := HNO.out (by rw [HOK.out, hfr, htk]; rfl)
      clear HNO HNOW HFIN HLS HLE HLB HOK kL
      go_wp2
      go_ret
      exact ⟨ret_int HR.out.symm, hB4⟩
    | false =>
      have HOKT : Hid (okC n f R J k (p : Int) = true) := by show okC n f R J k (p : Int) = true; rw [HOK.out, hfr, htk]; rfl
      have hD4 := hD.on hB4
      have z0 := hD4.cell (k + 1) (Nat.le_refl _) (by omega)
      have z1 := (hD4.row (k + 1) (Nat.le_refl _) (by omega)).c p hp
      have x0 := b4.c0
      have x1 := b4.c1
      have x2 := b4.c2
      have x3 := b4.c3
      have x4 := b4.c4
      have x5 := b4.c5
      have i0 : (0 : Int) ≤ (k : Int) + 1 := by omega
      have i1 : (k : Int) + 1 < ((Ln : Nat) : Int) := by omega
      have i2 : (0 : Int) ≤ (p : Int) := by omega
      have i3 : (p : Int) < (n : Int) := by omega
      have i4 : (k : Int) + 1 ≤ 9223372036854775807 := by omega
      have hw2 : ((k + 1 : Nat) : Int) = (k : Int) + 1 := by omega
      have hbd := HDB.out p hp
      cases r1 : ((p : Int) == t) with
      | true =>
        have hpt : (p : Int) = t := by simpa using r1
        cases r2 : (D (k + 1) p == (k : Int) + 1) with
        | true =>
          have hd : D (k + 1) p = (k : Int) + 1 := by simpa using r2
          have HR : Hid (V = (k : Int)) := HNOW.out HOKT.out ⟨hpt, hd⟩
          clear HNO HNOW HFIN HLS HLE HLB HOK kL hpt hd HDB HGet
          generalize D (k + 1) p = d at *
          go_wp2
          go_ret
          exact ⟨ret_int HR.out.symm, hB4⟩
        | false =>
          have hd : ¬ D (k + 1) p = (k : Int) + 1 := by simpa using r2
          have HR : Hid (lsK R J T k (p : Int) (nbL W n f p) (fun q => D (k + 1) q.toNat) (nbL W n f p).length = V) := HFIN.out HOKT.out (fun h => hd h.2)
          clear HNO HNOW HFIN HOK hd hpt
          obtain ⟨d9, hd9⟩ : ∃ d9, D (k + 1) p = d9 := ⟨_, rfl⟩
          rw [hd9] at z1 r2
          clear hd9
          have kS := fun (q : Int) (hq : -1000000 ≤ q ∧ q ≤ 1000000) (w : World) h => swap_any Mb cnt R T J (k + 1) (p : Int) q w h (by omega) ⟨by omega, by omega⟩ hq
          simp only [hw2] at kS
          clear hbd i2 i3
          go_wp2_with fail
          clear x0 x1 x2 x3 x4 x5 z0 z1
          refine (kL w4 (hf.below hB4) (hT.on hB4)).mono ?_
          rintro e w5 ⟨⟨a5, c5, rfl, hL5⟩, hb5⟩
          have hB5 := stepA hB4 hb5
          have b5 := b4.on hb5
          have hD5 := hD4.on hb5
          have hm5 : MS w5 Mb cnt (mR R T J) := MI.on hm hB5
          clear kL hb5 b4 hD4 hB4
          generalize nbL W n f p = l at *
          generalize hLK : lsK R J T k (p : Int) l (fun q => D (k + 1) q.toNat) = LK at *
          clear hLK
          have HL5 : Hid (LQ w5 w4.heap.size w5.heap.size a5 l.length (gl l)) := hL5
          have h0 := HLE.out
          go_wp2
          go_loopw [7, 50] (fun v i wr => ∃ j : Nat, j ≤ l.length ∧ i = .int .i64 (j : Int) ∧ v = .int .i64 (LK j) ∧ Below w5.heap.size w5 wr) (fun _ i _ => l.length - (intOf i).toNat)
          case atStart => exact ⟨0, Nat.zero_le _, rfl, by rw [HLE.out], Below.refl _ _⟩
          case round =>
            obtain ⟨j, hj, rfl, rfl, hB⟩ := hrel
            clear h0
            by_cases hlt : j < l.length
            · obtain ⟨q, hq, hqn⟩ := HGet.out j hlt
              have hL6 := (HL5.out : LQ w5 w4.heap.size w5.heap.size a5 l.length (gl l)).on hB
              obtain ⟨lb, rfl, -, -, hIP⟩ := hL6 (by omega)
              have y0 := hIP.c j hlt
              rw [hq] at y0
              have b6 := b5.on hB
              have x3 := b6.c3
              have x5 := b6.c5
              have hD6 := hD5.on hB
              have z0 := hD6.cell (k + 1) (Nat.le_refl _) (by omega)
              have z1 := (hD6.row (k + 1) (Nat.le_refl _) (by omega)).c q hqn
              have m0 : (0 : Int) ≤ (j : Int) := by omega
              have m1 : (j : Int) < (l.length : Int) := by omega
              have m2 : (0 : Int) ≤ (q : Int) := by omega
              have m3 : (q : Int) < (n : Int) := by omega
              have hls := HLS.out j
              rw [hq, Int.toNat_natCast] at hls
              have HLS2 : Hid (LK (j + 1) = if swB R T J (k + 1) (p : Int) (q : Int) then LK j else min (LK j) (D (k + 1) q)) := hls
              have kS2 := kS (q : Int) ⟨by omega, by omega⟩ wr (MI.on hm5 hB)
              have hmn := run_least (LK j) (D (k + 1) q)
              clear hls hIP hD6 b6
              generalize swB R T J (k + 1) (p : Int) (q : Int) = sw at *
              generalize D (k + 1) q = dq at *
              cases sw with
              | true =>
                have HLS3 : Hid (LK (j + 1) = LK j) := HLS2.out
                clear HLS2
                go_wp2_with (first | (go_at_call 85; refine kS2.mono ?_; rintro e w9 ⟨rfl, hw9⟩; have hs' := hw9.symm; clear hw9 kS2; subst hs') | fail)
                exact ⟨⟨j + 1, by omega, by go_num, by rw [HLS3.out], hB⟩, by simp [intOf]; omega⟩
              | false =>
                have HLS3 : Hid (LK (j + 1) = min (LK j) dq) := HLS2.out
                clear HLS2
                generalize hMN : min (LK j) dq = mn at *
                clear hMN
                go_wp2_with (first | (go_at_call 85; refine kS2.mono ?_; rintro e w9 ⟨rfl, hw9⟩; have hs' := hw9.symm; clear hw9 kS2; subst hs') | fail)
                exact ⟨⟨j + 1, by omega, by go_num, by rw [HLS3.out], hB⟩, by simp [intOf]; omega⟩
            · have hje : j = l.length := by omega
              subst hje
              have hBz := stepA hB5 hB
              clear b5 hD5 hm5 HL5
              go_wp2
              go_ret
              exact ⟨ret_int HR.out, hBz⟩
      | false =>
        have hpt : ¬ (p : Int) = t := by simpa using r1
        have HR : Hid (lsK R J T k (p : Int) (nbL W n f p) (fun q => D (k + 1) q.toNat) (nbL W n f p).length = V) := HFIN.out HOKT.out (fun h => hpt h.1)
        clear HNO HNOW HFIN HOK hpt
        have kS := fun (q : Int) (hq : -1000000 ≤ q ∧ q ≤ 1000000) (w : World) h => swap_any Mb cnt R T J (k + 1) (p : Int) q w h (by omega) ⟨by omega, by omega⟩ hq
        simp only [hw2] at kS
        clear hbd i2 i3
        go_wp2_with fail
        clear x0 x1 x2 x3 x4 x5 z0 z1
        refine (kL w4 (hf.below hB4) (hT.on hB4)).mono ?_
        rintro e w5 ⟨⟨a5, c5, rfl, hL5⟩, hb5⟩
        have hB5 := stepA hB4 hb5
        have b5 := b4.on hb5
        have hD5 := hD4.on hb5
        have hm5 : MS w5 Mb cnt (mR R T J) := MI.on hm hB5
        clear kL hb5 b4 hD4 hB4
        generalize nbL W n f p = l at *
        generalize hLK : lsK R J T k (p : Int) l (fun q => D (k + 1) q.toNat) = LK at *
        clear hLK
        have HL5 : Hid (LQ w5 w4.heap.size w5.heap.size a5 l.length (gl l)) := hL5
        have h0 := HLE.out
        go_wp2
        go_loopw [7, 50] (fun v i wr => ∃ j : Nat, j ≤ l.length ∧ i = .int .i64 (j : Int) ∧ v = .int .i64 (LK j) ∧ Below w5.heap.size w5 wr) (fun _ i _ => l.length - (intOf i).toNat)
        case atStart => exact ⟨0, Nat.zero_le _, rfl, by rw [HLE.out], Below.refl _ _⟩
        case round =>
          obtain ⟨j, hj, rfl, rfl, hB⟩ := hrel
          clear h0
          by_cases hlt : j < l.length
          · obtain ⟨q, hq, hqn⟩ := HGet.out j hlt
            have hL6 := (HL5.out : LQ w5 w4.heap.size w5.heap.size a5 l.length (gl l)).on hB
            obtain ⟨lb, rfl, -, -, hIP⟩ := hL6 (by omega)
            have y0 := hIP.c j hlt
            rw [hq] at y0
            have b6 := b5.on hB
            have x3 := b6.c3
            have x5 := b6.c5
            have hD6 := hD5.on hB
            have z0 := hD6.cell (k + 1) (Nat.le_refl _) (by omega)
            have z1 := (hD6.row (k + 1) (Nat.le_refl _) (by omega)).c q hqn
            have m0 : (0 : Int) ≤ (j : Int) := by omega
            have m1 : (j : Int) < (l.length : Int) := by omega
            have m2 : (0 : Int) ≤ (q : Int) := by omega
            have m3 : (q : Int) < (n : Int) := by omega
            have hls := HLS.out j
            rw [hq, Int.toNat_natCast] at hls
            have HLS2 : Hid (LK (j + 1) = if swB R T J (k + 1) (p : Int) (q : Int) then LK j else min (LK j) (D (k + 1) q)) := hls
            have kS2 := kS (q : Int) ⟨by omega, by omega⟩ wr (MI.on hm5 hB)
            have hmn := run_least (LK j) (D (k + 1) q)
            clear hls hIP hD6 b6
            generalize swB R T J (k + 1) (p : Int) (q : Int) = sw at *
            generalize D (k + 1) q = dq at *
            cases sw with
            | true =>
              have HLS3 : Hid (LK (j + 1) = LK j) := HLS2.out
              clear HLS2
              go_wp2_with (first | (go_at_call 85; refine kS2.mono ?_; rintro e w9 ⟨rfl, hw9⟩; have hs' := hw9.symm; clear hw9 kS2; subst hs') | fail)
              exact ⟨⟨j + 1, by omega, by go_num, by rw [HLS3.out], hB⟩, by simp [intOf]; omega⟩
            | false =>
              have HLS3 : Hid (LK (j + 1) = min (LK j) dq) := HLS2.out
              clear HLS2
              generalize hMN : min (LK j) dq = mn at *
              clear hMN
              go_wp2_with (first | (go_at_call 85; refine kS2.mono ?_; rintro e w9 ⟨rfl, hw9⟩; have hs' := hw9.symm; clear hw9 kS2; subst hs') | fail)
              exact ⟨⟨j + 1, by omega, by go_num, by rw [HLS3.out], hB⟩, by simp [intOf]; omega⟩
          · have hje : j = l.length := by omega
            subst hje
            have hBz := stepA hB5 hB
            clear b5 hD5 hm5 HL5
            go_wp2
            go_ret
            exact ⟨ret_int HR.out, hBz⟩
end Go.Proofs.YtbndhhjgjalecaaDoor
