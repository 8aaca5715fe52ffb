/- How many ticks two need who don't meet, as the model finds it. -/
import Derived.Test.YtbndhhjgjalecabDoorQCwJtM
import Derived.Test.YtbndhhjgjalecabDoorQCwGtS
import Derived.Test.YtbndhhjgjalecabDoorQCwNxS
import Derived.Test.YtbndhhjgjalecabDoorQCwTrip1
namespace Go.Proofs.YtbndhhjgjalecabDoor
open Go.RowKit

theorem sNext_int (W : Int) (a : Option Addr) (n c : Nat) (f : Nat → Int) (q : Int) (p : Nat) (w : World) (hq : q = (p : Int)) (hf : IL w a n f) (hs : sizedB W n = true) (hp : p < n) :
    Calls Tryd.prog 12 #[cel W a n c, .int .i64 q] w fun e w' => AnsL w w' e (nbL W n f p) ∧ Below w.heap.size w w' := by
  subst hq; exact sNext W a n c f p w hf hs hp
set_option maxRecDepth 40000 in
set_option maxHeartbeats 16000000 in
theorem sJoint (W : Int) (a : Option Addr) (n c : Nat) (f : Nat → Int) (s t s2 t2 : Int) (w : World) (hn : n ≤ 1048576) (hf : IL w a n f) :
    Calls Tryd.prog 5 #[cel W a n c, tpv s t, tpv s2 t2] w fun e w' => ∃ d, e = .returned (.int .i64 d) ∧ JntIs W n f s t s2 t2 d ∧ Below w.heap.size w w' := by
  obtain ⟨i0', hi, hzz⟩ := Option.map_eq_some_iff.1 infoI
  simp only [Prod.mk.injEq] at hzz
  obtain ⟨hz0, hz1, hz2⟩ := hzz
  have b0 := bx_new (w := w) (celL W a n c) 29 rfl
  have b1 := bx_new (w := w.alloc (celO W a n c 29)) (b := w.heap.size + 1) [.int .i64 s, .int .i64 t] 31 (by simp)
  have b2 := bx_new (w := (w.alloc (celO W a n c 29)).alloc (.cells #[.int .i64 s, .int .i64 t] 31)) (b := w.heap.size + 1 + 1) [.int .i64 s2, .int .i64 t2] 31 (by simp)
  have b3 := bx_new (w := ((w.alloc (celO W a n c 29)).alloc (.cells #[.int .i64 s, .int .i64 t] 31)).alloc (.cells #[.int .i64 s2, .int .i64 t2] 31)) (b := w.heap.size + 1 + 1 + 1) [.int .i64 s, .int .i64 t, .int .i64 s2, .int .i64 t2] 31 (by simp)
  have hb3 : Below w.heap.size w ((((w.alloc (celO W a n c 29)).alloc (.cells #[.int .i64 s, .int .i64 t] 31)).alloc (.cells #[.int .i64 s2, .int .i64 t2] 31)).alloc (.cells #[.int .i64 s, .int .i64 t, .int .i64 s2, .int .i64 t2] 31)) :=
    ((((Below.refl w.heap.size w).alloc (Nat.le_refl _) _).alloc (by simp) _).alloc (by simp <;> omega) _).alloc (by simp <;> omega) _
  have c0 := ((b0.alloc (.cells #[.int .i64 s, .int .i64 t] 31)).alloc (.cells #[.int .i64 s2, .int .i64 t2] 31)).alloc (.cells #[.int .i64 s, .int .i64 t, .int .i64 s2, .int .i64 t2] 31)
  have c1 := (b1.alloc (.cells #[.int .i64 s2, .int .i64 t2] 31)).alloc (.cells #[.int .i64 s, .int .i64 t, .int .i64 s2, .int .i64 t2] 31)
  have c2 := b2.alloc (.cells #[.int .i64 s, .int .i64 t, .int .i64 s2, .int .i64 t2] 31)
  have d0 := (b0.alloc (.cells #[.int .i64 s, .int .i64 t] 31)).alloc (.cells #[.int .i64 s2, .int .i64 t2] 31)
  have d1 := b1.alloc (.cells #[.int .i64 s2, .int .i64 t2] 31)
  have x0 := d0.c0
  have x1 := d0.c1
  have y0 := d1.c0
  have y1 := d1.c1
  have y2 := b2.c0
  have y3 := b2.c1
  go_enter Tryd.func5, Tryd.ntmps5
  go_wp2_with fail
  clear b0 b1 b2 d0 d1
  generalize (((w.alloc (celO W a n c 29)).alloc (.cells #[.int .i64 s, .int .i64 t] 31)).alloc (.cells #[.int .i64 s2, .int .i64 t2] 31)).alloc (.cells #[.int .i64 s, .int .i64 t, .int .i64 s2, .int .i64 t2] 31) = w3 at *
  have hg : IL w3 (some ⟨w.heap.size + 1 + 1 + 1, 0, none⟩) (2 * 2) (tg4 s t s2 t2) := fun _ => ⟨_, 0, rfl, b3.lt, fun i hi => by
    match i, hi with
    | 0, _ => exact b3.c0
    | 1, _ => exact b3.c1
    | 2, _ => exact b3.c2
    | 3, _ => exact b3.c 3 (by simp)⟩
  have hf3 := hf.below hb3
  have kG := sGoodTrips W a (some ⟨w.heap.size + 1 + 1 + 1, 0, none⟩) n c 2 2 f (tg4 s t s2 t2) w3 hn (by omega) hf3 hg
  cases hq : gtB W n f 2 (tg4 s t s2 t2) with
  | false =>
    rw [hq] at kG
    refine kG.mono ?_
    rintro e w4 ⟨rfl, hb4⟩
    have hB4 := stepA hb3 hb4
    clear kG hg hf3 x0 x1 y0 y1 y2 y3
    go_wp2
    go_ret
    exact ⟨-1, rfl, .inl ⟨by rw [hq]; simp, rfl⟩, hB4⟩
  | true =>
    rw [hq] at kG
    by_cases h36 : n ≤ 36
    case neg =>
      have h36' : (36 : Int) < (n : Int) := by omega
      refine kG.mono ?_
      rintro e w4 ⟨rfl, hb4⟩
      have hB4 := stepA hb3 hb4
      clear kG hg hf3 x0 x1 y0 y1 y2 y3
      go_wp2
      go_ret
      exact ⟨-1, rfl, .inl ⟨fun h => h36 h.2, rfl⟩, hB4⟩
    case pos =>
      have h36' : ¬ (36 : Int) < (n : Int) := by omega
      refine kG.mono ?_
      rintro e w4 ⟨rfl, hb4⟩
      have hB4 := stepA hb3 hb4
      obtain ⟨hcel, -, htr⟩ := gtB_t hq
      have hs := (celB_parts hcel).1
      have hN := sized_le hs
      obtain ⟨f1, f2, -⟩ := trB_at htr 0 (by omega)
      obtain ⟨f3, f4, -⟩ := trB_at htr 1 (by omega)
      obtain ⟨S, rfl⟩ : ∃ S : Nat, s = (S : Int) := ⟨s.toNat, by have := (frB_t f1).1; simp [tg4] at this; omega⟩
      obtain ⟨E, rfl⟩ : ∃ E : Nat, t = (E : Int) := ⟨t.toNat, by have := (frB_t f2).1; simp [tg4] at this; omega⟩
      obtain ⟨S2, rfl⟩ : ∃ S : Nat, s2 = (S : Int) := ⟨s2.toNat, by have := (frB_t f3).1; simp [tg4] at this; omega⟩
      obtain ⟨E2, rfl⟩ : ∃ E : Nat, t2 = (E : Int) := ⟨t2.toNat, by have := (frB_t f4).1; simp [tg4] at this; omega⟩
      have hS : S < n := by have := (frB_t f1).2.1; simp [tg4] at this; omega
      have hE : E < n := by have := (frB_t f2).2.1; simp [tg4] at this; omega
      have hS2 : S2 < n := by have := (frB_t f3).2.1; simp [tg4] at this; omega
      have hE2 : E2 < n := by have := (frB_t f4).2.1; simp [tg4] at this; omega
      clear f1 f2 f3 f4 htr hcel kG hg hf3 x0 x1 y0 y1 y2 y3
      have HDI : Hid (∀ d, DistIs (JNb W n f) (S * n + S2) (E * n + E2) d → JntIs W n f (S : Int) (E : Int) (S2 : Int) (E2 : Int) d) := fun d hd => .inr ⟨⟨hq, h36⟩, by simpa using hd⟩
      have e0 := c0.on hb4
      have e1 := c1.on hb4
      have e2 := c2.on hb4
      have x1 := e0.c1
      have hmul : n * n ≤ 1296 := Nat.mul_le_mul h36 h36
      have HST : Hid (S * n + S2 < n * n) := pair_lt hS hS2
      have HEN : Hid (E * n + E2 < n * n) := pair_lt hE hE2
      have HNN : Hid (∀ p q, p < n * n → JNb W n f p q → q < n * n) := fun p q _ h => h.lt
      have HPR : Hid (∀ a b, a < n → b < n → a * n + b < n * n) := fun a b ha hb => pair_lt ha hb
      have HDV : Hid (∀ P, P < n * n → P / n < n ∧ P % n < n) := fun P h => ⟨Nat.div_lt_of_lt_mul h, Nat.mod_lt _ (by omega)⟩
      have eNN : ((n * n : Nat) : Int) = (n : Int) * (n : Int) := Int.natCast_mul n n
      obtain ⟨N, hNe⟩ : ∃ N, N = n * n := ⟨_, rfl⟩
      have HNe : Hid (N = n * n) := hNe
      have zN : IntKind.i64.wrap ((n : Int) * (n : Int)) = (n : Int) * (n : Int) := IntWalk.i64_in _ ⟨by omega, by omega⟩
      rw [← hNe] at HST HEN HNN HPR HDV hmul eNN
      have hmk0 := run_make_row' (P := Tryd.prog) 22 3 (.int .i64 0) 8 Tryd.underlying22 infoI rfl .i64 .i64 N (by omega) (by omega)
      rw [eNN] at hmk0
      have hmk : ∀ w, (Instr.makeSlice 22 (.int .i64 ((n : Int) * (n : Int))) (.int .i64 ((n : Int) * (n : Int)))).run Tryd.prog w = .ok (.slice (some ⟨w.heap.size, 0, none⟩) N N) (w.alloc (.cells (madeCells #[.int .i64 0] N) 3)) := hmk0
      have HEN2 : Hid ((N : Int) = (n : Int) * (n : Int)) := eNN
      have hP0 : IP (w4.alloc (.cells (madeCells #[.int .i64 0] N) 3)) w4.heap.size N (fun _ => 0) := row_ip ((World.rowIs_made w4 (.int .i64 0) N 3).congr fun i _ => rfl)
      have hb5 : Below w4.heap.size w4 (w4.alloc (.cells (madeCells #[.int .i64 0] N) 3)) := (Below.refl _ _).alloc (Nat.le_refl _) _
      clear hNe eNN hmk0
      go_wp2
      clear hmk x1 zN
      have hlt5 : w4.heap.size < (w4.alloc (.cells (madeCells #[.int .i64 0] N) 3)).heap.size := by simp
      generalize w4.alloc (.cells (madeCells #[.int .i64 0] N) 3) = w5 at *
      have c4 := e0.on hb5
      have c5 := e1.on hb5
      have c6 := e2.on hb5
      have hB5 := stepA hB4 hb5
      have hFB : w.heap.size + 1 + 1 < w4.heap.size := e2.lt
      generalize hFBe : w4.heap.size = FB at *
      clear hFBe e0 e1 e2 hb5 hB4 hb4 b3 c0 c1 c2 hb3
      go_loopw [38] (fun i wr => ∃ k : Nat, k ≤ N ∧ i = .int .i64 k ∧ IP wr FB N (fun i => if i < k then -1 else 0) ∧ Only FB w5 wr) (fun i _ => N - (intOf i).toNat)
      case atStart => exact ⟨0, Nat.zero_le _, rfl, hP0.congr fun i _ => by simp, Only.refl _ _⟩
      case round =>
        obtain ⟨k, hk, rfl, hP, hO⟩ := hrel
        clear hP0
        by_cases hlt : k < N
        · have z0 := hP.c k hlt
          have z1 := hP.fz k
          have j0 : (0 : Int) ≤ (k : Int) := by omega
          have j1 : (k : Int) < (N : Int) := by omega
          have hP' := hP.set hlt (-1)
          have hO' := hO.set k (.int .i64 (-1))
          clear c4 c5 c6 hf
          go_wp2
          refine ⟨⟨k + 1, by omega, by go_num, hP'.congr fun i _ => ?_, hO'⟩, by simp [intOf]; omega⟩
          unfold put
          by_cases e : i = k
          · subst e; simp
          · by_cases e2 : i < k
            · simp [e, e2, Nat.lt_succ_of_lt e2]
            · have : ¬ i < k + 1 := by omega
              simp [e, e2, this]
        · have hke : k = N := by omega
          subst hke
          have c7 := c4.only (OnlyIn.of hO (Nat.le_refl _) (Nat.lt_succ_self _)) (by omega)
          have c8 := c5.only (OnlyIn.of hO (Nat.le_refl _) (Nat.lt_succ_self _)) (by omega)
          have c9 := c6.only (OnlyIn.of hO (Nat.le_refl _) (Nat.lt_succ_self _)) (by omega)
          have hP1 : IP wr FB k (fun _ => -1) := hP.congr fun i hi => by simp [hi]
          have hB6 : Below w.heap.size w wr := hB5.trans (hO.below.mono (by omega))
          clear hP hO c4 c5 c6 hB5 hq
          have hSS := HST.out
          have mS0 : 0 ≤ (S : Int) * (n : Int) := Int.mul_nonneg (by omega) (by omega)
          have eSn : ((S * n + S2 : Nat) : Int) = (S : Int) * (n : Int) + (S2 : Int) := by rw [Int.natCast_add, Int.natCast_mul]
          have mS1 : (S : Int) * (n : Int) ≤ 1296 := by omega
          have zS : IntKind.i64.wrap ((S : Int) * (n : Int)) = (S : Int) * (n : Int) := IntWalk.i64_in _ ⟨by omega, by omega⟩
          have k0 : 0 ≤ (S : Int) * (n : Int) + (S2 : Int) := by omega
          have k1 : (S : Int) * (n : Int) + (S2 : Int) < (k : Int) := by omega
          have z0 := hP1.c _ hSS
          have z1 := hP1.fz (S * n + S2)
          have y0 := c8.c0
          have y1 := c8.c1
          have y2 := c9.c0
          have y3 := c9.c1
          have x1 := c7.c1
          have hB0 : Bs (wr.setCell ⟨FB, S * n + S2, none⟩ (.int .i64 0)) ((wr.setCell ⟨FB, S * n + S2, none⟩ (.int .i64 0)).alloc (.cells #[.int .i64 ((S : Int) * (n : Int) + (S2 : Int))] 3)) FB k (put (fun _ => -1) (S * n + S2) 0) (.slice (some ⟨wr.heap.size, 0, none⟩) 1 1) 1 (fun _ => ((S : Int) * (n : Int) + (S2 : Int))) := by
            have hal : Below (wr.setCell ⟨FB, S * n + S2, none⟩ (.int .i64 0)).heap.size (wr.setCell ⟨FB, S * n + S2, none⟩ (.int .i64 0)) ((wr.setCell ⟨FB, S * n + S2, none⟩ (.int .i64 0)).alloc (.cells #[.int .i64 ((S : Int) * (n : Int) + (S2 : Int))] 3)) := (Below.refl _ _).alloc (Nat.le_refl _) _
            have ho := own_lit1 (wr.setCell ⟨FB, S * n + S2, none⟩ (.int .i64 0)) (wr.setCell ⟨FB, S * n + S2, none⟩ (.int .i64 0)).heap.size ((S : Int) * (n : Int) + (S2 : Int)) (fun _ => ((S : Int) * (n : Int) + (S2 : Int))) rfl (Nat.le_refl _)
            simp only [size_set] at ho
            exact ⟨(hP1.set hSS 0).below hal (by simpa using hP1.lt), by simpa only [Own, size_set] using ho, turns_of hal, by simpa using hP1.lt⟩
          have hF0 : Bf k (JNb W n f) (S * n + S2) (put (fun _ => -1) (S * n + S2) 0) (fun _ => ((S : Int) * (n : Int) + (S2 : Int))) 1 0 (fun _ => False) := bf_start hSS _ eSn.symm
          have HF0 : Hid (Bf k (JNb W n f) (S * n + S2) (put (fun _ => -1) (S * n + S2) 0) (fun _ => ((S : Int) * (n : Int) + (S2 : Int))) 1 0 (fun _ => False)) := hF0
          have d7 : Bx (wr.setCell ⟨FB, S * n + S2, none⟩ (.int .i64 0)) w.heap.size (celL W a n c) := c7.far _ (by omega)
          have d8 : Bx (wr.setCell ⟨FB, S * n + S2, none⟩ (.int .i64 0)) (w.heap.size + 1) [.int .i64 (S : Int), .int .i64 (E : Int)] := c8.far _ (by omega)
          have d9 : Bx (wr.setCell ⟨FB, S * n + S2, none⟩ (.int .i64 0)) (w.heap.size + 1 + 1) [.int .i64 (S2 : Int), .int .i64 (E2 : Int)] := c9.far _ (by omega)
          have hB7 : Below w.heap.size w (wr.setCell ⟨FB, S * n + S2, none⟩ (.int .i64 0)) := hB6.setCell (p := ⟨FB, S * n + S2, none⟩) (by simp; omega) _
          obtain ⟨w0, hw0⟩ : ∃ w0, w0 = wr.setCell ⟨FB, S * n + S2, none⟩ (.int .i64 0) := ⟨_, rfl⟩
          have hs0 : wr.heap.size = w0.heap.size := by rw [hw0]; simp
          have HW0 : Hid (w0 = wr.setCell ⟨FB, S * n + S2, none⟩ (.int .i64 0)) := hw0
          rw [← hw0] at hB0 d7 d8 d9 hB7
          rw [hs0] at hB0
          have HS0 : Hid (wr.heap.size = w0.heap.size) := hs0
          clear hw0 hs0 hF0 hP1 c7 c8 c9 hB6 hSS eSn
          go_wp2
          rw [← HW0.out, HS0.out]
          clear HW0 HS0 z0 z1 y0 y1 y2 y3 x1 zS
          have HB0 : Hid (Bs w0 (w0.alloc (.cells #[.int .i64 ((S : Int) * (n : Int) + (S2 : Int))] 3)) FB k (put (fun _ => -1) (S * n + S2) 0) (.slice (some ⟨w0.heap.size, 0, none⟩) 1 1) 1 (fun _ => ((S : Int) * (n : Int) + (S2 : Int)))) := hB0
          clear hB0
          go_loopw [11, 12] (fun v i wx => ∃ (m L : Nat) (F T : Nat → Int), i = .int .i64 (m : Int) ∧ m ≤ L ∧ Bs w0 wx FB k F v L T ∧ Bf k (JNb W n f) (S * n + S2) F T L m (fun _ => False)) (fun _ i _ => k - (intOf i).toNat)
          case atStart => exact ⟨0, 1, _, _, rfl, by omega, HB0.out, HF0.out⟩
          case round =>
            obtain ⟨m, L, F, T, rfl, hmL, hBs, hBf⟩ := hrel
            clear HB0 HF0
            have hLn := hBf.le
            have hBel := hBs.below (B := w.heap.size) (by omega)
            have hBW : Below w.heap.size w wr := hB7.trans hBel
            have cA : Bx wr w.heap.size (celL W a n c) := d7.turns hBs.tn (by omega)
            by_cases hlt2 : m < L
            · obtain ⟨g, cap, rfl, hg1, hgP⟩ := hBs.own.some (by omega)
              obtain ⟨t0, t1, t2⟩ := hBf.inT m hlt2
              obtain ⟨P, hP⟩ : ∃ P : Nat, T m = (P : Int) := ⟨(T m).toNat, by omega⟩
              have hPk : P < k := by omega
              have z0 := hgP.c m hlt2
              rw [hP] at z0
              have j0 : (0 : Int) ≤ (m : Int) := by omega
              have j1 : (m : Int) < (L : Int) := by omega
              have hfr := hf.below hBW
              have HP : Hid (T m = (P : Int)) := hP
              obtain ⟨hx, hy⟩ := HDV.out P hPk
              have hn0 : ¬ (n : Int) = 0 := by omega
              have p0 : (0 : Int) ≤ (P : Int) := by omega
              have ed := Int.tdiv_eq_ediv_of_nonneg (a := (P : Int)) (b := (n : Int)) (by omega)
              have et := Int.tmod_eq_emod_of_nonneg (a := (P : Int)) (b := (n : Int)) (by omega)
              obtain ⟨X, eX⟩ : ∃ X, (P : Int) / (n : Int) = X := ⟨_, rfl⟩
              obtain ⟨Y, eY⟩ : ∃ Y, (P : Int) % (n : Int) = Y := ⟨_, rfl⟩
              have HX : Hid (X = ((P / n : Nat) : Int)) := by rw [← eX]; exact (Int.natCast_ediv P n).symm
              have HY : Hid (Y = ((P % n : Nat) : Int)) := by rw [← eY]; exact (Int.natCast_emod P n).symm
              have x0 := cA.c0
              have x1 := cA.c1
              clear t0 t1 t2 hgP hP
              have kX := fun w h => sNext_int W a n c f X (P / n) w HX.out h hs hx
              have kY := fun w h => sNext_int W a n c f Y (P % n) w HY.out h hs hy
              have HLX : Hid ((nbL W n f (P / n)).length ≤ 5) := nbL_len W n f (P / n)
              have HLY : Hid ((nbL W n f (P % n)).length ≤ 5) := nbL_len W n f (P % n)
              have HGX : Hid (∀ j, j < (nbL W n f (P / n)).length → ∃ q : Nat, gl (nbL W n f (P / n)) j = (q : Int) ∧ Stp W n f (P / n) q ∧ q < n) := fun j hj => by
                obtain ⟨q, h1, h2⟩ := nbL_get hj
                exact ⟨q, h1, h2, h2.lt hs hx⟩
              have HGY : Hid (∀ j, j < (nbL W n f (P % n)).length → ∃ q : Nat, gl (nbL W n f (P % n)) j = (q : Int) ∧ Stp W n f (P % n) q ∧ q < n) := fun j hj => by
                obtain ⟨q, h1, h2⟩ := nbL_get hj
                exact ⟨q, h1, h2, h2.lt hs hy⟩
              have HAL : Hid (∀ u, JNb W n f P u → SnP (nbL W n f (P / n)) (nbL W n f (P % n)) n (nbL W n f (P / n)).length 0 u) := fun u hu => snP_all hu
              have HJN : Hid (∀ a b, a < n → b < n → (JNb W n f P (a * n + b) ↔ Stp W n f (P / n) a ∧ Stp W n f (P % n) b ∧ a ≠ b ∧ ¬ (a = P % n ∧ b = P / n))) := fun a b ha hb => jnb_pair ha hb
              have hBf0 : Bf k (JNb W n f) (S * n + S2) F T L m (SnP (nbL W n f (P / n)) (nbL W n f (P % n)) n 0 0) := hBf.weak fun u hu => (snP_zero hu).elim
              have HF0 : Hid (Bf k (JNb W n f) (S * n + S2) F T L m (SnP (nbL W n f (P / n)) (nbL W n f (P % n)) n 0 0)) := hBf0
              clear hBf hBf0
              generalize nbL W n f (P / n) = GX at *
              generalize nbL W n f (P % n) = GY at *
              generalize P / n = x at *
              generalize P % n = y at *
              have X0 : 0 ≤ X := by have := HX.out; omega
              have X1 : X ≤ 1000 := by have := HX.out; omega
              have Y0 : 0 ≤ Y := by have := HY.out; omega
              have Y1 : Y ≤ 1000 := by have := HY.out; omega
              go_wp2_with fail
              with_reducible refine (kX _ hfr).mono ?_
              rintro e w9 ⟨⟨a9, c9', rfl, hL9⟩, hb9⟩
              clear eX eY ed et
              have hB9 := hBs.on hb9
              have hBn := hBs.bn wr.heap.size w9.heap.size (Nat.le_refl _)
              have hdone : Hid (w0.heap.size ≤ wr.heap.size) := hBs.size
              obtain ⟨lo, hlo'⟩ : ∃ lo, lo = wr.heap.size := ⟨_, rfl⟩
              rw [← hlo'] at hL9 hBn hdone
              obtain ⟨hi9, hhi⟩ : ∃ hi9, hi9 = w9.heap.size := ⟨_, rfl⟩
              have hh9 : hi9 ≤ w9.heap.size := by omega
              rw [← hhi] at hL9 hBn
              clear hlo' hhi hBs hfr cA z0 hBel hBW hg1 hb9 x0 x1 kX hx hy hn0 p0
              have HB9 : Hid (Bs w0 w9 FB k F (.slice (some ⟨g, 0, none⟩) L cap) L T) := hB9
              have HL9 : Hid (LQ w9 lo hi9 a9 GX.length (gl GX)) := hL9
              clear hB9 hL9
              go_wp2
              go_loopw [11, 79] (fun v i wx => ∃ (j L : Nat) (F T : Nat → Int), i = .int .i64 (j : Int) ∧ j ≤ GX.length ∧ m < L ∧ T m = (P : Int) ∧ Bs w0 wx FB k F v L T ∧ Bf k (JNb W n f) (S * n + S2) F T L m (SnP GX GY n j 0) ∧ LQ wx lo hi9 a9 GX.length (gl GX) ∧ Bn lo hi9 v ∧ hi9 ≤ wx.heap.size) (fun _ i _ => 5 - (intOf i).toNat)
              case atStart => exact ⟨0, L, F, T, rfl, Nat.zero_le _, hlt2, HP.out, HB9.out, HF0.out, HL9.out, hBn, hh9⟩
              case round =>
                obtain ⟨j, L1, F1, T1, rfl, hj, hmL1, hTm, hBs1, hBf1, hLQ, hBn1, hhx⟩ := hrel
                clear HB9 HF0 HL9 hBn hh9
                have hLX := HLX.out
                by_cases hlt3 : j < GX.length
                · obtain ⟨u, hu, hst, hun⟩ := HGX.out j hlt3
                  obtain ⟨nb, rfl, hn1, hn2, hnP⟩ := hLQ (by omega)
                  have q0 := hnP.c j hlt3
                  rw [hu] at q0
                  have i0 : (0 : Int) ≤ (j : Int) := by omega
                  have i1 : (j : Int) < (GX.length : Int) := by omega
                  have hBW : Below w.heap.size w wr := hB7.trans (hBs1.below (B := w.heap.size) (by omega))
                  have cA : Bx wr w.heap.size (celL W a n c) := d7.turns hBs1.tn (by omega)
                  have x0 := cA.c0
                  have x1 := cA.c1
                  have hfr := hf.below hBW
                  have HU : Hid (gl GX j = (u : Int)) := hu
                  obtain ⟨va, vc, hve⟩ := hBs1.own.shape
                  subst hve
                  clear hnP hu
                  go_wp2_with fail
                  with_reducible refine (kY _ hfr).mono ?_
                  rintro e w8 ⟨⟨a8, c8', rfl, hL8⟩, hb8⟩
                  have hB8 := hBs1.on hb8
                  have hLQ8 := hLQ.on hb8
                  have hBn8 := hBs1.bn wr.heap.size w8.heap.size (Nat.le_refl _)
                  obtain ⟨lo2, hlo2'⟩ : ∃ lo2, lo2 = wr.heap.size := ⟨_, rfl⟩
                  obtain ⟨hi8, hhi8⟩ : ∃ hi8, hi8 = w8.heap.size := ⟨_, rfl⟩
                  have hh8 : hi8 ≤ w8.heap.size := by omega
                  have hhx8 : hi9 ≤ w8.heap.size := Nat.le_trans hhx hb8.size
                  have HD2 : Hid (w0.heap.size ≤ lo2) := by rw [hlo2']; exact hBs1.size
                  rw [← hlo2'] at hL8 hBn8
                  rw [← hhi8] at hL8 hBn8
                  have HB8 : Hid (Bs w0 w8 FB k F1 (.slice va L1 vc) L1 T1) := hB8
                  have HF1 : Hid (Bf k (JNb W n f) (S * n + S2) F1 T1 L1 m (SnP GX GY n j 0)) := hBf1
                  have HQ8 : Hid (LQ w8 lo hi9 (some ⟨nb, 0, none⟩) GX.length (gl GX)) := hLQ8
                  have HL8 : Hid (LQ w8 lo2 hi8 a8 GY.length (gl GY)) := hL8
                  clear hlo2' hhi8 hB8 hBf1 hLQ8 hL8 hBs1 hLQ cA x0 x1 hfr hBW hb8 hhx
                  go_wp2
                  go_loopw [11, 87] (fun v i wx => ∃ (r L : Nat) (F T : Nat → Int), i = .int .i64 (r : Int) ∧ r ≤ GY.length ∧ m < L ∧ T m = (P : Int) ∧ Bs w0 wx FB k F v L T ∧ Bf k (JNb W n f) (S * n + S2) F T L m (SnP GX GY n j r) ∧ LQ wx lo hi9 (some ⟨nb, 0, none⟩) GX.length (gl GX) ∧ Bn lo hi9 v ∧ hi9 ≤ wx.heap.size ∧ LQ wx lo2 hi8 a8 GY.length (gl GY) ∧ Bn lo2 hi8 v ∧ hi8 ≤ wx.heap.size) (fun _ i _ => 5 - (intOf i).toNat)
                  case atStart => exact ⟨0, L1, F1, T1, rfl, Nat.zero_le _, hmL1, hTm, HB8.out, HF1.out, HQ8.out, hBn1, hhx8, HL8.out, hBn8, hh8⟩
                  case round =>
                    obtain ⟨r, L2, F2, T2, rfl, hr, hmL2, hTm2, hBs2, hBf2, hLQ2, hBn2, hhx2, hLR2, hBm2, hhy2⟩ := hrel
                    clear HB8 HF1 HQ8 HL8 hBn8 hh8 hhx8 hBn1
                    have hLY := HLY.out
                    by_cases hlt4 : r < GY.length
                    · obtain ⟨v, hv, hsv, hvn⟩ := HGY.out r hlt4
                      obtain ⟨mb, rfl, hm1, hm2, hmP⟩ := hLR2 (by omega)
                      have q1 := hmP.c r hlt4
                      rw [hv] at q1
                      have i6 : (0 : Int) ≤ (r : Int) := by omega
                      have i7 : (r : Int) < (GY.length : Int) := by omega
                      have hSN : ∀ x, SnP GX GY n j (r + 1) x → SnP GX GY n j r x ∨ x = u * n + v := fun x hx => snP_next HU.out hv hx
                      have hJ := HJN.out u v hun hvn
                      have huv := HPR.out u v hun hvn
                      have mU0 : 0 ≤ (u : Int) * (n : Int) := Int.mul_nonneg (by omega) (by omega)
                      have eU : ((u * n + v : Nat) : Int) = (u : Int) * (n : Int) + (v : Int) := by rw [Int.natCast_add, Int.natCast_mul]
                      have mU1 : (u : Int) * (n : Int) ≤ 1296 := by omega
                      have zU : IntKind.i64.wrap ((u : Int) * (n : Int)) = (u : Int) * (n : Int) := IntWalk.i64_in _ ⟨by omega, by omega⟩
                      have k0' : 0 ≤ (u : Int) * (n : Int) + (v : Int) := by omega
                      have k1' : (u : Int) * (n : Int) + (v : Int) < (k : Int) := by omega
                      have q2 := hBs2.ip.c _ huv
                      have q3 := hBs2.ip.fz (u * n + v)
                      have hTn : (T2 m).toNat = P := by rw [hTm2]; simp
                      have HNJ : Hid (¬ JNb W n f P (u * n + v) → Bf k (JNb W n f) (S * n + S2) F2 T2 L2 m (SnP GX GY n j (r + 1))) := fun h => (hBf2.no (by rw [hTn]; exact h)).weak hSN
                      have HSK : Hid (0 ≤ F2 (u * n + v) → Bf k (JNb W n f) (S * n + S2) F2 T2 L2 m (SnP GX GY n j (r + 1))) := fun h => (hBf2.skip hmL2 huv h).weak hSN
                      have HFO : Hid (F2 (u * n + v) < 0 → JNb W n f P (u * n + v) → Bf k (JNb W n f) (S * n + S2) (put F2 (u * n + v) (F2 P + 1)) (put T2 L2 ((u * n + v : Nat) : Int)) (L2 + 1) m (SnP GX GY n j (r + 1))) := fun h h' => by
                        have := hBf2.found hmL2 huv h (by rw [hTn]; exact h')
                        rw [hTn] at this
                        exact this.weak hSN
                      have HX2 := HX.out
                      have HY2 := HY.out
                      have hFP : 0 ≤ F2 P := by have := (hBf2.inT m hmL2).2.2; rw [hTn] at this; exact this
                      have hFB2 : F2 P ≤ (m : Int) := by have := hBf2.bnd m hmL2; rw [hTn] at this; exact this
                      have hLk := hBf2.le
                      cases r1 : ((u : Int) == (v : Int)) with
                      | true =>
                        have hn1' := HNJ.out (fun hc => by
                          have h := (hJ.1 hc).2.2.1
                          have h' : (u : Int) = (v : Int) := by simpa using r1
                          omega)
                        have HR : Hid (Bf k (JNb W n f) (S * n + S2) F2 T2 L2 m (SnP GX GY n j (r + 1))) := hn1'
                        clear hn1' HNJ HSK HFO hJ hBf2 hmP HX2 HY2
                        obtain ⟨va2, vc2, hve⟩ := hBs2.own.shape
                        subst hve
                        go_wp2
                        exact ⟨⟨r + 1, L2, F2, T2, by go_num, by omega, hmL2, hTm2, hBs2, HR.out, hLQ2, hBn2, hhx2, hLR2, hBm2, hhy2⟩, by simp [intOf]; omega⟩
                      | false =>
                        have hne : u ≠ v := fun h => by rw [h] at r1; simp at r1
                        cases r2 : ((u : Int) == Y && (v : Int) == X) with
                        | true =>
                          have hyx : u = y ∧ v = x := by
                            simp only [Bool.and_eq_true, beq_iff_eq] at r2
                            omega
                          have hn1' := HNJ.out (fun hc => (hJ.1 hc).2.2.2 hyx)
                          have HR : Hid (Bf k (JNb W n f) (S * n + S2) F2 T2 L2 m (SnP GX GY n j (r + 1))) := hn1'
                          simp only [Bool.and_eq_true] at r2
                          obtain ⟨r3, r4⟩ := r2
                          clear hn1' HNJ HSK HFO hJ hBf2 hmP HX2 HY2 hyx
                          obtain ⟨va2, vc2, hve⟩ := hBs2.own.shape
                          subst hve
                          go_wp2
                          exact ⟨⟨r + 1, L2, F2, T2, by go_num, by omega, hmL2, hTm2, hBs2, HR.out, hLQ2, hBn2, hhx2, hLR2, hBm2, hhy2⟩, by simp [intOf]; omega⟩
                        | false =>
                          have hyx : ¬ (u = y ∧ v = x) := fun ⟨h1, h2⟩ => by
                            rw [h1, h2, ← HX2, ← HY2] at r2; simp at r2
                          have hok := hJ.2 ⟨hst, hsv, hne, hyx⟩
                          cases r3 : ((u : Int) == Y) with
                          | true =>
                            have r4 : ((v : Int) == X) = false := by rw [r3] at r2; simpa using r2
                            clear r2
                            by_cases hpos : 0 ≤ F2 (u * n + v)
                            · obtain ⟨va2, vc2, hve⟩ := hBs2.own.shape
                              subst hve
                              have HR : Hid (Bf k (JNb W n f) (S * n + S2) F2 T2 L2 m (SnP GX GY n j (r + 1))) := HSK.out hpos
                              clear HNJ HSK HFO hJ hBf2 hmP HX2 HY2 eU hTn hok hSN
                              generalize F2 (u * n + v) = Y9 at q2 hpos
                              go_wp2
                              exact ⟨⟨r + 1, L2, F2, T2, by go_num, by omega, hmL2, hTm2, hBs2, HR.out, hLQ2, hBn2, hhx2, hLR2, hBm2, hhy2⟩, by simp [intOf]; omega⟩
                            · have hneg : F2 (u * n + v) < 0 := by omega
                              obtain ⟨g2, cap2, hve, hg2, hgP2⟩ := hBs2.own.some (by omega)
                              subst hve
                              have q4 := hgP2.c m hmL2
                              rw [hTm2] at q4
                              have q5 := hBs2.ip.c P hPk
                              have hBs3 := hBs2.set huv (F2 P + 1)
                              have hlt9 := hBs2.lt
                              have hLQ3 := hLQ2.only (lo' := FB) (hi' := FB + 1) (OnlyIn.of ((Only.refl FB wr).set (u * n + v) (.int .i64 (F2 P + 1))) (Nat.le_refl _) (Nat.lt_succ_self _)) (by have := hdone.out; omega)
                              have hLR3 := hLR2.only (lo' := FB) (hi' := FB + 1) (OnlyIn.of ((Only.refl FB wr).set (u * n + v) (.int .i64 (F2 P + 1))) (Nat.le_refl _) (Nat.lt_succ_self _)) (by have := HD2.out; omega)
                              have HF3 : Hid (Bf k (JNb W n f) (S * n + S2) (put F2 (u * n + v) (F2 P + 1)) (put T2 L2 ((u : Int) * (n : Int) + (v : Int))) (L2 + 1) m (SnP GX GY n j (r + 1))) := by
                                have := HFO.out hneg hok
                                rw [eU] at this
                                exact this
                              have j2 : (m : Int) < (L2 : Int) := by omega
                              have m1 : F2 P ≤ 2000 := by omega
                              have i4 : (P : Int) < (k : Int) := by omega
                              have i5 : (0 : Int) ≤ (P : Int) := by omega
                              have HTM : Hid (T2 m = (P : Int)) := hTm2
                              have hsB3 := hBs3.size
                              have hL3 : L2 + 1 ≤ 2000 := by omega
                              have hneg' : ¬ 0 ≤ F2 (u * n + v) := by omega
                              clear HNJ HSK HFO hJ hBf2 hmP HX2 HY2 hTm2 eU hgP2 hTn hFB2 hLk hok hSN
                              generalize F2 P = Z at *
                              generalize F2 (u * n + v) = Y9 at *
                              go_wp2_with (at_builtin; refine wpList_append_own_at _ rfl _ _ 22 rfl w0.heap.size 3 i0' (.int .i64 0) 1 8 Tryd.underlying22 hi hz0 hz1 hz2 rfl (by decide) _ _ _ rfl (World.ownsRow.alloc hBs3.own _) ⟨wr.heap.size, 0, none⟩ 1 1 [.int .i64 ((u : Int) * (n : Int) + (v : Int))] rfl rfl (by rw [← size_set wr ⟨FB, u * n + v, none⟩ (.int .i64 (Z + 1))]; exact cell_one_new _ _ _) (fun x hx => by simp at hx; subst hx; rfl) (by unfold maxLen; omega) (by omega) (by simp at hsB3 ⊢; omega) ?_; intro v' w3 hown' hgrow3 _ hat)
                              exact ⟨⟨r + 1, L2 + 1, _, _, by go_num, by omega, by omega, by have h9 := HTM.out; rw [← h9]; unfold put; rw [if_neg (by omega)], hBs3.app hown' hgrow3, HF3.out, lq_app hLQ3 hBn2 hgrow3, hBn2.app (wr := wr.setCell ⟨FB, u * n + v, none⟩ (.int .i64 (Z + 1))) hat (by simpa using hhx2), by have := hgrow3.size; simp at this; omega, lq_app hLR3 hBm2 hgrow3, hBm2.app (wr := wr.setCell ⟨FB, u * n + v, none⟩ (.int .i64 (Z + 1))) hat (by simpa using hhy2), by have := hgrow3.size; simp at this; omega⟩, by simp [intOf]; omega⟩
                          | false =>
                            clear r2
                            by_cases hpos : 0 ≤ F2 (u * n + v)
                            · obtain ⟨va2, vc2, hve⟩ := hBs2.own.shape
                              subst hve
                              have HR : Hid (Bf k (JNb W n f) (S * n + S2) F2 T2 L2 m (SnP GX GY n j (r + 1))) := HSK.out hpos
                              clear HNJ HSK HFO hJ hBf2 hmP HX2 HY2 eU hTn hok hSN
                              generalize F2 (u * n + v) = Y9 at q2 hpos
                              go_wp2
                              exact ⟨⟨r + 1, L2, F2, T2, by go_num, by omega, hmL2, hTm2, hBs2, HR.out, hLQ2, hBn2, hhx2, hLR2, hBm2, hhy2⟩, by simp [intOf]; omega⟩
                            · have hneg : F2 (u * n + v) < 0 := by omega
                              obtain ⟨g2, cap2, hve, hg2, hgP2⟩ := hBs2.own.some (by omega)
                              subst hve
                              have q4 := hgP2.c m hmL2
                              rw [hTm2] at q4
                              have q5 := hBs2.ip.c P hPk
                              have hBs3 := hBs2.set huv (F2 P + 1)
                              have hlt9 := hBs2.lt
                              have hLQ3 := hLQ2.only (lo' := FB) (hi' := FB + 1) (OnlyIn.of ((Only.refl FB wr).set (u * n + v) (.int .i64 (F2 P + 1))) (Nat.le_refl _) (Nat.lt_succ_self _)) (by have := hdone.out; omega)
                              have hLR3 := hLR2.only (lo' := FB) (hi' := FB + 1) (OnlyIn.of ((Only.refl FB wr).set (u * n + v) (.int .i64 (F2 P + 1))) (Nat.le_refl _) (Nat.lt_succ_self _)) (by have := HD2.out; omega)
                              have HF3 : Hid (Bf k (JNb W n f) (S * n + S2) (put F2 (u * n + v) (F2 P + 1)) (put T2 L2 ((u : Int) * (n : Int) + (v : Int))) (L2 + 1) m (SnP GX GY n j (r + 1))) := by
                                have := HFO.out hneg hok
                                rw [eU] at this
                                exact this
                              have j2 : (m : Int) < (L2 : Int) := by omega
                              have m1 : F2 P ≤ 2000 := by omega
                              have i4 : (P : Int) < (k : Int) := by omega
                              have i5 : (0 : Int) ≤ (P : Int) := by omega
                              have HTM : Hid (T2 m = (P : Int)) := hTm2
                              have hsB3 := hBs3.size
                              have hL3 : L2 + 1 ≤ 2000 := by omega
                              have hneg' : ¬ 0 ≤ F2 (u * n + v) := by omega
                              clear HNJ HSK HFO hJ hBf2 hmP HX2 HY2 hTm2 eU hgP2 hTn hFB2 hLk hok hSN
                              generalize F2 P = Z at *
                              generalize F2 (u * n + v) = Y9 at *
                              go_wp2_with (at_builtin; refine wpList_append_own_at _ rfl _ _ 22 rfl w0.heap.size 3 i0' (.int .i64 0) 1 8 Tryd.underlying22 hi hz0 hz1 hz2 rfl (by decide) _ _ _ rfl (World.ownsRow.alloc hBs3.own _) ⟨wr.heap.size, 0, none⟩ 1 1 [.int .i64 ((u : Int) * (n : Int) + (v : Int))] rfl rfl (by rw [← size_set wr ⟨FB, u * n + v, none⟩ (.int .i64 (Z + 1))]; exact cell_one_new _ _ _) (fun x hx => by simp at hx; subst hx; rfl) (by unfold maxLen; omega) (by omega) (by simp at hsB3 ⊢; omega) ?_; intro v' w3 hown' hgrow3 _ hat)
                              exact ⟨⟨r + 1, L2 + 1, _, _, by go_num, by omega, by omega, by have h9 := HTM.out; rw [← h9]; unfold put; rw [if_neg (by omega)], hBs3.app hown' hgrow3, HF3.out, lq_app hLQ3 hBn2 hgrow3, hBn2.app (wr := wr.setCell ⟨FB, u * n + v, none⟩ (.int .i64 (Z + 1))) hat (by simpa using hhx2), by have := hgrow3.size; simp at this; omega, lq_app hLR3 hBm2 hgrow3, hBm2.app (wr := wr.setCell ⟨FB, u * n + v, none⟩ (.int .i64 (Z + 1))) hat (by simpa using hhy2), by have := hgrow3.size; simp at this; omega⟩, by simp [intOf]; omega⟩
                    · have hrG : r = GY.length := by omega
                      have hBf4 := hBf2.weak (M' := SnP GX GY n (j + 1) 0) fun q hq => by rw [hrG]; exact snP_row hq
                      have HF4 : Hid (Bf k (JNb W n f) (S * n + S2) F2 T2 L2 m (SnP GX GY n (j + 1) 0)) := hBf4
                      have hLk := hBf2.le
                      obtain ⟨va2, vc2, hve⟩ := hBs2.own.shape
                      subst hve
                      have hrI : ¬ (r : Int) < (GY.length : Int) := by omega
                      clear hBf2 hBf4 hLR2
                      go_wp2
                      exact ⟨⟨j + 1, L2, F2, T2, by go_num, by omega, hmL2, hTm2, hBs2, HF4.out, hLQ2, hBn2, hhx2⟩, by simp [intOf]; omega⟩
                · have hjG : j = GX.length := by omega
                  have hBf4 := hBf1.next hmL1 fun u hu => by rw [hjG]; exact HAL.out u (by rw [hTm] at hu; simpa using hu)
                  have HF4 : Hid (Bf k (JNb W n f) (S * n + S2) F1 T1 L1 (m + 1) (fun _ => False)) := hBf4
                  have hLk := hBf1.le
                  obtain ⟨va2, vc2, hve⟩ := hBs1.own.shape
                  subst hve
                  have hjI : ¬ (j : Int) < (GX.length : Int) := by omega
                  clear hBf1 hBf4 hLQ
                  go_wp2
                  exact ⟨⟨m + 1, L1, F1, T1, by go_num, by omega, hBs1, HF4.out⟩, by simp [intOf]; omega⟩
            · have hmL3 : m = L := by omega
              subst hmL3
              have hd := HDI.out _ (hBf.dist HNN.out HEN.out)
              have hEE := HEN.out
              have z0 := hBs.ip.c _ hEE
              have cB : Bx wr (w.heap.size + 1) [.int .i64 (S : Int), .int .i64 (E : Int)] := d8.turns hBs.tn (by omega)
              have cC : Bx wr (w.heap.size + 1 + 1) [.int .i64 (S2 : Int), .int .i64 (E2 : Int)] := d9.turns hBs.tn (by omega)
              have y1 := cB.c1
              have y3 := cC.c1
              have mE0 : 0 ≤ (E : Int) * (n : Int) := Int.mul_nonneg (by omega) (by omega)
              have eEn : ((E * n + E2 : Nat) : Int) = (E : Int) * (n : Int) + (E2 : Int) := by rw [Int.natCast_add, Int.natCast_mul]
              have mE1 : (E : Int) * (n : Int) ≤ 1296 := by omega
              have zE : IntKind.i64.wrap ((E : Int) * (n : Int)) = (E : Int) * (n : Int) := IntWalk.i64_in _ ⟨by omega, by omega⟩
              have k0' : 0 ≤ (E : Int) * (n : Int) + (E2 : Int) := by omega
              have k1' : (E : Int) * (n : Int) + (E2 : Int) < (k : Int) := by omega
              obtain ⟨sa, sc, hve⟩ := hBs.own.shape
              subst hve
              clear hBf hBs cA cB cC eEn
              go_wp2
              go_ret
              exact ⟨_, rfl, hd, hBW⟩
end Go.Proofs.YtbndhhjgjalecabDoor
