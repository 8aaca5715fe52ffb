/- The walk of FnCrowd behind its draws. -/
import Derived.Test.YtbndhhjgjalecaaDoorQCwPnI
import Derived.Test.YtbndhhjgjalecaaDoorQCwGpS
import Derived.Test.YtbndhhjgjalecaaDoorQCwThS
import Derived.Test.YtbndhhjgjalecaaDoorQCwGtS
import Derived.Deep.RegionHeld3
namespace Go.Proofs.YtbndhhjgjalecaaDoor
open Go.RowKit

theorem PlnIs.yes {W : Int} {n : Nat} {f : Nat → Int} {m : Nat} {g : Nat → Int} {tk : Int} {R : Nat → Nat → Int} (h : PlnIs W n f m g tk true R) : gtB W n f m g = true ∧ 0 ≤ tk ∧ tk ≤ 20 ∧ Bests W n f g R tk.toNat m := by
  rcases h with ⟨-, ⟨h1, h2, h3⟩, h4⟩ | ⟨h0, -⟩
  · exact ⟨h1, h2, h3, h4⟩
  · cases h0
theorem Ow.rc {w : World} {base k L : Nat} {R : Nat → Nat → Int} {B C : Nat → Nat} {a : Option Addr} {c : Nat} (h : Ow w base (.slice a k c) k L R B C) (hC : ∀ j, j < k → L ≤ C j) : RC w a k (fun _ => L) R :=
  ⟨fun i => .some ⟨B i, 0, none⟩, C, ⟨fun h0 => by
    obtain ⟨g, cap, e, _, hg, hc⟩ := h.some h0
    cases e
    exact ⟨g, 0, rfl, hg, fun i hi => by rw [Nat.zero_add]; exact hc i hi⟩, fun i hi => (h.row i hi).il⟩, hC⟩
theorem keepJ {w w' : World} {b gb o : Nat} {W : Int} {a : Option Addr} {n c : Nat} {g : Nat → Int} (h : Bx w b (celL W a n c)) (hg : gb < w.heap.size) (y0 : w.cell? ⟨gb, o, none⟩ = some (.int .i64 (g 0))) (y1 : w.cell? ⟨gb, o + 1, none⟩ = some (.int .i64 (g 1))) (y2 : w.cell? ⟨gb, o + 2, none⟩ = some (.int .i64 (g 2))) (y3 : w.cell? ⟨gb, o + 3, none⟩ = some (.int .i64 (g 3))) (k : Below w.heap.size w w') :
    w'.cell? ⟨b, 0, none⟩ = some (.int .i64 W) ∧ w'.cell? ⟨b, 1, none⟩ = some (.slice a n c) ∧ w'.cell? ⟨gb, o, none⟩ = some (.int .i64 (g 0)) ∧ w'.cell? ⟨gb, o + 1, none⟩ = some (.int .i64 (g 1)) ∧ w'.cell? ⟨gb, o + 2, none⟩ = some (.int .i64 (g 2)) ∧ w'.cell? ⟨gb, o + 3, none⟩ = some (.int .i64 (g 3)) :=
  ⟨(h.on k).c0, (h.on k).c1, (k.cell (p := ⟨gb, _, none⟩) hg).trans y0, (k.cell (p := ⟨gb, _, none⟩) hg).trans y1, (k.cell (p := ⟨gb, _, none⟩) hg).trans y2, (k.cell (p := ⟨gb, _, none⟩) hg).trans y3⟩
set_option maxRecDepth 20000 in
set_option maxHeartbeats 8000000 in
theorem crowdLaw (b1 : Option Addr) (m1 d1 : Nat) (w : World) (hTb : Tab w) (h1 : m1 ≤ 1048576)
    (hD : Calls Tryd.prog 7 #[.slice b1 m1 d1] w fun e w' => (∃ W a n c f b m d g tk, e = .returned (.tuple #[cel W a n c, .slice b m d, .int .i64 tk]) ∧ n ≤ 1048576 ∧ m ≤ 1048576 ∧ m ≤ d ∧ IL w' a n f ∧ IL w' b (m * 2) g) ∧ Below w.heap.size w w')
    (hP : ∀ (W : Int) (a b : Option Addr) (n c m d : Nat) (f g : Nat → Int) (tk : Int) (w : World), Tab w → m ≤ d → n ≤ 1048576 → m ≤ 1048576 → IL w a n f → IL w b (m * 2) g → Calls Tryd.prog 8 #[cel W a n c, .slice b m d, .int .i64 tk] w fun e w' => AnsPk W n f m g tk w w' e ∧ Below w.heap.size w w')
    (hG : ∀ (W : Int) (a b p : Option Addr) (n c m d N e0 : Nat) (f g : Nat → Int) (K : Nat → Nat) (F : Nat → Nat → Int) (w : World), Tab w → m ≤ d → N ≤ e0 → n ≤ 1048576 → m ≤ 1048576 → N ≤ 1048576 → (∀ i, i < N → K i ≤ 1048576) → IL w a n f → IL w b (m * 2) g → RC w p N K F → Calls Tryd.prog 10 #[cel W a n c, .slice b m d, .slice p N e0] w fun e w' => ∃ q, e = .returned (.bool q) ∧ Says q (GpP W n f m g N K F) ∧ Below w.heap.size w w')
    (hA : ∀ (W : Int) (a : Option Addr) (n c : Nat) (f : Nat → Int) (s t : Int) (w : World), Tab w → n ≤ 1048576 → IL w a n f → Calls Tryd.prog 12 #[cel W a n c, tpv s t] w fun e w' => ∃ d, e = .returned (.int .i64 d) ∧ AlnIs W n f s t d ∧ Below w.heap.size w w')
    (hJ : ∀ (W : Int) (a : Option Addr) (n c : Nat) (f : Nat → Int) (s t u v : Int) (w : World), Tab w → n ≤ 1048576 → IL w a n f → Calls Tryd.prog 14 #[cel W a n c, tpv s t, tpv u v] w fun e w' => ∃ d, e = .returned (.int .i64 d) ∧ JntIs W n f s t u v d ∧ Below w.heap.size w w') :
    Calls Tryd.prog 3 #[.slice b1 m1 d1] w fun e w' => e = .returned (.bool true) ∧ Below w.heap.size w w' := by
  have l1 : ¬ (1048576 : Int) < (m1 : Int) := by omega
  go_enter Tryd.func3, Tryd.ntmps3
  go_wp2_with fail
  refine hD.mono ?_
  rintro e w1 ⟨⟨W, a, n, c, f, b, m, d, g, tk, rfl, hn, hm, hmd, hf, hg⟩, hB1⟩
  clear hD l1
  have hbx : Below w1.heap.size w1 (w1.alloc (celO W a n c 25)) := (Below.refl _ _).alloc (Nat.le_refl _) _
  have x2 := bx_new (w := w1) (celL W a n c) 25 rfl
  have hf2 := hf.below hbx
  have hg2 := hg.below hbx
  have hB2 := stepA hB1 hbx
  have x0 := x2.c0
  have x1 := x2.c1
  have kP := hP W a b n c m d f g tk (w1.alloc (celO W a n c 25)) (hTb.on hB2) hmd hn hm hf2 hg2
  clear hf hg hbx
  go_wp2_with fail
  refine kP.mono ?_
  rintro e w3 ⟨⟨ok, R, k, v, cv, B, C, hp, rfl, hk, ho, hC0, hkc⟩, hb3⟩
  clear kP x0 x1
  have x3 := x2.on hb3
  have x0 := x3.c0
  have x1 := x3.c1
  have hf3 := hf2.below hb3
  have hg3 := hg2.below hb3
  have hB3 := stepA hB2 hb3
  have HO : Hid (Ow w3 (w1.alloc (celO W a n c 25)).heap.size (.slice v k cv) k (tk.toNat + 1) R B C) := ho
  have HC : Hid (∀ j, j < k → tk.toNat + 1 ≤ C j) := hC0
  have HKC : Hid (k ≤ cv) := hkc
  have HP : Hid (PlnIs W n f m g tk ok R) := hp
  have HK : Hid (k = if ok = true then m else 0) := hk
  clear hC0 hkc ho hp hk x2 hb3 hf2 hg2 hB2 hB1
  have kS := sPlan W a b n c m d f g tk w3 hn hm hf3 hg3
  go_wp2_with fail
  refine kS.mono ?_
  rintro e w4 ⟨⟨ok2, R2, k2, v2, cv2, B2, C2, hp2, rfl, hk2, -⟩, hb4⟩
  obtain ⟨hok, -⟩ := HP.out.uniq hp2
  subst hok
  clear kS x0 x1 hp2 hk2
  have x4 := x3.on hb4
  have x0 := x4.c0
  have x1 := x4.c1
  have hf4 := hf3.below hb4
  have hg4 := hg3.below hb4
  have hB4 := stepA hB3 hb4
  have hrr := (HO.out.on hb4).rc HC.out
  have HRR : Hid (RC w4 v k (fun _ => tk.toNat + 1) R) := hrr
  clear hrr x3 hb4 hf3 hg3 hB3 HO
  cases ok with
  | false =>
    clear HP HK HRR
    go_wp2
    go_ret
    exact ⟨rfl, hB4⟩
  | true =>
    obtain ⟨hgt, ht0, ht1, hbest⟩ := HP.out.yes
    have hkm : k = m := by have := HK.out; simpa using this
    subst hkm
    obtain ⟨T, rfl⟩ : ∃ T : Nat, tk = (T : Int) := ⟨tk.toNat, by omega⟩
    rw [Int.toNat_natCast] at hbest
    have HR4 : Hid (RC w4 v k (fun _ => T + 1) R) := by have := HRR.out; rw [Int.toNat_natCast] at this; exact this
    clear HRR HK HP
    have hT : T ≤ 20 := by omega
    have h5 := (gtB_t hgt).2.1
    have HGP : Hid (GpP W n f k g k (fun _ => T + 1) R) := hbest.good hgt
    have HAL : Hid (∀ i a d, i < k → Lst (R i) T a → AlnIs W n f (g (i * 2)) (g (i * 2 + 1)) d → 0 ≤ d ∧ d ≤ (a : Int)) := fun i a d hi hl hd => alone_le hbest hgt hi hl hd
    have HJT : Hid (k = 2 → n ≤ 36 → ∀ a b d, Lst (R 0) T a → Lst (R 1) T b → JntIs W n f (g 0) (g 1) (g 2) (g 3) d → 0 ≤ d ∧ (d ≤ (a : Int) ∨ d ≤ (b : Int))) := fun r2 r3 a b d r4 r5 r6 => by subst r2; exact joint_le hbest hgt r3 r4 r5 r6
    clear hbest hgt ht0 ht1
    have kG := hG W a b v n c k d k cv f g (fun _ => T + 1) R w4 (hTb.on hB4) hmd HKC.out hn hm (by omega) (fun i hi => by show T + 1 ≤ _; omega) hf4 hg4 HR4.out
    go_wp2_with fail
    refine kG.mono ?_
    rintro e w5 ⟨q5, rfl, hq5, hb5⟩
    have e5 : q5 = true := hq5.2 HGP.out
    subst e5
    clear kG hq5 x0 x1
    have x5 := x4.on hb5
    have x0 := x5.c0
    have x1 := x5.c1
    have hf5 := hf4.below hb5
    have hg5 := hg4.below hb5
    have hB5 := stepA hB4 hb5
    have HR5 : Hid (RC w5 v k (fun _ => T + 1) R) := HR4.out.below hb5
    clear x4 hf4 hg4 hB4 HR4 hb5
    have kG := sGoodP W a b v n c k d k cv f g (fun _ => T + 1) R w5 hn hm (by omega) (fun i hi => by show T + 1 ≤ _; omega) hf5 hg5 HR5.out.rr
    go_wp2_with fail
    refine kG.mono ?_
    rintro e w6 ⟨q6, rfl, hq6, hb6⟩
    have e6 : q6 = true := hq6.2 HGP.out
    subst e6
    clear kG hq6 x0 x1 HGP
    have x6 := x5.on hb6
    have hf6 := hf5.below hb6
    have hg6 := hg5.below hb6
    have hB6 := stepA hB5 hb6
    have HR6 : Hid (RC w6 v k (fun _ => T + 1) R) := HR5.out.below hb6
    clear x5 hf5 hg5 hB5 HR5 hb6
    go_wp2_with fail
    go_loopw [56] (fun i wr => ∃ p : Nat, i = .int .i64 (p : Int) ∧ p ≤ k ∧ Below w6.heap.size w6 wr) (fun i _ => k - (intOf i).toNat)
    case atStart => exact ⟨0, rfl, Nat.zero_le _, Below.refl _ _⟩
    case round =>
      obtain ⟨p, rfl, hp, hB⟩ := hrel
      have hBw := stepA hB6 hB
      have x7 := x6.on hB
      have hf7 := hf6.below hB
      have hg7 := hg6.below hB
      have HR7 : Hid (RC wr v k (fun _ => T + 1) R) := HR6.out.below hB
      by_cases hlt : p < k
      case pos =>
        obtain ⟨gb, go_, rfl, gl_, y0, y1⟩ := il_two hg7 hlt
        have j0 : (0 : Int) ≤ (p : Int) := by omega
        have j1 : (p : Int) < (k : Int) := by omega
        have hbt : Below wr.heap.size wr (wr.alloc (.cells #[.int .i64 (g (p * 2)), .int .i64 (g (p * 2 + 1))] 34)) := (Below.refl _ _).alloc (Nat.le_refl _) _
        have b3 := bx_new (w := wr) [.int .i64 (g (p * 2)), .int .i64 (g (p * 2 + 1))] 34 rfl
        have x8 := x7.on hbt
        have x0 := x8.c0
        have x1 := x8.c1
        have z0 := b3.c0
        have z1 := b3.c1
        have kA := hA W a n c f (g (p * 2)) (g (p * 2 + 1)) (wr.alloc (.cells #[.int .i64 (g (p * 2)), .int .i64 (g (p * 2 + 1))] 34)) (hTb.on (stepA hBw hbt)) hn (hf7.below hbt)
        have HR8 : Hid (RC (wr.alloc (.cells #[.int .i64 (g (p * 2)), .int .i64 (g (p * 2 + 1))] 34)) v k (fun _ => T + 1) R) := HR7.out.below hbt
        have hB8 := stepA hB hbt
        clear x7 x8 b3 hf7 hg7 HR7 hbt
        go_wp2_with fail
        refine kA.mono ?_
        rintro e w9 ⟨d9, rfl, hd9, hb9⟩
        clear kA x0 x1 z0 z1 y0 y1
        obtain ⟨A9, C9, hL9, -⟩ := HR8.out.below hb9
        obtain ⟨vb, vo, rfl, hvb, hvc⟩ := hL9.out (by omega)
        have y2 := hvc p hlt
        have hI9 := hL9.row p hlt
        have kT := sThere (A9 p) T (C9 p) (R p) w9 (by omega) hI9
        have HA9 : Hid (∀ a : Nat, Lst (R p) T a → 0 ≤ d9 ∧ d9 ≤ (a : Int)) := fun a ha => HAL.out p a d9 hlt ha hd9
        have hd0 : 0 ≤ d9 := (HA9.out T ⟨Nat.le_refl _, fun k h1 h2 => by rw [show k = T by omega]⟩).1
        have hd0' : ¬ d9 < 0 := by omega
        have hB9 := stepA hB8 hb9
        clear hL9 hvc hI9 HR8 hd9 hB8
        go_wp2_with fail
        refine kT.mono ?_
        rintro e w10 ⟨a10, rfl, ha10, hb10⟩
        have hle : d9 ≤ (a10 : Int) := (HA9.out a10 ha10).2
        have hle' : ¬ (a10 : Int) < d9 := by omega
        have hB10 := stepA hB9 hb10
        clear kT y2 ha10 HA9
        go_wp2
        exact ⟨⟨p + 1, by go_num, by omega, hB10⟩, by simp [intOf]; omega⟩
      case neg =>
        have hpk : p = k := by omega
        subst hpk
        have x1 := x7.c1
        by_cases h2 : p = 2 ∧ n ≤ 36
        case neg =>
          by_cases h2' : p = 2
          · have h3 : ¬ (n : Int) ≤ 36 := by omega
            subst h2'
            go_wp2
            go_ret
            exact ⟨rfl, hBw⟩
          · have h3 : ((p : Int) == 2) = false := by simp; omega
            go_wp2
            go_ret
            exact ⟨rfl, hBw⟩
        case pos =>
          obtain ⟨rfl, h36⟩ := h2
          have h36' : (n : Int) ≤ 36 := by omega
          obtain ⟨gb, go_, rfl, gl_, y0, y1⟩ := il_two hg7 (show 0 < 2 by omega)
          obtain ⟨gb', go_', e', _, y2, y3⟩ := il_two hg7 (show 1 < 2 by omega)
          cases e'
          simp only [Nat.zero_mul, Nat.add_zero, Nat.one_mul, Nat.zero_add, Nat.add_assoc, Nat.reduceAdd] at y0 y1 y2 y3
          have x0 := x7.c0
          have hw0 := Below.refl wr.heap.size wr
          have kJ := fun w' (hb : Below wr.heap.size wr w') => hJ W a n c f (g 0) (g 1) (g 2) (g 3) w' (hTb.on (stepA hBw hb)) hn (hf7.below hb)
          go_wp2_with fail
          go_region_held3 (fun w' => w'.cell? ⟨w1.heap.size, 0, none⟩ = some (.int .i64 W) ∧ w'.cell? ⟨w1.heap.size, 1, none⟩ = some (.slice a n c) ∧ w'.cell? ⟨gb, go_, none⟩ = some (.int .i64 (g 0)) ∧ w'.cell? ⟨gb, go_ + 1, none⟩ = some (.int .i64 (g 1)) ∧ w'.cell? ⟨gb, go_ + 2, none⟩ = some (.int .i64 (g 2)) ∧ w'.cell? ⟨gb, go_ + 3, none⟩ = some (.int .i64 (g 3)))
            (first | (exact keepJ x7 gl_ y0 y1 y2 y3 hw0.drew) | (exact keepJ x7 gl_ y0 y1 y2 y3 hw1) | (fail))
            (first | (go_at_call 14; refine (kJ _ hw0.drew).mono ?_; rintro e w9 ⟨d9, rfl, hd9, hbn⟩; have hw1 := stepA hw0.drew hbn; clear hbn) | (fail))
          obtain ⟨A9, C9, hL9, -⟩ := HR7.out.below hw1
          obtain ⟨vb, vo, rfl, hvb, hvc⟩ := hL9.out (by omega)
          have q0 := hvc 0 (by omega)
          have q1 := hvc 1 (by omega)
          simp only [Nat.add_zero] at q0
          have hI0 := hL9.row 0 (by omega)
          have hI1 := hL9.row 1 (by omega)
          have HJ9 : Hid (∀ a b : Nat, Lst (R 0) T a → Lst (R 1) T b → 0 ≤ d9 ∧ (d9 ≤ (a : Int) ∨ d9 ≤ (b : Int))) := fun a b ha hb => HJT.out (by trivial) h36 a b d9 ha hb hd9
          have hTT : ∀ P : Nat → Int, Lst P T T := fun P => ⟨Nat.le_refl _, fun k h1 h2 => by rw [show k = T by omega]⟩
          have hd0 : 0 ≤ d9 := (HJ9.out T T (hTT _) (hTT _)).1
          have kT := sThere (A9 0) T (C9 0) (R 0) w9 (by omega) hI0
          have hB9 := stepA hBw hw1
          clear hTT hL9 hd9 HJT kJ x7 x0 x1 y0 y1 y2 y3 hf7 hg7 HR7 hvc
          go_wp2_with fail
          refine kT.mono ?_
          rintro e w10 ⟨a10, rfl, ha10, hb10⟩
          have q1' := (hb10.cell (p := ⟨vb, vo + 1, none⟩) hvb).trans q1
          have hB10 := stepA hB9 hb10
          clear kT q0 q1
          by_cases hle : d9 ≤ (a10 : Int)
          · go_wp2
            go_ret
            exact ⟨rfl, hB10⟩
          · have kT2 := sThere (A9 1) T (C9 1) (R 1) w10 (by omega) (hI1.below hb10)
            go_wp2_with fail
            refine kT2.mono ?_
            rintro e w11 ⟨a11, rfl, ha11, hb11⟩
            have hle2 : d9 ≤ (a11 : Int) := (HJ9.out a10 a11 ha10 ha11).2.resolve_left (by omega)
            have hB11 := stepA hB10 hb11
            go_wp2
            go_ret
            exact ⟨rfl, hB11⟩
end Go.Proofs.YtbndhhjgjalecaaDoor
