/- How many ticks one who is alone needs, as the program tells it. -/
import Derived.Test.YtbndhhjgjalecaaDoorQCwLtI
import Derived.Test.YtbndhhjgjalecaaDoorQCwGotI
import Derived.Test.YtbndhhjgjalecaaDoorQCwTrip1
namespace Go.Proofs.YtbndhhjgjalecaaDoor
open Go.RowKit

def AnsAl (W : Int) (n : Nat) (f : Nat → Int) (s t : Int) (e : Ending) : Prop := ∃ d, e = .returned (.int .i64 d) ∧ AlnIs W n f s t d
set_option maxHeartbeats 2000000 in
theorem iAlone0 (W : Int) (a : Option Addr) (n c : Nat) (f : Nat → Int) (s t : Int) (w : World) (hn : n ≤ 1048576) (hT : Tab w) (hf : IL w a n f) :
    Calls Tryd.prog 12 #[cel W a n c, tpv s t] w fun e w' => AnsAl W n f s t e ∧ Below w.heap.size w w' := by
  have b0 := bx_new (w := w) (celL W a n c) 25 rfl
  have b1 := bx_new (w := w.alloc (celO W a n c 25)) (b := w.heap.size + 1) [.int .i64 s, .int .i64 t] 34 (by simp)
  have b2 := bx_new (w := (w.alloc (celO W a n c 25)).alloc (.cells #[.int .i64 s, .int .i64 t] 34)) (b := w.heap.size + 1 + 1) [.int .i64 s, .int .i64 t] 34 (by simp)
  have hb3 : Below w.heap.size w (((w.alloc (celO W a n c 25)).alloc (.cells #[.int .i64 s, .int .i64 t] 34)).alloc (.cells #[.int .i64 s, .int .i64 t] 34)) :=
    (((Below.refl w.heap.size w).alloc (Nat.le_refl _) _).alloc (by simp) _).alloc (by simp <;> omega) _
  have c1 := b1.alloc (.cells #[.int .i64 s, .int .i64 t] 34)
  have x0 := ((b0.alloc (.cells #[.int .i64 s, .int .i64 t] 34))).c0
  have x1 := ((b0.alloc (.cells #[.int .i64 s, .int .i64 t] 34))).c1
  have y0 := b1.c0
  have y1 := b1.c1
  go_enter Tryd.func12, Tryd.ntmps12
  go_wp2_with fail
  clear x0 x1 y0 y1 b0 b1
  generalize ((w.alloc (celO W a n c 25)).alloc (.cells #[.int .i64 s, .int .i64 t] 34)).alloc (.cells #[.int .i64 s, .int .i64 t] 34) = w3 at *
  have hg : IL w3 (some ⟨w.heap.size + 1 + 1, 0, none⟩) (1 * 2) (tg s t) := fun _ => ⟨_, 0, rfl, b2.lt, fun i hi => by
    match i, hi with
    | 0, _ => exact b2.c0
    | 1, _ => exact b2.c1⟩
  have hf3 := hf.below hb3
  have kG := got_any W a (some ⟨w.heap.size + 1 + 1, 0, none⟩) n c 1 1 f (tg s t) w3 hn (by omega) (by omega) hf3 hg
  cases hq : gtB W n f 1 (tg s t) with
  | false =>
    rw [hq] at kG
    have kG2 : Calls Tryd.prog 35 #[cel W a n c, .slice (some ⟨w.heap.size + 1 + 1, 0, none⟩) 1 1] w3 fun e w' => e = .returned (.tuple #[gr 0 0 none 0 0, .bool false]) ∧ Below w3.heap.size w3 w' := kG
    refine kG2.mono ?_
    rintro e w4 ⟨rfl, hb4⟩
    have hB4 := stepA hb3 hb4
    have HR : Hid (AnsAl W n f s t (.returned (.int .i64 (-1)))) := ⟨-1, rfl, .inl ⟨hq, rfl⟩⟩
    clear kG kG2 hg hf3 hq
    go_wp2
    go_ret
    exact ⟨HR.out, hB4.alloc hB4.size _⟩
  | true =>
    rw [hq] at kG
    have kG2 : Calls Tryd.prog 35 #[cel W a n c, .slice (some ⟨w.heap.size + 1 + 1, 0, none⟩) 1 1] w3 fun e w' => e = .returned (.tuple #[gr W (hgt W n) a n c, .bool true]) ∧ Below w3.heap.size w3 w' := kG
    refine kG2.mono ?_
    rintro e w4 ⟨rfl, hb4⟩
    have hB4 := stepA hb3 hb4
    obtain ⟨hcel, -, htr⟩ := gtB_t hq
    have hs := (celB_parts hcel).1
    obtain ⟨f1, f2, -⟩ := trB_at htr 0 (by omega)
    obtain ⟨S, rfl⟩ : ∃ S : Nat, s = (S : Int) := ⟨s.toNat, by have := (frB_t f1).1; simp [tg] at this; omega⟩
    obtain ⟨E, rfl⟩ : ∃ E : Nat, t = (E : Int) := ⟨t.toNat, by have := (frB_t f2).1; simp [tg] at this; omega⟩
    have hS : S < n := by have := (frB_t f1).2.1; simp [tg] at this; omega
    have hE : E < n := by have := (frB_t f2).2.1; simp [tg] at this; omega
    have c2 := c1.on hb4
    have HDI : Hid (∀ d, DistIs (Stp W n f) S E d → AlnIs W n f (S : Int) (E : Int) d) := fun d hd => .inr ⟨hq, by simpa using hd⟩
    clear f1 f2 htr hcel kG kG2 hg hf3 hq c1 b2
    obtain ⟨H, eH⟩ : ∃ H, hgt W n = H := ⟨_, rfl⟩
    have hB5 := hB4.alloc hB4.size (.cells #[.int .i64 W, .int .i64 H, .slice a n c] 68)
    have kL := least_int W a n c f S E (w4.alloc (.cells #[.int .i64 W, .int .i64 H, .slice a n c] 68)) (hf.below hB5) hs hS hE (hT.on hB5)
    have bG := bx_new (w := w4) (b := w4.heap.size) [.int .i64 W, .int .i64 H, .slice a n c] 68 rfl
    have c3 := c2.alloc (.cells #[.int .i64 W, .int .i64 H, .slice a n c] 68)
    rw [eH] at kL ⊢
    have y0 := c3.c0
    have y1 := c3.c1
    have g0 := bG.c0
    have g1 := bG.c1
    have g2 := bG.c2
    clear eH c2 hb4 hB4
    go_wp2_with fail
    refine kL.mono ?_
    rintro e w6 ⟨⟨d, rfl, hd⟩, hb6⟩
    have HR : Hid (AnsAl W n f (S : Int) (E : Int) (.returned (.int .i64 d))) := ⟨d, rfl, HDI.out d hd⟩
    have hB6 := stepA hB5 hb6
    clear kL hd y0 y1 g0 g1 g2 bG c3 hb6
    go_wp2
    go_ret
    exact ⟨HR.out, hB6⟩
theorem iAlone (W : Int) (a : Option Addr) (n c : Nat) (f : Nat → Int) (s t : Int) (w : World) (hn : n ≤ 1048576) (hT : Tab w) (hf : IL w a n f) :
    Calls Tryd.prog 12 #[cel W a n c, tpv s t] w fun e w' => ∃ d, e = .returned (.int .i64 d) ∧ AlnIs W n f s t d ∧ Below w.heap.size w w' :=
  (iAlone0 W a n c f s t w hn hT hf).mono fun _ _ ⟨⟨d, h1, h2⟩, h3⟩ => ⟨d, h1, h2, h3⟩
end Go.Proofs.YtbndhhjgjalecaaDoor
