/- How many ticks two need, as the program tells it. -/
import Derived.Test.YtbndhhjgjalecabDoorQCwLcI
import Derived.Test.YtbndhhjgjalecabDoorQCwGotI
import Derived.Test.YtbndhhjgjalecabDoorQCwTrip1
namespace Go.Proofs.YtbndhhjgjalecabDoor
open Go.RowKit

def AnsJn (W : Int) (n : Nat) (f : Nat → Int) (s t u v : Int) (e : Ending) : Prop := ∃ d, e = .returned (.int .i64 d) ∧ JntIs W n f s t u v d
set_option maxHeartbeats 2000000 in
theorem iJoint0 (W : Int) (a : Option Addr) (n c : Nat) (f : Nat → Int) (s t u v : Int) (w : World) (hn : n ≤ 1048576) (hT : Tab w) (hf : IL w a n f) :
    Calls Tryd.prog 8 #[cel W a n c, tpv s t, tpv u v] w fun e w' => AnsJn W n f s t u v e ∧ Below w.heap.size w w' := by
  have b0 := bx_new (w := w) (celL W a n c) 29 rfl
  have b1 := bx_new (w := w.alloc (celO W a n c 29)) (b := w.heap.size + 1) [.int .i64 s, .int .i64 t] 31 (by simp)
  have b2 := bx_new (w := (w.alloc (celO W a n c 29)).alloc (.cells #[.int .i64 s, .int .i64 t] 31)) (b := w.heap.size + 1 + 1) [.int .i64 u, .int .i64 v] 31 (by simp)
  have b3 := bx_new (w := ((w.alloc (celO W a n c 29)).alloc (.cells #[.int .i64 s, .int .i64 t] 31)).alloc (.cells #[.int .i64 u, .int .i64 v] 31)) (b := w.heap.size + 1 + 1 + 1) [.int .i64 s, .int .i64 t, .int .i64 u, .int .i64 v] 31 (by simp)
  have hb3 : Below w.heap.size w ((((w.alloc (celO W a n c 29)).alloc (.cells #[.int .i64 s, .int .i64 t] 31)).alloc (.cells #[.int .i64 u, .int .i64 v] 31)).alloc (.cells #[.int .i64 s, .int .i64 t, .int .i64 u, .int .i64 v] 31)) :=
    ((((Below.refl w.heap.size w).alloc (Nat.le_refl _) _).alloc (by simp) _).alloc (by simp <;> omega) _).alloc (by simp <;> omega) _
  have d0 := (b0.alloc (.cells #[.int .i64 s, .int .i64 t] 31)).alloc (.cells #[.int .i64 u, .int .i64 v] 31)
  have d1 := b1.alloc (.cells #[.int .i64 u, .int .i64 v] 31)
  have x0 := d0.c0
  have x1 := d0.c1
  have y0 := d1.c0
  have y1 := d1.c1
  have z0 := b2.c0
  have z1 := b2.c1
  have c0 := d0.alloc (.cells #[.int .i64 s, .int .i64 t, .int .i64 u, .int .i64 v] 31)
  have c1 := d1.alloc (.cells #[.int .i64 s, .int .i64 t, .int .i64 u, .int .i64 v] 31)
  have c2 := b2.alloc (.cells #[.int .i64 s, .int .i64 t, .int .i64 u, .int .i64 v] 31)
  go_enter Tryd.func8, Tryd.ntmps8
  go_wp2_with fail
  clear x0 x1 y0 y1 z0 z1 b0 b1 b2 d0 d1
  generalize (((w.alloc (celO W a n c 29)).alloc (.cells #[.int .i64 s, .int .i64 t] 31)).alloc (.cells #[.int .i64 u, .int .i64 v] 31)).alloc (.cells #[.int .i64 s, .int .i64 t, .int .i64 u, .int .i64 v] 31) = w3 at *
  have hg : IL w3 (some ⟨w.heap.size + 1 + 1 + 1, 0, none⟩) (2 * 2) (tg4 s t u v) := fun _ => ⟨_, 0, rfl, b3.lt, fun i hi => by
    match i, hi with
    | 0, _ => exact b3.c0
    | 1, _ => exact b3.c1
    | 2, _ => exact b3.c2
    | 3, _ => exact b3.c 3 (by simp)⟩
  have hf3 := hf.below hb3
  have kG := got_any W a (some ⟨w.heap.size + 1 + 1 + 1, 0, none⟩) n c 2 2 f (tg4 s t u v) w3 hn (by omega) (by omega) hf3 hg
  cases hq : gtB W n f 2 (tg4 s t u v) with
  | false =>
    rw [hq] at kG
    have kG2 : Calls Tryd.prog 14 #[cel W a n c, .slice (some ⟨w.heap.size + 1 + 1 + 1, 0, none⟩) 2 2] w3 fun e w' => e = .returned (.tuple #[gr 0 0 none 0 0, .bool false]) ∧ Below w3.heap.size w3 w' := kG
    refine kG2.mono ?_
    rintro e w4 ⟨rfl, hb4⟩
    have hB4 := stepA hb3 hb4
    have HR : Hid (AnsJn W n f s t u v (.returned (.int .i64 (-1)))) := ⟨-1, rfl, .inl ⟨fun h => (by have h1 := h.1; rw [hq] at h1; cases h1), rfl⟩⟩
    clear kG kG2 hg hf3 hq
    go_wp2
    go_ret
    exact ⟨HR.out, hB4.alloc hB4.size _⟩
  | true =>
    rw [hq] at kG
    have kG2 : Calls Tryd.prog 14 #[cel W a n c, .slice (some ⟨w.heap.size + 1 + 1 + 1, 0, none⟩) 2 2] w3 fun e w' => e = .returned (.tuple #[gr W (hgt W n) a n c, .bool true]) ∧ Below w3.heap.size w3 w' := kG
    refine kG2.mono ?_
    rintro e w4 ⟨rfl, hb4⟩
    have hB4 := stepA hb3 hb4
    have c0' := c0.on hb4
    have c1' := c1.on hb4
    have c2' := c2.on hb4
    obtain ⟨H, eH⟩ : ∃ H, hgt W n = H := ⟨_, rfl⟩
    have hB5 := hB4.alloc hB4.size (.cells #[.int .i64 W, .int .i64 H, .slice a n c] 43)
    have c05 := c0'.alloc (.cells #[.int .i64 W, .int .i64 H, .slice a n c] 43)
    have c15 := c1'.alloc (.cells #[.int .i64 W, .int .i64 H, .slice a n c] 43)
    have c25 := c2'.alloc (.cells #[.int .i64 W, .int .i64 H, .slice a n c] 43)
    have x1 := c05.c1
    by_cases h36 : n ≤ 36
    case neg =>
      have j36 : (36 : Int) < (n : Int) := by omega
      have HR : Hid (AnsJn W n f s t u v (.returned (.int .i64 (-1)))) := ⟨-1, rfl, .inl ⟨fun h => h36 h.2, rfl⟩⟩
      rw [eH]
      clear kG kG2 hg hf3 hq h36 eH c0 c1 c2 b3
      go_wp2
      go_ret
      exact ⟨HR.out, hB5⟩
    case pos =>
      have j36 : ¬ (36 : Int) < (n : Int) := by omega
      obtain ⟨hcel, -, htr⟩ := gtB_t hq
      have hs := (celB_parts hcel).1
      obtain ⟨f1, f2, -⟩ := trB_at htr 0 (by omega)
      obtain ⟨f3, f4, -⟩ := trB_at htr 1 (by omega)
      obtain ⟨S, rfl⟩ : ∃ S : Nat, s = (S : Int) := ⟨s.toNat, by have := (frB_t f1).1; simp [tg4] at this; omega⟩
      obtain ⟨E, rfl⟩ : ∃ E : Nat, t = (E : Int) := ⟨t.toNat, by have := (frB_t f2).1; simp [tg4] at this; omega⟩
      obtain ⟨U, rfl⟩ : ∃ S : Nat, u = (S : Int) := ⟨u.toNat, by have := (frB_t f3).1; simp [tg4] at this; omega⟩
      obtain ⟨V, rfl⟩ : ∃ E : Nat, v = (E : Int) := ⟨v.toNat, by have := (frB_t f4).1; simp [tg4] at this; omega⟩
      have hS : S < n := by have := (frB_t f1).2.1; simp [tg4] at this; omega
      have hE : E < n := by have := (frB_t f2).2.1; simp [tg4] at this; omega
      have hU : U < n := by have := (frB_t f3).2.1; simp [tg4] at this; omega
      have hV : V < n := by have := (frB_t f4).2.1; simp [tg4] at this; omega
      have HDI : Hid (∀ d, DistIs (JNb W n f) (S * n + U) (E * n + V) d → JntIs W n f (S : Int) (E : Int) (U : Int) (V : Int) d) := fun d hd => .inr ⟨⟨hq, h36⟩, by simpa using hd⟩
      have kL := least_couple W a n c f S U E V (w4.alloc (.cells #[.int .i64 W, .int .i64 H, .slice a n c] 43)) (hf.below hB5) hs hS hU hE hV (hT.on hB5)
      have bG := bx_new (w := w4) (b := w4.heap.size) [.int .i64 W, .int .i64 H, .slice a n c] 43 rfl
      rw [eH] at kL ⊢
      have y0 := c15.c0
      have y1 := c15.c1
      have z0 := c25.c0
      have z1 := c25.c1
      have g0 := bG.c0
      have g1 := bG.c1
      have g2 := bG.c2
      clear f1 f2 f3 f4 htr hcel kG kG2 hg hf3 hq h36 c0 c1 c2 b3 eH c0' c1' c2' hb4 hB4
      go_wp2_with fail
      refine kL.mono ?_
      rintro e w6 ⟨⟨d, rfl, hd⟩, hb6⟩
      have HR : Hid (AnsJn W n f (S : Int) (E : Int) (U : Int) (V : Int) (.returned (.int .i64 d))) := ⟨d, rfl, HDI.out d hd⟩
      have hB6 := stepA hB5 hb6
      clear kL hd x1 y0 y1 z0 z1 g0 g1 g2 bG c05 c15 c25 hb6
      go_wp2
      go_ret
      exact ⟨HR.out, hB6⟩
theorem iJoint (W : Int) (a : Option Addr) (n c : Nat) (f : Nat → Int) (s t u v : Int) (w : World) (hn : n ≤ 1048576) (hT : Tab w) (hf : IL w a n f) :
    Calls Tryd.prog 8 #[cel W a n c, tpv s t, tpv u v] w fun e w' => ∃ d, e = .returned (.int .i64 d) ∧ JntIs W n f s t u v d ∧ Below w.heap.size w w' :=
  (iJoint0 W a n c f s t u v w hn hT hf).mono fun _ _ ⟨⟨d, h1, h2⟩, h3⟩ => ⟨d, h1, h2, h3⟩
end Go.Proofs.YtbndhhjgjalecabDoor
