/- The program's order of bookings. -/
import Derived.Test.YtdpblholoogikaaCpO
import Derived.Test.YtdpblholoogikaaFkBkV
import Derived.Test.YtdpblholoogikaaBlM
import Derived.Test.YtdpblholoogikaaLqBase
import Derived.Deep.Cut
namespace Go.Proofs.Ytdpblholoogikaa
open Go.RowKit
def cmB (a f b g : Int) : Int := orI (cmpI a b) (cmpI f g)
theorem cmB_lt (a f b g : Int) : cmB a f b g < 0 ↔ (a < b ∨ a = b ∧ f < g) := by
  unfold cmB orI cmpI
  by_cases h1 : a < b
  · simp [h1]
  · by_cases h2 : b < a
    · simp [h1, h2]; omega
    · have h3 : a = b := by omega
      subst h3
      by_cases h4 : f < g
      · simp [h4]
      · by_cases h5 : g < f
        · simp [h4, h5]
        · simp [h4, h5]
theorem keep4_d {w w' : World} {b1 b2 : Nat} {v1 v2 v5 v6 : Value} (x0 : w.cell? ⟨b1, 0, none⟩ = some v1) (x1 : w.cell? ⟨b1, 1, none⟩ = some v2) (y0 : w.cell? ⟨b2, 0, none⟩ = some v5) (y1 : w.cell? ⟨b2, 1, none⟩ = some v6) (l1 : b1 < w.heap.size) (l2 : b2 < w.heap.size) (k : Below w.heap.size w w') :
    w'.cell? ⟨b1, 0, none⟩ = some v1 ∧ w'.cell? ⟨b1, 1, none⟩ = some v2 ∧ w'.cell? ⟨b2, 0, none⟩ = some v5 ∧ w'.cell? ⟨b2, 1, none⟩ = some v6 :=
  ⟨(k.cell (p := ⟨b1, _, none⟩) l1).trans x0, (k.cell (p := ⟨b1, _, none⟩) l1).trans x1, (k.cell (p := ⟨b2, _, none⟩) l2).trans y0, (k.cell (p := ⟨b2, _, none⟩) l2).trans y1⟩
theorem cmp_d (x y : Int) (w : World) : Calls Try.prog 31 #[.int .i64 x, .int .i64 y] w fun e w' => e = .returned (.int .i64 (cmpI x y)) ∧ Below w.heap.size w w' :=
  (cmp_any x y w).mono (by rintro e w' ⟨rfl, rfl⟩; exact ⟨rfl, Below.refl _ _⟩)
theorem or_d (x y : Int) (w : World) : Calls Try.prog 30 #[.slice (some ⟨w.heap.size, 0, none⟩) 2 2] (w.alloc (.cells #[.int .i64 x, .int .i64 y] 3)) fun e w' => e = .returned (.int .i64 (orI x y)) ∧ Below (w.alloc (.cells #[.int .i64 x, .int .i64 y] 3)).heap.size (w.alloc (.cells #[.int .i64 x, .int .i64 y] 3)) w' := by
  have b := bx_new (w := w) (b := w.heap.size) [.int .i64 x, .int .i64 y] 3 rfl
  refine (or_two x y w.heap.size (w.alloc (.cells #[.int .i64 x, .int .i64 y] 3)) b.c0 b.c1).mono ?_
  rintro e w' ⟨rfl, rfl⟩
  exact ⟨rfl, Below.refl _ _⟩
set_option maxHeartbeats 2000000 in
theorem iCmpB (a f t u b g s v : Int) (w : World) :
    Calls Try.prog 19 #[bkv a f t u, bkv b g s v] w fun r w' => r = .returned (.int .i64 (cmB a f b g)) ∧ Below w.heap.size w w' := by
  have hB : Below w.heap.size w ((w.alloc (.cells #[.int .i64 a, .int .i64 f, .int .i64 t, .int .i64 u] 25)).alloc (.cells #[.int .i64 b, .int .i64 g, .int .i64 s, .int .i64 v] 25)) := ((Below.refl _ _).alloc (Nat.le_refl _) _).alloc (by simp) _
  have b0 := (bx_new (w := w) (b := w.heap.size) [.int .i64 a, .int .i64 f, .int .i64 t, .int .i64 u] 25 rfl).alloc (.cells #[.int .i64 b, .int .i64 g, .int .i64 s, .int .i64 v] 25)
  have b1 := bx_new (w := w.alloc (.cells #[.int .i64 a, .int .i64 f, .int .i64 t, .int .i64 u] 25)) (b := w.heap.size + 1) [.int .i64 b, .int .i64 g, .int .i64 s, .int .i64 v] 25 (by simp)
  have x0 := b0.c0
  have x1 := b0.c1
  have y0 := b1.c0
  have y1 := b1.c1
  have k1 := fun w => cmp_d a b w
  have k2 := fun w => cmp_d f g w
  unfold cmB
  generalize cmpI a b = X at *
  generalize cmpI f g = Y at *
  have kor := fun w => or_d X Y w
  generalize orI X Y = V at *
  have l1 : w.heap.size < ((w.alloc (.cells #[.int .i64 a, .int .i64 f, .int .i64 t, .int .i64 u] 25)).alloc (.cells #[.int .i64 b, .int .i64 g, .int .i64 s, .int .i64 v] 25)).heap.size := by simp; omega
  have l2 : w.heap.size + 1 < ((w.alloc (.cells #[.int .i64 a, .int .i64 f, .int .i64 t, .int .i64 u] 25)).alloc (.cells #[.int .i64 b, .int .i64 g, .int .i64 s, .int .i64 v] 25)).heap.size := by simp
  clear b0 b1
  go_enter Try.func19, Try.ntmps19
  go_upto_region 1 with fail
  generalize ((w.alloc (.cells #[.int .i64 a, .int .i64 f, .int .i64 t, .int .i64 u] 25)).alloc (.cells #[.int .i64 b, .int .i64 g, .int .i64 s, .int .i64 v] 25)) = wb at *
  have hw0 := Below.refl wb.heap.size wb
  go_region_held3 (fun w' => w'.cell? ⟨w.heap.size, 0, none⟩ = some (.int .i64 a) ∧ w'.cell? ⟨w.heap.size, 1, none⟩ = some (.int .i64 f) ∧ w'.cell? ⟨w.heap.size + 1, 0, none⟩ = some (.int .i64 b) ∧ w'.cell? ⟨w.heap.size + 1, 1, none⟩ = some (.int .i64 g)) (first | (exact keep4_d x0 x1 y0 y1 l1 l2 hw0.drew) | (exact keep4_d x0 x1 y0 y1 l1 l2 hw3) | (exact keep4_d x0 x1 y0 y1 l1 l2 (hw2.alloc hw2.size _)) | (exact keep4_d x0 x1 y0 y1 l1 l2 hw2) | (exact keep4_d x0 x1 y0 y1 l1 l2 hw1) | (fail)) (first | (go_at_call_of 31 a; refine (k1 _).mono ?_; rintro e w1 ⟨rfl, hb⟩; have hw1 := stepA hw0.drew hb; clear hb) | (go_at_call 31; refine (k2 _).mono ?_; rintro e w2 ⟨rfl, hb⟩; have hw2 := stepA hw1 hb; clear hb) | (go_at_call 30; refine (kor _).mono ?_; rintro e w3 ⟨rfl, hb⟩; have hw3 := stepA (hw2.alloc hw2.size _) hb; clear hb) | (fail))
  have hB1 := stepA hB hw3
  clear x0 x1 y0 y1
  go_wp2
  go_ret
  exact ⟨rfl, hB1⟩
end Go.Proofs.Ytdpblholoogikaa
