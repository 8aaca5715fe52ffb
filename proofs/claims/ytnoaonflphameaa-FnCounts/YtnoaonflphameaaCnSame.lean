/- Two rays may be added in either order; counts that are the same. -/
import Derived.Test.YtnoaonflphameaaRyLaw
import Derived.BigQuiet
namespace Go.Proofs.Ytnoaonflphameaa
open Go.RowKit

/-- how often a cell is met below k -/
def ct (id : Nat → Nat) : Nat → Nat → Int
  | 0, _ => 0
  | k + 1, i => ct id k i + (if i = id k then 1 else 0)
theorem am_ct (g : Nat → Int) (id : Nat → Nat) (k i : Nat) : am g id k i = g i + ct id k i := by
  induction k generalizing i with
  | zero => simp [am, ct]
  | succ k ih =>
    simp only [am, put, ct]
    split
    · next e => subst e; rw [ih]; omega
    · rw [ih]; omega
theorem am_comm (g : Nat → Int) (p q : Nat → Nat) (k l : Nat) : am (am g p k) q l = am (am g q l) p k := by
  funext i
  rw [am_ct, am_ct, am_ct, am_ct]
  omega
theorem rayF_comm (f : Nat → Int) (p q : Nat → Nat) (k l : Nat) (h : Bool) : rayF (rayF f p k h) q l (!h) = rayF (rayF f q l (!h)) p k h := by
  cases h <;> rfl
theorem rayG_comm (g : Nat → Int) (p q : Nat → Nat) (k l : Nat) (h : Bool) : rayG (rayG g p k h) q l (!h) = rayG (rayG g q l (!h)) p k h := by
  cases h
  · exact am_comm g p q (k + 1) l
  · exact am_comm g p q k (l + 1)

set_option maxHeartbeats 2000000 in
theorem zByte_any (a : Option Addr) (len cap : Nat) (w : World) (hb : 0 < len → ∃ b off, a = some ⟨b, off, none⟩ ∧ b < w.heap.size ∧ ∀ i, i < len → ∃ v : Int, w.cell? ⟨b, off + i, none⟩ = some (.int .u8 v) ∧ 0 ≤ v ∧ v ≤ 255) :
    Calls Try.prog 8 #[.slice a len cap, .int .i64 0] w fun e w' => (∃ v : Int, e = .returned (.int .i64 v) ∧ 0 ≤ v ∧ v ≤ 255) ∧ w' = w := by
  by_cases h0 : 0 < len
  · obtain ⟨b, off, rfl, hbw, hc⟩ := hb h0
    obtain ⟨v, hv, hv0, hv1⟩ := hc 0 h0
    rw [Nat.add_zero] at hv
    have j1 : (0 : Int) < (len : Int) := by omega
    go_enter Try.func8, Try.ntmps8
    go_wp2
    go_ret
    exact ⟨⟨_, rfl, hv0, hv1⟩, rfl⟩
  · have j1 : ¬ (0 : Int) < (len : Int) := by omega
    go_enter Try.func8, Try.ntmps8
    go_wp2
    go_ret
    exact ⟨⟨0, rfl, by omega, by omega⟩, rfl⟩

set_option maxHeartbeats 4000000 in
set_option maxRecDepth 20000 in
theorem same_any (V : Int) (a b a2 b2 : Option Addr) (n c d c2 d2 : Nat) (F G : Nat → Int) (w : World) (hn : n ≤ 1048576) (h1 : IL w a n F) (h2 : IL w b n G) (h3 : IL w a2 n F) (h4 : IL w b2 n G) :
    Calls Try.prog 11 #[cnt V a n c b n d, cnt V a2 n c2 b2 n d2] w fun e w' => e = .returned (.bool true) ∧ Below w.heap.size w w' := by
  have hB0 : Below w.heap.size w ((w.alloc (cntO V a n c b n d 25)).alloc (cntO V a2 n c2 b2 n d2 25)) := ((Below.refl _ _).alloc (Nat.le_refl _) _).alloc (by simp) _
  have z0 : Bx ((w.alloc (cntO V a n c b n d 25)).alloc (cntO V a2 n c2 b2 n d2 25)) w.heap.size (cntL V a n c b n d) := (bx_new (b := w.heap.size) (w := w) (cntL V a n c b n d) 25 rfl).alloc _
  have z1 : Bx ((w.alloc (cntO V a n c b n d 25)).alloc (cntO V a2 n c2 b2 n d2 25)) (w.heap.size + 1) (cntL V a2 n c2 b2 n d2) := bx_new _ _ (by simp only [size_al])
  go_enter Try.func11, Try.ntmps11
  go_upto_region 1 with fail
  generalize (w.alloc (cntO V a n c b n d 25)).alloc (cntO V a2 n c2 b2 n d2 25) = w0 at hB0 z0 z1 ⊢
  obtain ⟨x0, x1, x2⟩ := cnt_three z0
  obtain ⟨y0, y1, y2⟩ := cnt_three z1
  go_wp2_with fail
  go_loopw [32] (fun i wr => ∃ k : Nat, k ≤ n ∧ i = .int .i64 k ∧ Below w0.heap.size w0 wr) (fun i _ => n - (intOf i).toNat)
  case atStart => exact ⟨0, Nat.zero_le _, rfl, Below.refl _ _⟩
  case round =>
    obtain ⟨k, hk, rfl, hB⟩ := hrel
    by_cases hlt : k < n
    · have j0 : (0 : Int) ≤ (k : Int) := by omega
      have j3 : (k : Int) < (n : Int) := by omega
      have hBw := stepA hB0 hB
      obtain ⟨b1, o1, rfl, l1, e1⟩ := h1 (by omega)
      obtain ⟨b2', o2, rfl, l2, e2⟩ := h2 (by omega)
      obtain ⟨b3, o3, rfl, l3, e3⟩ := h3 (by omega)
      obtain ⟨b4, o4, rfl, l4, e4⟩ := h4 (by omega)
      have q1 := (hBw.cell (p := ⟨b1, o1 + k, none⟩) l1).trans (e1 k hlt)
      have q2 := (hBw.cell (p := ⟨b2', o2 + k, none⟩) l2).trans (e2 k hlt)
      have q3 := (hBw.cell (p := ⟨b3, o3 + k, none⟩) l3).trans (e3 k hlt)
      have q4 := (hBw.cell (p := ⟨b4, o4 + k, none⟩) l4).trans (e4 k hlt)
      clear x0 x1 x2 y0 y1 y2 e1 e2 e3 e4 h1 h2 h3 h4
      obtain ⟨x0, x1, x2⟩ := cnt_three (z0.on hB)
      obtain ⟨y0, y1, y2⟩ := cnt_three (z1.on hB)
      generalize F k = fk at q1 q3
      generalize G k = gk at q2 q4
      go_wp2_with fail
      go_quiet (fail)
      go_wp2_with fail
      go_roundw
      case rel => exact ⟨k + 1, by omega, by go_num, below_dr hB _⟩
      case measure => simp [intOf]; omega
    · go_wp2
      go_ret
      exact ⟨rfl, stepA hB0 hB⟩
end Go.Proofs.Ytnoaonflphameaa
