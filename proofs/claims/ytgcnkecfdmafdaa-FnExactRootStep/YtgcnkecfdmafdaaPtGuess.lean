/- The first guesses, their values; the contracts of the functions that lay them, and of the copy of complex numbers to points. -/
import Derived.Test.YtgcnkecfdmafdaaPtRow
import Derived.Deep.AppendLies
import Derived.Laws.OwnMore
namespace Go.Proofs.Ytgcnkecfdmafdaa
open Go.RowKit

/-- the guesses, as operations give them -/
def gC : Nat → Option Nat × Option Nat
  | 0 => (some 4607182418800017408, some 0)
  | k + 1 => (mR (gC k).1 (gC k).2 (some 4600877379321698714) (some 4606281698874543309), mI (gC k).1 (gC k).2 (some 4600877379321698714) (some 4606281698874543309))
def gX (k : Nat) : Nat := (gC k).1.getD 0
def gY (k : Nat) : Nat := (gC k).2.getD 0
theorem g_all : ∀ k, k < 10 → (gC k).1 = some (gX k) ∧ (gC k).2 = some (gY k) ∧ plain (gX k) = gX k ∧ plain (gY k) = gY k ∧ gX k < 18446744073709551616 ∧ gY k < 18446744073709551616 := by decide +kernel
theorem g_step {k r i : Nat} (hk : k + 1 < 10) (h : ∀ oa ob' oc od, Rep oa (gX k) → Rep ob' (gY k) → Rep oc 4600877379321698714 → Rep od 4606281698874543309 → Rep (mR oa ob' oc od) r ∧ Rep (mI oa ob' oc od) i) : r = gX (k + 1) ∧ i = gY (k + 1) := by
  obtain ⟨a1, a2, -, -, a5, a6⟩ := g_all k (by omega)
  obtain ⟨b1, b2, -, -, -, -⟩ := g_all (k + 1) hk
  obtain ⟨h1, h2⟩ := h (some (gX k)) (some (gY k)) (some 4600877379321698714) (some 4606281698874543309) (rep_of a5) (rep_of a6) (rep_of (by decide)) (rep_of (by decide))
  rw [← a1, ← a2] at h1 h2
  exact ⟨h1.2.2 _ b1, h2.2.2 _ b2⟩

theorem infoC : (Try.prog.info? 54).map (fun i => (i.zero, i.size, i.bytes)) = some (some (.complex .f64 0 0), 1, 16) := by kernel_rfl
theorem infoP : (Try.prog.info? 25).map (fun i => (i.zero, i.size, i.bytes)) = some (some (.agg #[.float .f64 0, .float .f64 0]), 2, 16) := by kernel_rfl

/-- a row of complex numbers -/
def cRow (X Y : Nat → Nat) (i : Nat) : Value := .complex .f64 (X i) (Y i)
@[go_sem] theorem run_store_complex {P : Program} {w : World} {a : Addr} {m : Mode} (k : FloatKind) (x y : Nat) : (store a (.complex k x y) m).run P w = stored P w a (.complex k x y) m := run_store P w a _ m rfl

theorem rowIs_below {w w' : World} {B b n : Nat} {t : TypeId} {f : Nat → Value} (h : w.rowIs b t n f) (k : Below B w w') (hb : b < B) : w'.rowIs b t n f := h.of_block (k.block b hb)

set_option maxHeartbeats 1000000 in
theorem firstComplex_any (n : Nat) (w : World) (h1 : 1 ≤ n) (h2 : n ≤ 10) :
    Calls Try.prog 47 #[.int .i64 (n : Int)] w fun e w' => e = .returned (.slice (some ⟨w.heap.size, 0, none⟩) n n) ∧ w'.rowIs w.heap.size 54 n (cRow gX gY) ∧ Below w.heap.size w w' := by
  have hmk := run_make_row' (P := Try.prog) 65 54 (.complex .f64 0 0) 16 Try.underlying65 infoC rfl .i64 .i64 n (by omega) (by omega)
  have hr0 : (w.alloc (.cells (madeCells #[.complex .f64 0 0] n) 54)).rowIs w.heap.size 54 n (fun _ => .complex .f64 0 0) := World.rowIs_made w (.complex .f64 0 0) n 54
  have hb0 : Below w.heap.size w (w.alloc (.cells (madeCells #[.complex .f64 0 0] n) 54)) := (Below.refl _ _).alloc (Nat.le_refl _) _
  have hz := hr0.cell (i := 0) (by omega)
  have hzf := hr0.frozen 0
  have i1 : (0 : Int) < (n : Int) := by omega
  have HR : Hid ((w.alloc (.cells (madeCells #[.complex .f64 0 0] n) 54)).rowIs w.heap.size 54 n (fun _ => .complex .f64 0 0)) := hr0
  clear hr0
  go_enter Try.func47, Try.ntmps47
  go_wp2
  clear hmk
  go_loopw [11] (fun i wr => ∃ k : Nat, k + 1 ≤ n ∧ i = .int .i64 k ∧ (∃ f, wr.rowIs w.heap.size 54 n f ∧ ∀ j, j ≤ k → f j = cRow gX gY j) ∧ Below w.heap.size w wr) (fun i _ => n - (intOf i).toNat)
  case atStart =>
    have h := HR.out.set 0 (.complex .f64 4607182418800017408 0)
    have h' : (w.alloc (.cells ((madeCells #[.complex .f64 0 0] n).setIfInBounds 0 (.complex .f64 4607182418800017408 0)) 54)).rowIs w.heap.size 54 n (fun j => if j = 0 then .complex .f64 4607182418800017408 0 else .complex .f64 0 0) := by simpa [go_sem] using h
    refine ⟨0, h1, rfl, ⟨_, h', fun j hj => ?_⟩, (Below.refl _ _).alloc (Nat.le_refl _) _⟩
    have : j = 0 := by omega
    subst this
    rw [if_pos rfl]
    rfl
  case round =>
    obtain ⟨k, hk, rfl, ⟨f, hrow, hf⟩, hB⟩ := hrel
    clear HR hb0 hz hzf
    by_cases hlt : k + 1 < n
    · have c0 : wr.cell? ⟨w.heap.size, k, none⟩ = some (.complex .f64 (gX k) (gY k)) := by rw [hrow.cell (by omega), hf k (Nat.le_refl _)]; rfl
      have c1 := hrow.cell (i := k + 1) hlt
      have z1 := hrow.frozen (k + 1)
      have j0 : (k : Int) < (n : Int) := by omega
      have j1 : (k : Int) + 1 < (n : Int) := by omega
      have j2 : (k : Int) < (n : Int) - 1 := by omega
      go_wp2_with (go_at_call 36; refine (mulComplex_any _ _ _ _ _).mono ?_; rintro e w1 ⟨r, i, rfl, hrep, n1, hn1⟩; obtain ⟨rfl, rfl⟩ := g_step (by omega) hrep; have c2 : w1.cell? ⟨w.heap.size, k + 1, none⟩ = some (f (k + 1)) := (by rw [hn1]; exact c1); have z2 : w1.frozen? ⟨w.heap.size, k + 1, none⟩ = false := (by rw [hn1]; exact z1); have hrow1 : w1.rowIs w.heap.size 54 n f := (by rw [hn1]; exact hrow); have hB1 : Below w.heap.size w w1 := (by rw [hn1]; exact below_dr hB n1); clear hrep hn1 c0 c1 z1 hrow hB)
      refine ⟨⟨k + 1, by omega, by go_num, ⟨_, hrow1.set (k + 1) _, fun j hj => ?_⟩, hB1.setCell (p := ⟨_, _, none⟩) (Nat.le_refl _) _⟩, by simp [intOf]; omega⟩
      by_cases e : j = k + 1
      · subst e; rw [if_pos rfl]; rfl
      · rw [if_neg e]; exact hf j (by omega)
    · have j2 : ¬ (k : Int) < (n : Int) - 1 := by omega
      go_wp2
      go_ret
      exact ⟨rfl, hrow.congr fun i hi => hf i (by omega), hB⟩
end Go.Proofs.Ytgcnkecfdmafdaa
