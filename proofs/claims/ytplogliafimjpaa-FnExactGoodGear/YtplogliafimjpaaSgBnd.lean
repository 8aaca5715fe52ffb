/- Both sides tell a gear's bound. -/
import Derived.Test.YtplogliafimjpaaSgGood
namespace Go.Proofs.Ytplogliafimjpaa
open Go.RowKit

set_option maxHeartbeats 1000000 in
theorem sBound (g : Gr) (w : World) :
    Calls Try.prog 9 #[grv g] w fun e w' => e = .returned (.int .i64 (bndG g)) ∧ Below w.heap.size w w' := by
  have z := bx_new (w := w) (grs g) 25 rfl
  have hx : Below w.heap.size w (w.alloc (.cells (grs g).toArray 25)) := (Below.refl _ _).alloc (Nat.le_refl _) _
  have kG := fun w2 => sGoodG g w2
  cases e : goodG g with
  | false =>
    rw [e] at kG
    go_enter Try.func9, Try.ntmps9
    go_wp2_with (first | (go_at_call 6; refine (kG _).mono ?_; rintro e w' ⟨rfl, hb⟩) | fail)
    go_ret
    exact ⟨ret_int (by unfold bndG; rw [if_neg (by rw [e]; decide)]), hx.trans (hb.mono hx.size)⟩
  | true =>
    rw [e] at kG
    have k := goodG_t e
    have hR : ¬ g.R = 0 := by omega
    go_enter Try.func9, Try.ntmps9
    go_wp2_with fail
    refine (kG _).mono ?_
    rintro e w' ⟨rfl, hb⟩
    obtain ⟨x0, x1, x2, x3, x4⟩ := gear_at (z.on hb)
    go_wp2_with fail
    go_quiet (fail)
    go_wp2
    go_ret
    refine ⟨ret_int ?_, below_dr (hx.trans (hb.mono hx.size)) _⟩
    unfold bndG
    rw [if_pos (by assumption)]
    have h1 : 0 ≤ (g.M + g.R - 1) / g.R := Int.ediv_nonneg (by omega) (by omega)
    have h2 : (g.M + g.R - 1) / g.R ≤ g.M + g.R - 1 := Int.ediv_le_self _ (by omega)
    generalize (g.M + g.R - 1) / g.R = y at *
    unfold wrap64; omega

set_option maxHeartbeats 1000000 in
theorem iBound (g : Gr) (w : World) :
    Calls Try.prog 10 #[grv g] w fun e w' => e = .returned (.int .i64 (bndG g)) ∧ Below w.heap.size w w' := by
  have z := bx_new (w := w) (grs g) 25 rfl
  have hx : Below w.heap.size w (w.alloc (.cells (grs g).toArray 25)) := (Below.refl _ _).alloc (Nat.le_refl _) _
  have kG := fun w2 => iGoodG g w2
  cases e : goodG g with
  | false =>
    rw [e] at kG
    go_enter Try.func10, Try.ntmps10
    go_wp2_with (first | (go_at_call 8; refine (kG _).mono ?_; rintro e w' ⟨rfl, hb⟩) | fail)
    go_ret
    exact ⟨ret_int (by unfold bndG; rw [if_neg (by rw [e]; decide)]), hx.trans (hb.mono hx.size)⟩
  | true =>
    rw [e] at kG
    have k := goodG_t e
    have hR : ¬ g.R = 0 := by omega
    go_enter Try.func10, Try.ntmps10
    go_wp2_with fail
    refine (kG _).mono ?_
    rintro e w' ⟨rfl, hb⟩
    obtain ⟨x0, x1, x2, x3, x4⟩ := gear_at (z.on hb)
    go_wp2_with fail
    go_quiet (fail)
    go_wp2
    go_ret
    refine ⟨ret_int ?_, below_dr (hx.trans (hb.mono hx.size)) _⟩
    unfold bndG
    rw [if_pos (by assumption)]
    have h1 : 0 ≤ (g.M + g.R - 1) / g.R := Int.ediv_nonneg (by omega) (by omega)
    have h2 : (g.M + g.R - 1) / g.R ≤ g.M + g.R - 1 := Int.ediv_le_self _ (by omega)
    generalize (g.M + g.R - 1) / g.R = y at *
    unfold wrap64; omega

end Go.Proofs.Ytplogliafimjpaa
