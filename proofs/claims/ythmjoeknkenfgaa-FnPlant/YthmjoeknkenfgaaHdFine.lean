/- What FnPlant asks of a run of a plant. -/
import Derived.Test.YthmjoeknkenfgaaHdPlS
import Derived.Deep.RegionWith
namespace Go.Proofs.Ythmjoeknkenfgaa
open Go.RowKit

def absI (n : Int) : Int := if n < 0 then -n else n
set_option maxHeartbeats 400000 in
theorem l4Abs_small (n : Int) (w : World) (h : -4000000 ≤ n ∧ n ≤ 4000000) :
    Calls Try.prog 55 #[.int .i64 n] w fun e w' => e = .returned (.int .i64 (absI n)) ∧ w' = w := by
  by_cases hz : n < 0
  · go_enter Try.func55, Try.ntmps55
    go_wp2
    go_ret
    exact ⟨ret_int (by unfold absI; rw [if_pos hz]), rfl⟩
  · go_enter Try.func55, Try.ntmps55
    go_wp2
    go_ret
    exact ⟨ret_int (by unfold absI; rw [if_neg (by omega)]), rfl⟩
theorem out_in {l : Lp} {m : Int} {f : Nat → Int} {n k : Nat} (e : okP l m f n = true) (hk : k < n) : goodL l = true ∧ -l.M ≤ oupF l m f k ∧ oupF l m f k ≤ l.M := by
  have h1 := okP_le (k + 1) hk e
  unfold okP at h1
  have h2 := (Bool.and_eq_true_iff.1 h1).2
  have h3 := good_step h2
  obtain ⟨g1, g2, -⟩ := goodH_p h3
  exact ⟨g1, g2.2.1⟩

set_option maxHeartbeats 4000000 in
set_option maxRecDepth 20000 in
theorem plantFine_any (l : Lp) (m : Int) (x y : Option Addr) (n c d : Nat) (f : Nat → Int) (w : World) (hb : plB l m n f = true) (hX : IL w x n (plcF l m f)) (hY : IL w y n (oupF l m f)) :
    Calls Try.prog 23 #[lv l, .int .i64 m, .slice x n c, .slice y n d, .int .i64 (n : Int)] w fun e w' => e = .returned (.bool true) ∧ Below w.heap.size w w' := by
  unfold plB massB at hb
  simp only [Bool.and_eq_true, decide_eq_true_eq] at hb
  obtain ⟨⟨⟨hg, hm⟩, hn⟩, hok⟩ := hb
  have HOK : Hid (okP l m f n = true) := hok
  clear hok
  have z0 := bx_new (b := w.heap.size) (w := w) (lvs l) 34 rfl
  have hB0 : Below w.heap.size w (w.alloc (lvo l)) := below_al (Below.refl _ _)
  go_enter Try.func23, Try.ntmps23
  go_wp2_with fail
  generalize w.alloc (lvo l) = w0 at z0 hB0 ⊢
  go_loopw [11, 12, 27] (fun sp ss i wr => ∃ k : Nat, k ≤ n ∧ i = .int .i64 k ∧ sp = .int .i64 (pnN l m f k).p ∧ ss = .int .i64 (pnN l m f k).s ∧ Bx wr w.heap.size (lvs l) ∧ Below w.heap.size w wr) (fun _ _ i _ => n - (intOf i).toNat)
  case atStart => exact ⟨0, Nat.zero_le _, rfl, rfl, rfl, z0, hB0⟩
  case round =>
    obtain ⟨k, hk, rfl, rfl, rfl, c0, hB⟩ := hrel
    clear z0 hB0
    by_cases hlt : k < n
    · have j3 : (k : Int) < (n : Int) := by omega
      obtain ⟨bx, ox, rfl, hbx, hcx⟩ := hX (by omega)
      obtain ⟨by_, oy, rfl, hby, hcy⟩ := hY (by omega)
      have q0 : wr.cell? ⟨bx, ox + k, none⟩ = some (.int .i64 (plcF l m f k)) := (hB.cell (p := ⟨bx, _, none⟩) hbx).trans (hcx k hlt)
      have q1 : wr.cell? ⟨by_, oy + k, none⟩ = some (.int .i64 (oupF l m f k)) := (hB.cell (p := ⟨by_, _, none⟩) hby).trans (hcy k hlt)
      obtain ⟨-, ho1, ho2⟩ := out_in HOK.out hlt
      obtain ⟨gP, gI, gD, gS, gM, gW, gL⟩ := goodL_p hg
      have es : (pnN l m f (k + 1)).s = cutI (wrap64 ((pnN l m f k).s + dnI (oupF l m f k) m)) (-1000000) 1000000 := rfl
      have ep : (pnN l m f (k + 1)).p = cutI (wrap64 ((pnN l m f k).p + (pnN l m f (k + 1)).s)) (-1000000) 1000000 := rfl
      have eq2 : plcF l m f k = (pnN l m f (k + 1)).p := rfl
      rw [eq2] at q0
      clear eq2 hcx hcy hX hY gP gI gD gS gW gL
      generalize oupF l m f k = o at q1 ho1 ho2 es
      have hAb := fun w => l4Abs_small o w (by omega)
      have hab : absI o ≤ l.M := by unfold absI; split <;> omega
      have hab0 : 0 ≤ absI o := by unfold absI; split <;> omega
      generalize absI o = ab at hAb hab hab0
      have hD := fun w => l13Down_any o m w (by omega)
      generalize dnI o m = dd at hD es
      have hC1 := fun w => l13Cut_any (wrap64 ((pnN l m f k).s + dd)) (-1000000) 1000000 w
      rw [← es] at hC1
      have hC2 := fun w => l13Cut_any (wrap64 ((pnN l m f k).p + (pnN l m f (k + 1)).s)) (-1000000) 1000000 w
      rw [← ep] at hC2
      have HP : Hid ((pnN l m f (k + 1)).p = (pnN l m f (k + 1)).p) := rfl
      clear es ep HP
      generalize hp2 : (pnN l m f (k + 1)).p = p2 at hC2 q0
      generalize hs2 : (pnN l m f (k + 1)).s = s2 at hC1 hC2
      have HP2 : Hid ((pnN l m f (k + 1)).p = p2) := hp2
      have HS2 : Hid ((pnN l m f (k + 1)).s = s2) := hs2
      clear hp2 hs2
      generalize (pnN l m f k).p = xp at hC2 ⊢
      generalize (pnN l m f k).s = xs at hC1 ⊢
      have m4 := (loop_at c0).2.2.2.2.1
      go_wp2_with fail
      go_region_with (first | (go_at_call 55; refine (hAb _).mono ?_; rintro e w4 ⟨rfl, hw'⟩; subst hw') | (fail))
      all_goals
        have q2 : wr.drew.cell? ⟨bx, ox + k, none⟩ = some (.int .i64 p2) := q0
        have d0 := c0.on (Below.refl _ _).drew
        have hB2 := hB.drew
        generalize wr.drew = w5 at q2 d0 hB2 ⊢
        go_wp2_with fail
        refine (hD _).mono ?_
        rintro e w6 ⟨rfl, hw'⟩
        subst hw'
        go_wp2_with fail
        refine (hC1 _).mono ?_
        rintro e w6 ⟨rfl, hw'⟩
        subst hw'
        go_wp2_with fail
        refine (hC2 _).mono ?_
        rintro e w6 ⟨rfl, hw'⟩
        subst hw'
        go_wp2
        go_roundw
        case rel => exact ⟨k + 1, by omega, by go_num, by rw [HP2.out], by rw [HS2.out], d0, hB2⟩
        case measure => simp [intOf]; omega
    · go_wp2
      go_ret
      exact ⟨rfl, hB⟩
end Go.Proofs.Ythmjoeknkenfgaa
