/- Which gains are good, as the program says it. -/
import Derived.Test.YthmjoeknkenfgabGnBase
import Derived.Deep.RegionWith
namespace Go.Proofs.Ythmjoeknkenfgab
open Go.RowKit

def stepG (F : Nat → Int) (k : Nat) : Bool := goodL (lpAt F k) && (decide (k = 0) || decide (F ((k - 1) * 8) < F (k * 8)))
def okG (F : Nat → Int) : Nat → Bool
  | 0 => true
  | k + 1 => okG F k && stepG F k
theorem okG_le {F : Nat → Int} {n : Nat} (k : Nat) (hk : k ≤ n) (e : okG F n = true) : okG F k = true := by
  induction n with
  | zero => obtain rfl : k = 0 := by omega
            rfl
  | succ m ih =>
    rcases Nat.lt_or_ge k (m + 1) with h1 | h1
    · exact ih (by omega) (by unfold okG at e; exact (Bool.and_eq_true_iff.1 e).1)
    · obtain rfl : k = m + 1 := by omega
      exact e
theorem okG_no {F : Nat → Int} {n k : Nat} (hk : k < n) (e : stepG F k = false) : okG F n = false := by
  cases e2 : okG F n
  · rfl
  · have := okG_le (k + 1) hk e2
    unfold okG at this
    rw [e, Bool.and_false] at this
    cases this
def goodsB (F : Nat → Int) (n : Nat) : Bool := decide (n ≤ 60) && okG F n
abbrev gvo (x : Int) (l : Lp) : Obj := .cells (gvs x l).toArray 64
theorem keepT {W w2 : World} {b p q : Nat} {x y : Int} {l : Lp} (c : Bx W b (gvs x l)) (hp : W.cell? ⟨p, q, none⟩ = some (.int .i64 y)) (k : Below W.heap.size W w2) : (w2.cell? ⟨b, 0, none⟩ = some (.int .i64 x) ∧ w2.cell? ⟨b, 1, none⟩ = some (.int .i64 l.P) ∧ w2.cell? ⟨b, 2, none⟩ = some (.int .i64 l.I) ∧ w2.cell? ⟨b, 3, none⟩ = some (.int .i64 l.D) ∧ w2.cell? ⟨b, 4, none⟩ = some (.int .i64 l.S) ∧ w2.cell? ⟨b, 5, none⟩ = some (.int .i64 l.M) ∧ w2.cell? ⟨b, 6, none⟩ = some (.int .i64 l.W) ∧ w2.cell? ⟨b, 7, none⟩ = some (.int .i64 l.L)) ∧ w2.cell? ⟨p, q, none⟩ = some (.int .i64 y) :=
  ⟨gain_at (c.on k), (k.cell (p := ⟨p, q, none⟩) (World.block_lt_of_cell? _ _ hp)).trans hp⟩

theorem gain_at2 {W w2 : World} {b : Nat} {x : Int} {l : Lp} (c : Bx W b (gvs x l)) (k : Below W.heap.size W w2) : (w2.cell? ⟨b, 0, none⟩ = some (.int .i64 x) ∧ w2.cell? ⟨b, 1, none⟩ = some (.int .i64 l.P) ∧ w2.cell? ⟨b, 2, none⟩ = some (.int .i64 l.I) ∧ w2.cell? ⟨b, 3, none⟩ = some (.int .i64 l.D) ∧ w2.cell? ⟨b, 4, none⟩ = some (.int .i64 l.S) ∧ w2.cell? ⟨b, 5, none⟩ = some (.int .i64 l.M) ∧ w2.cell? ⟨b, 6, none⟩ = some (.int .i64 l.W) ∧ w2.cell? ⟨b, 7, none⟩ = some (.int .i64 l.L)) := gain_at (c.on k)

set_option maxHeartbeats 4000000 in
set_option maxRecDepth 20000 in
theorem goodGains_in (a : Option Addr) (n cap : Nat) (F : Nat → Int) (w : World) (hn : n ≤ 60) (hA : IL w a (n * 8) F) :
    Calls Try.prog 40 #[.slice a n cap] w fun e w' => e = .returned (.bool (okG F n)) ∧ Below w.heap.size w w' := by
  generalize hR : okG F n = R
  have HR : Hid (okG F n = R) := hR
  clear hR
  have j1 : (n : Int) ≤ 60 := by omega
  go_enter Try.func40, Try.ntmps40
  go_wp2_with fail
  go_loopw [10] (fun i wr => ∃ k : Nat, k ≤ n ∧ i = .int .i64 k ∧ okG F k = true ∧ Below w.heap.size w wr) (fun i _ => n - (intOf i).toNat)
  case atStart => exact ⟨0, Nat.zero_le _, rfl, rfl, Below.refl _ _⟩
  case round =>
    obtain ⟨k, hk, rfl, hok, hB⟩ := hrel
    have HOK : Hid (okG F k = true) := hok
    clear hok
    by_cases hlt : k < n
    · have hlt0 := hlt
      obtain ⟨ba, oa, rfl, hba, y0, y1, y2, y3, y4, y5, y6, y7⟩ := il_eight (hA.below hB) hlt
      have hpv : 0 < k → wr.cell? ⟨ba, oa + (k - 1) * 8, none⟩ = some (.int .i64 (F ((k - 1) * 8))) := fun hk0 => by
        obtain ⟨b2, o2, e2, hb2, z0, -⟩ := il_eight (hA.below hB) (show k - 1 < n by omega)
        cases e2
        exact z0
      have j3 : (k : Int) < (n : Int) := by omega
      have hA0 : IL w (some ⟨ba, oa, none⟩) (n * 8) F := hA
      clear hA
      have hG := fun w => implGoodL (lpAt F k) w
      generalize hL : lpAt F k = L at hG
      have HL : Hid (lpAt F k = L) := hL
      have eP : F (k * 8 + 1) = L.P := by rw [← hL]; rfl
      have eI : F (k * 8 + 2) = L.I := by rw [← hL]; rfl
      have eD : F (k * 8 + 3) = L.D := by rw [← hL]; rfl
      have eS : F (k * 8 + 4) = L.S := by rw [← hL]; rfl
      have eM : F (k * 8 + 5) = L.M := by rw [← hL]; rfl
      have eW : F (k * 8 + 6) = L.W := by rw [← hL]; rfl
      have eL : F (k * 8 + 7) = L.L := by rw [← hL]; rfl
      rw [eP] at y1
      rw [eI] at y2
      rw [eD] at y3
      rw [eS] at y4
      rw [eM] at y5
      rw [eW] at y6
      rw [eL] at y7
      clear hL eP eI eD eS eM eW eL
      generalize hX : F (k * 8) = X at y0
      have HX : Hid (F (k * 8) = X) := hX
      generalize hYY : F ((k - 1) * 8) = Y at hpv
      have HYY : Hid (F ((k - 1) * 8) = Y) := hYY
      generalize hst : stepG F k = st
      have HST : Hid (stepG F k = st) := hst
      clear hX hYY hst
      have cg := bx_new (b := wr.heap.size) (w := wr) (gvs X L) 64 rfl
      have hb5 : Below wr.heap.size wr (wr.alloc (gvo X L)) := (Below.refl _ _).alloc (Nat.le_refl _) _
      have hp5 : 0 < k → (wr.alloc (gvo X L)).cell? ⟨ba, oa + (k - 1) * 8, none⟩ = some (.int .i64 Y) := fun h0 => (hb5.cell (p := ⟨ba, _, none⟩) hba).trans (hpv h0)
      have HPR : Hid (0 < k → (wr.alloc (gvo X L)).cell? ⟨ba, oa + (k - 1) * 8, none⟩ = some (.int .i64 Y)) := hp5
      clear hp5 hpv
      go_upto_region 6 with fail
      have hB5 := stepA hB hb5
      clear y0 y1 y2 y3 y4 y5 y6 y7 hb5 hB
      generalize wr.alloc (gvo X L) = w5 at cg HPR hB5 ⊢
      generalize wr.heap.size = N at cg ⊢
      go_upto_region 6 with fail
      have hw0 := Below.refl w5.heap.size w5
      go_cut [33] from 15 to 33 (fun sx wx => sx = .bool (!st) ∧ Below w5.heap.size w5 wx)
      case first =>
        cases hg : goodL L with
        | false =>
          rw [hg] at hG
          obtain ⟨v0, v1, v2, v3, v4, v5, v6, v7⟩ := gain_at cg
          refine wp_region_any (by kernel_rfl) ?_
          change wpAny _ _ _ _ _ _ _ (World.drew _)
          refine wpAny_take (i := 0) (v := ?_) rfl (by kernel_rfl) (by kernel_rfl) (by kernel_rfl) (fun _ _ _ h => h) (Or.inl ⟨by kernel_rfl, by intro w; go_simp; try (with_reducible rfl)⟩) ?_
          simp [Act.put]
          refine wpAny_ready (rs := [1]) (by kernel_rfl) (by simp) ?_
          refine AllReady.cons rfl (fun K hK => ?_) AllReady.nil
          go_simp
          refine hK _ _ ?_
          clear hK K
          refine wpAny_ready (rs := [2]) (by kernel_rfl) (by simp) ?_
          refine AllReady.cons rfl (fun K hK => ?_) AllReady.nil
          go_simp
          go_wp2_with (first | (go_at_call 42; refine (hG _).mono ?_; rintro e w6 ⟨rfl, hbn⟩; have hw1 := stepA hw0.drew hbn; clear hbn; obtain ⟨u0, u1, u2, u3, u4, u5, u6, u7⟩ := gain_at (cg.on hw1)) | (fail))
          refine wpAny_take (i := 3) (v := ?_) rfl (by kernel_rfl) (by kernel_rfl) (by kernel_rfl) (fun _ _ _ h => h) (Or.inl ⟨by kernel_rfl, by intro w; go_simp; try (with_reducible rfl)⟩) ?_
          simp [Act.put]
          refine wpAny_take (i := 4) (v := ?_) rfl (by kernel_rfl) (by kernel_rfl) (by kernel_rfl) (fun _ _ _ h => h) (Or.inl ⟨by kernel_rfl, by intro w; go_simp; try (with_reducible rfl)⟩) ?_
          simp [Act.put]
          refine wpAny_take (i := 5) (v := undef) rfl (by kernel_rfl) (by kernel_rfl) (by kernel_rfl) (fun _ _ _ h => h) (Or.inr ⟨by kernel_rfl, rfl⟩) ?_
          simp [Act.put]
          refine wpAny_take (i := 6) (v := undef) rfl (by kernel_rfl) (by kernel_rfl) (by kernel_rfl) (fun _ _ _ h => h) (Or.inr ⟨by kernel_rfl, rfl⟩) ?_
          simp [Act.put]
          refine wpAny_take (i := 7) (v := undef) rfl (by kernel_rfl) (by kernel_rfl) (by kernel_rfl) (fun _ _ _ h => h) (Or.inr ⟨by kernel_rfl, rfl⟩) ?_
          simp [Act.put]
          refine wpAny_take (i := 8) (v := undef) rfl (by kernel_rfl) (by kernel_rfl) (by kernel_rfl) (fun _ _ _ h => h) (Or.inr ⟨by kernel_rfl, rfl⟩) ?_
          simp [Act.put]
          refine wpAny_take (i := 9) (v := undef) rfl (by kernel_rfl) (by kernel_rfl) (by kernel_rfl) (fun _ _ _ h => h) (Or.inr ⟨by kernel_rfl, rfl⟩) ?_
          simp [Act.put]
          refine wpAny_take (i := 10) (v := undef) rfl (by kernel_rfl) (by kernel_rfl) (by kernel_rfl) (fun _ _ _ h => h) (Or.inr ⟨by kernel_rfl, rfl⟩) ?_
          simp [Act.put]
          refine wpAny_take (i := 11) (v := undef) rfl (by kernel_rfl) (by kernel_rfl) (by kernel_rfl) (fun _ _ _ h => h) (Or.inr ⟨by kernel_rfl, rfl⟩) ?_
          simp [Act.put]
          refine wpAny_take (i := 12) (v := undef) rfl (by kernel_rfl) (by kernel_rfl) (by kernel_rfl) (fun _ _ _ h => h) (Or.inr ⟨by kernel_rfl, rfl⟩) ?_
          simp [Act.put]
          refine wpAny_take (i := 13) (v := undef) rfl (by kernel_rfl) (by kernel_rfl) (by kernel_rfl) (fun _ _ _ h => h) (Or.inr ⟨by kernel_rfl, rfl⟩) ?_
          simp [Act.put]
          refine wpAny_take (i := 14) (v := undef) rfl (by kernel_rfl) (by kernel_rfl) (by kernel_rfl) (fun _ _ _ h => h) (Or.inr ⟨by kernel_rfl, rfl⟩) ?_
          simp [Act.put]
          refine wpAny_take (i := 15) (v := undef) rfl (by kernel_rfl) (by kernel_rfl) (by kernel_rfl) (fun _ _ _ h => h) (Or.inr ⟨by kernel_rfl, rfl⟩) ?_
          simp [Act.put]
          refine wpAny_take (i := 16) (v := undef) rfl (by kernel_rfl) (by kernel_rfl) (by kernel_rfl) (fun _ _ _ h => h) (Or.inr ⟨by kernel_rfl, rfl⟩) ?_
          simp [Act.put]
          refine wpAny_take (i := 17) (v := undef) rfl (by kernel_rfl) (by kernel_rfl) (by kernel_rfl) (fun _ _ _ h => h) (Or.inr ⟨by kernel_rfl, rfl⟩) ?_
          simp [Act.put]
          refine wpAny_take (i := 18) (v := ?_) rfl (by kernel_rfl) (by kernel_rfl) (by kernel_rfl) (fun _ _ _ h => h) (Or.inl ⟨by kernel_rfl, by intro w; go_simp; try (with_reducible rfl)⟩) ?_
          simp [Act.put]
          refine wpAny_done (by kernel_rfl) ?_ _
          go_wp2_with fail
          go_meet
          case rel => exact ⟨by rw [← HST.out]; unfold stepG; rw [← HL.out] at hg; rw [hg]; rfl, hw1⟩
        | true =>
          rw [hg] at hG
          by_cases hk0 : k = 0
          · subst hk0
            have i0 : ¬ (0 : Int) < ((0 : Nat) : Int) := by omega
            obtain ⟨v0, v1, v2, v3, v4, v5, v6, v7⟩ := gain_at cg
            refine wp_region_any (by kernel_rfl) ?_
            change wpAny _ _ _ _ _ _ _ (World.drew _)
            refine wpAny_take (i := 0) (v := ?_) rfl (by kernel_rfl) (by kernel_rfl) (by kernel_rfl) (fun _ _ _ h => h) (Or.inl ⟨by kernel_rfl, by intro w; go_simp; try (with_reducible rfl)⟩) ?_
            simp [Act.put]
            refine wpAny_ready (rs := [1]) (by kernel_rfl) (by simp) ?_
            refine AllReady.cons rfl (fun K hK => ?_) AllReady.nil
            go_simp
            refine hK _ _ ?_
            clear hK K
            refine wpAny_ready (rs := [2]) (by kernel_rfl) (by simp) ?_
            refine AllReady.cons rfl (fun K hK => ?_) AllReady.nil
            go_simp
            go_wp2_with (first | (go_at_call 42; refine (hG _).mono ?_; rintro e w6 ⟨rfl, hbn⟩; have hw1 := stepA hw0.drew hbn; clear hbn; obtain ⟨u0, u1, u2, u3, u4, u5, u6, u7⟩ := gain_at (cg.on hw1)) | (fail))
            refine wpAny_take (i := 3) (v := ?_) rfl (by kernel_rfl) (by kernel_rfl) (by kernel_rfl) (fun _ _ _ h => h) (Or.inl ⟨by kernel_rfl, by intro w; go_simp; try (with_reducible rfl)⟩) ?_
            simp [Act.put]
            refine wpAny_take (i := 4) (v := ?_) rfl (by kernel_rfl) (by kernel_rfl) (by kernel_rfl) (fun _ _ _ h => h) (Or.inl ⟨by kernel_rfl, by intro w; go_simp; try (with_reducible rfl)⟩) ?_
            simp [Act.put]
            refine wpAny_take (i := 5) (v := ?_) rfl (by kernel_rfl) (by kernel_rfl) (by kernel_rfl) (fun _ _ _ h => h) (Or.inl ⟨by kernel_rfl, by intro w; go_simp; try (with_reducible rfl)⟩) ?_
            simp [Act.put]
            refine wpAny_take (i := 6) (v := ?_) rfl (by kernel_rfl) (by kernel_rfl) (by kernel_rfl) (fun _ _ _ h => h) (Or.inl ⟨by kernel_rfl, by intro w; go_simp; try (with_reducible rfl)⟩) ?_
            simp [Act.put]
            refine wpAny_take (i := 7) (v := ?_) rfl (by kernel_rfl) (by kernel_rfl) (by kernel_rfl) (fun _ _ _ h => h) (Or.inl ⟨by kernel_rfl, by intro w; go_simp; try (with_reducible rfl)⟩) ?_
            simp [Act.put]
            refine wpAny_take (i := 8) (v := undef) rfl (by kernel_rfl) (by kernel_rfl) (by kernel_rfl) (fun _ _ _ h => h) (Or.inr ⟨by kernel_rfl, rfl⟩) ?_
            simp [Act.put]
            refine wpAny_take (i := 9) (v := undef) rfl (by kernel_rfl) (by kernel_rfl) (by kernel_rfl) (fun _ _ _ h => h) (Or.inr ⟨by kernel_rfl, rfl⟩) ?_
            simp [Act.put]
            refine wpAny_take (i := 10) (v := undef) rfl (by kernel_rfl) (by kernel_rfl) (by kernel_rfl) (fun _ _ _ h => h) (Or.inr ⟨by kernel_rfl, rfl⟩) ?_
            simp [Act.put]
            refine wpAny_take (i := 11) (v := undef) rfl (by kernel_rfl) (by kernel_rfl) (by kernel_rfl) (fun _ _ _ h => h) (Or.inr ⟨by kernel_rfl, rfl⟩) ?_
            simp [Act.put]
            refine wpAny_take (i := 12) (v := undef) rfl (by kernel_rfl) (by kernel_rfl) (by kernel_rfl) (fun _ _ _ h => h) (Or.inr ⟨by kernel_rfl, rfl⟩) ?_
            simp [Act.put]
            refine wpAny_take (i := 13) (v := undef) rfl (by kernel_rfl) (by kernel_rfl) (by kernel_rfl) (fun _ _ _ h => h) (Or.inr ⟨by kernel_rfl, rfl⟩) ?_
            simp [Act.put]
            refine wpAny_take (i := 14) (v := undef) rfl (by kernel_rfl) (by kernel_rfl) (by kernel_rfl) (fun _ _ _ h => h) (Or.inr ⟨by kernel_rfl, rfl⟩) ?_
            simp [Act.put]
            refine wpAny_take (i := 15) (v := undef) rfl (by kernel_rfl) (by kernel_rfl) (by kernel_rfl) (fun _ _ _ h => h) (Or.inr ⟨by kernel_rfl, rfl⟩) ?_
            simp [Act.put]
            refine wpAny_take (i := 16) (v := undef) rfl (by kernel_rfl) (by kernel_rfl) (by kernel_rfl) (fun _ _ _ h => h) (Or.inr ⟨by kernel_rfl, rfl⟩) ?_
            simp [Act.put]
            refine wpAny_take (i := 17) (v := ?_) rfl (by kernel_rfl) (by kernel_rfl) (by kernel_rfl) (fun _ _ _ h => h) (Or.inl ⟨by kernel_rfl, by intro w; go_simp; try (with_reducible rfl)⟩) ?_
            simp [Act.put]
            refine wpAny_take (i := 18) (v := ?_) rfl (by kernel_rfl) (by kernel_rfl) (by kernel_rfl) (fun _ _ _ h => h) (Or.inl ⟨by kernel_rfl, by intro w; go_simp; try (with_reducible rfl)⟩) ?_
            simp [Act.put]
            refine wpAny_done (by kernel_rfl) ?_ _
            go_wp2_with fail
            go_meet
            case rel => exact ⟨by rw [← HST.out]; unfold stepG; rw [← HL.out] at hg; rw [hg]; rfl, hw1⟩
          · have i0 : (0 : Int) < (k : Int) := by omega
            have i1 : (0 : Int) ≤ (k : Int) - 1 := by omega
            have i2 : (k : Int) - 1 < (n : Int) := by omega
            have i4 : (1 : Int) ≤ (k : Int) := by omega
            have hkp : 0 < k := by omega
            have hwk : IntKind.i64.wrap ((k : Int) - 1) = (k : Int) - 1 := IntWalk.i64_in _ ⟨by omega, by omega⟩
            have hpr := HPR.out (by omega)
            by_cases hlt2 : Y < X
            · have i3 : ¬ X ≤ Y := by omega
              obtain ⟨v0, v1, v2, v3, v4, v5, v6, v7⟩ := gain_at cg
              refine wp_region_any (by kernel_rfl) ?_
              change wpAny _ _ _ _ _ _ _ (World.drew _)
              refine wpAny_take (i := 0) (v := ?_) rfl (by kernel_rfl) (by kernel_rfl) (by kernel_rfl) (fun _ _ _ h => h) (Or.inl ⟨by kernel_rfl, by intro w; go_simp; try (with_reducible rfl)⟩) ?_
              simp [Act.put]
              refine wpAny_ready (rs := [1]) (by kernel_rfl) (by simp) ?_
              refine AllReady.cons rfl (fun K hK => ?_) AllReady.nil
              go_simp
              refine hK _ _ ?_
              clear hK K
              refine wpAny_ready (rs := [2]) (by kernel_rfl) (by simp) ?_
              refine AllReady.cons rfl (fun K hK => ?_) AllReady.nil
              go_simp
              go_wp2_with (first | (go_at_call 42; refine (hG _).mono ?_; rintro e w6 ⟨rfl, hbn⟩; have hw1 := stepA hw0.drew hbn; clear hbn; obtain ⟨u0, u1, u2, u3, u4, u5, u6, u7⟩ := gain_at (cg.on hw1); have u8 := (hw1.cell (p := ⟨ba, _, none⟩) (World.block_lt_of_cell? _ _ hpr)).trans hpr) | (fail))
              refine wpAny_take (i := 3) (v := ?_) rfl (by kernel_rfl) (by kernel_rfl) (by kernel_rfl) (fun _ _ _ h => h) (Or.inl ⟨by kernel_rfl, by intro w; go_simp; try (with_reducible rfl)⟩) ?_
              simp [Act.put]
              refine wpAny_take (i := 4) (v := ?_) rfl (by kernel_rfl) (by kernel_rfl) (by kernel_rfl) (fun _ _ _ h => h) (Or.inl ⟨by kernel_rfl, by intro w; go_simp; try (with_reducible rfl)⟩) ?_
              simp [Act.put]
              refine wpAny_take (i := 5) (v := ?_) rfl (by kernel_rfl) (by kernel_rfl) (by kernel_rfl) (fun _ _ _ h => h) (Or.inl ⟨by kernel_rfl, by intro w; go_simp; try (with_reducible rfl)⟩) ?_
              simp [Act.put]
              refine wpAny_take (i := 6) (v := ?_) rfl (by kernel_rfl) (by kernel_rfl) (by kernel_rfl) (fun _ _ _ h => h) (Or.inl ⟨by kernel_rfl, by intro w; go_simp; try (with_reducible rfl)⟩) ?_
              simp [Act.put]
              refine wpAny_take (i := 7) (v := ?_) rfl (by kernel_rfl) (by kernel_rfl) (by kernel_rfl) (fun _ _ _ h => h) (Or.inl ⟨by kernel_rfl, by intro w; go_simp; try (with_reducible rfl)⟩) ?_
              simp [Act.put]
              refine wpAny_take (i := 8) (v := ?_) rfl (by kernel_rfl) (by kernel_rfl) (by kernel_rfl) (fun _ _ _ h => h) (Or.inl ⟨by kernel_rfl, by intro w; go_simp; try (with_reducible rfl)⟩) ?_
              simp [Act.put]
              refine wpAny_take (i := 9) (v := ?_) rfl (by kernel_rfl) (by kernel_rfl) (by kernel_rfl) (fun _ _ _ h => h) (Or.inl ⟨by kernel_rfl, by intro w; go_simp; try (with_reducible rfl)⟩) ?_
              simp [Act.put]
              refine wpAny_take (i := 10) (v := ?_) rfl (by kernel_rfl) (by kernel_rfl) (by kernel_rfl) (fun _ _ _ h => h) (Or.inl ⟨by kernel_rfl, by intro w; go_simp; try (with_reducible rfl)⟩) ?_
              simp [Act.put]
              refine wpAny_take (i := 14) (v := ?_) rfl (by kernel_rfl) (by kernel_rfl) (by kernel_rfl) (fun _ _ _ h => h) (Or.inl ⟨by kernel_rfl, by intro w; go_simp; try (with_reducible rfl)⟩) ?_
              simp [Act.put]
              refine wpAny_ready (rs := [11, 15]) (by kernel_rfl) (by simp) ?_
              refine AllReady.cons rfl (fun K hK => ?_) (AllReady.cons rfl (fun K hK => ?_) AllReady.nil)
              · go_simp
                refine hK _ _ ?_
                clear hK K
                refine wpAny_take (i := 12) (v := ?_) rfl (by kernel_rfl) (by kernel_rfl) (by kernel_rfl) (fun _ _ _ h => h) (Or.inl ⟨by kernel_rfl, by intro w; go_simp; try (with_reducible rfl)⟩) ?_
                simp [Act.put]
                refine wpAny_ready (rs := [13, 15]) (by kernel_rfl) (by simp) ?_
                refine AllReady.cons rfl (fun K hK => ?_) (AllReady.cons rfl (fun K hK => ?_) AllReady.nil)
                · go_simp
                  refine hK _ _ ?_
                  clear hK K
                  refine wpAny_ready (rs := [15]) (by kernel_rfl) (by simp) ?_
                  refine AllReady.cons rfl (fun K hK => ?_) AllReady.nil
                  go_simp
                  refine hK _ _ ?_
                  clear hK K
                  refine wpAny_take (i := 16) (v := ?_) rfl (by kernel_rfl) (by kernel_rfl) (by kernel_rfl) (fun _ _ _ h => h) (Or.inl ⟨by kernel_rfl, by intro w; go_simp; try (with_reducible rfl)⟩) ?_
                  simp [Act.put]
                  refine wpAny_take (i := 17) (v := ?_) rfl (by kernel_rfl) (by kernel_rfl) (by kernel_rfl) (fun _ _ _ h => h) (Or.inl ⟨by kernel_rfl, by intro w; go_simp; try (with_reducible rfl)⟩) ?_
                  simp [Act.put]
                  refine wpAny_take (i := 18) (v := ?_) rfl (by kernel_rfl) (by kernel_rfl) (by kernel_rfl) (fun _ _ _ h => h) (Or.inl ⟨by kernel_rfl, by intro w; go_simp; try (with_reducible rfl)⟩) ?_
                  simp [Act.put]
                  refine wpAny_done (by kernel_rfl) ?_ _
                  go_wp2_with fail
                  go_meet
                  case rel => exact ⟨by rw [← HST.out]; unfold stepG; rw [← HL.out] at hg; rw [hg, HX.out, HYY.out, decide_eq_false hk0, decide_eq_true hlt2]; first | rfl | (simp; omega), hw1⟩
                · go_simp
                  refine hK _ _ ?_
                  clear hK K
                  refine wpAny_ready (rs := [13]) (by kernel_rfl) (by simp) ?_
                  refine AllReady.cons rfl (fun K hK => ?_) AllReady.nil
                  go_simp
                  refine hK _ _ ?_
                  clear hK K
                  refine wpAny_take (i := 16) (v := ?_) rfl (by kernel_rfl) (by kernel_rfl) (by kernel_rfl) (fun _ _ _ h => h) (Or.inl ⟨by kernel_rfl, by intro w; go_simp; try (with_reducible rfl)⟩) ?_
                  simp [Act.put]
                  refine wpAny_take (i := 17) (v := ?_) rfl (by kernel_rfl) (by kernel_rfl) (by kernel_rfl) (fun _ _ _ h => h) (Or.inl ⟨by kernel_rfl, by intro w; go_simp; try (with_reducible rfl)⟩) ?_
                  simp [Act.put]
                  refine wpAny_take (i := 18) (v := ?_) rfl (by kernel_rfl) (by kernel_rfl) (by kernel_rfl) (fun _ _ _ h => h) (Or.inl ⟨by kernel_rfl, by intro w; go_simp; try (with_reducible rfl)⟩) ?_
                  simp [Act.put]
                  refine wpAny_done (by kernel_rfl) ?_ _
                  go_wp2_with fail
                  go_meet
                  case rel => exact ⟨by rw [← HST.out]; unfold stepG; rw [← HL.out] at hg; rw [hg, HX.out, HYY.out, decide_eq_false hk0, decide_eq_true hlt2]; first | rfl | (simp; omega), hw1⟩
              · go_simp
                refine hK _ _ ?_
                clear hK K
                refine wpAny_ready (rs := [11]) (by kernel_rfl) (by simp) ?_
                refine AllReady.cons rfl (fun K hK => ?_) AllReady.nil
                go_simp
                refine hK _ _ ?_
                clear hK K
                refine wpAny_take (i := 12) (v := ?_) rfl (by kernel_rfl) (by kernel_rfl) (by kernel_rfl) (fun _ _ _ h => h) (Or.inl ⟨by kernel_rfl, by intro w; go_simp; try (with_reducible rfl)⟩) ?_
                simp [Act.put]
                refine wpAny_ready (rs := [13]) (by kernel_rfl) (by simp) ?_
                refine AllReady.cons rfl (fun K hK => ?_) AllReady.nil
                go_simp
                refine hK _ _ ?_
                clear hK K
                refine wpAny_take (i := 16) (v := ?_) rfl (by kernel_rfl) (by kernel_rfl) (by kernel_rfl) (fun _ _ _ h => h) (Or.inl ⟨by kernel_rfl, by intro w; go_simp; try (with_reducible rfl)⟩) ?_
                simp [Act.put]
                refine wpAny_take (i := 17) (v := ?_) rfl (by kernel_rfl) (by kernel_rfl) (by kernel_rfl) (fun _ _ _ h => h) (Or.inl ⟨by kernel_rfl, by intro w; go_simp; try (with_reducible rfl)⟩) ?_
                simp [Act.put]
                refine wpAny_take (i := 18) (v := ?_) rfl (by kernel_rfl) (by kernel_rfl) (by kernel_rfl) (fun _ _ _ h => h) (Or.inl ⟨by kernel_rfl, by intro w; go_simp; try (with_reducible rfl)⟩) ?_
                simp [Act.put]
                refine wpAny_done (by kernel_rfl) ?_ _
                go_wp2_with fail
                go_meet
                case rel => exact ⟨by rw [← HST.out]; unfold stepG; rw [← HL.out] at hg; rw [hg, HX.out, HYY.out, decide_eq_false hk0, decide_eq_true hlt2]; first | rfl | (simp; omega), hw1⟩
            · have i3 : X ≤ Y := by omega
              obtain ⟨v0, v1, v2, v3, v4, v5, v6, v7⟩ := gain_at cg
              refine wp_region_any (by kernel_rfl) ?_
              change wpAny _ _ _ _ _ _ _ (World.drew _)
              refine wpAny_take (i := 0) (v := ?_) rfl (by kernel_rfl) (by kernel_rfl) (by kernel_rfl) (fun _ _ _ h => h) (Or.inl ⟨by kernel_rfl, by intro w; go_simp; try (with_reducible rfl)⟩) ?_
              simp [Act.put]
              refine wpAny_ready (rs := [1]) (by kernel_rfl) (by simp) ?_
              refine AllReady.cons rfl (fun K hK => ?_) AllReady.nil
              go_simp
              refine hK _ _ ?_
              clear hK K
              refine wpAny_ready (rs := [2]) (by kernel_rfl) (by simp) ?_
              refine AllReady.cons rfl (fun K hK => ?_) AllReady.nil
              go_simp
              go_wp2_with (first | (go_at_call 42; refine (hG _).mono ?_; rintro e w6 ⟨rfl, hbn⟩; have hw1 := stepA hw0.drew hbn; clear hbn; obtain ⟨u0, u1, u2, u3, u4, u5, u6, u7⟩ := gain_at (cg.on hw1); have u8 := (hw1.cell (p := ⟨ba, _, none⟩) (World.block_lt_of_cell? _ _ hpr)).trans hpr) | (fail))
              refine wpAny_take (i := 3) (v := ?_) rfl (by kernel_rfl) (by kernel_rfl) (by kernel_rfl) (fun _ _ _ h => h) (Or.inl ⟨by kernel_rfl, by intro w; go_simp; try (with_reducible rfl)⟩) ?_
              simp [Act.put]
              refine wpAny_take (i := 4) (v := ?_) rfl (by kernel_rfl) (by kernel_rfl) (by kernel_rfl) (fun _ _ _ h => h) (Or.inl ⟨by kernel_rfl, by intro w; go_simp; try (with_reducible rfl)⟩) ?_
              simp [Act.put]
              refine wpAny_take (i := 5) (v := ?_) rfl (by kernel_rfl) (by kernel_rfl) (by kernel_rfl) (fun _ _ _ h => h) (Or.inl ⟨by kernel_rfl, by intro w; go_simp; try (with_reducible rfl)⟩) ?_
              simp [Act.put]
              refine wpAny_take (i := 6) (v := ?_) rfl (by kernel_rfl) (by kernel_rfl) (by kernel_rfl) (fun _ _ _ h => h) (Or.inl ⟨by kernel_rfl, by intro w; go_simp; try (with_reducible rfl)⟩) ?_
              simp [Act.put]
              refine wpAny_take (i := 7) (v := ?_) rfl (by kernel_rfl) (by kernel_rfl) (by kernel_rfl) (fun _ _ _ h => h) (Or.inl ⟨by kernel_rfl, by intro w; go_simp; try (with_reducible rfl)⟩) ?_
              simp [Act.put]
              refine wpAny_take (i := 8) (v := ?_) rfl (by kernel_rfl) (by kernel_rfl) (by kernel_rfl) (fun _ _ _ h => h) (Or.inl ⟨by kernel_rfl, by intro w; go_simp; try (with_reducible rfl)⟩) ?_
              simp [Act.put]
              refine wpAny_take (i := 9) (v := ?_) rfl (by kernel_rfl) (by kernel_rfl) (by kernel_rfl) (fun _ _ _ h => h) (Or.inl ⟨by kernel_rfl, by intro w; go_simp; try (with_reducible rfl)⟩) ?_
              simp [Act.put]
              refine wpAny_take (i := 10) (v := ?_) rfl (by kernel_rfl) (by kernel_rfl) (by kernel_rfl) (fun _ _ _ h => h) (Or.inl ⟨by kernel_rfl, by intro w; go_simp; try (with_reducible rfl)⟩) ?_
              simp [Act.put]
              refine wpAny_take (i := 14) (v := ?_) rfl (by kernel_rfl) (by kernel_rfl) (by kernel_rfl) (fun _ _ _ h => h) (Or.inl ⟨by kernel_rfl, by intro w; go_simp; try (with_reducible rfl)⟩) ?_
              simp [Act.put]
              refine wpAny_ready (rs := [11, 15]) (by kernel_rfl) (by simp) ?_
              refine AllReady.cons rfl (fun K hK => ?_) (AllReady.cons rfl (fun K hK => ?_) AllReady.nil)
              · go_simp
                refine hK _ _ ?_
                clear hK K
                refine wpAny_take (i := 12) (v := ?_) rfl (by kernel_rfl) (by kernel_rfl) (by kernel_rfl) (fun _ _ _ h => h) (Or.inl ⟨by kernel_rfl, by intro w; go_simp; try (with_reducible rfl)⟩) ?_
                simp [Act.put]
                refine wpAny_ready (rs := [13, 15]) (by kernel_rfl) (by simp) ?_
                refine AllReady.cons rfl (fun K hK => ?_) (AllReady.cons rfl (fun K hK => ?_) AllReady.nil)
                · go_simp
                  refine hK _ _ ?_
                  clear hK K
                  refine wpAny_ready (rs := [15]) (by kernel_rfl) (by simp) ?_
                  refine AllReady.cons rfl (fun K hK => ?_) AllReady.nil
                  go_simp
                  refine hK _ _ ?_
                  clear hK K
                  refine wpAny_take (i := 16) (v := ?_) rfl (by kernel_rfl) (by kernel_rfl) (by kernel_rfl) (fun _ _ _ h => h) (Or.inl ⟨by kernel_rfl, by intro w; go_simp; try (with_reducible rfl)⟩) ?_
                  simp [Act.put]
                  refine wpAny_take (i := 17) (v := ?_) rfl (by kernel_rfl) (by kernel_rfl) (by kernel_rfl) (fun _ _ _ h => h) (Or.inl ⟨by kernel_rfl, by intro w; go_simp; try (with_reducible rfl)⟩) ?_
                  simp [Act.put]
                  refine wpAny_take (i := 18) (v := ?_) rfl (by kernel_rfl) (by kernel_rfl) (by kernel_rfl) (fun _ _ _ h => h) (Or.inl ⟨by kernel_rfl, by intro w; go_simp; try (with_reducible rfl)⟩) ?_
                  simp [Act.put]
                  refine wpAny_done (by kernel_rfl) ?_ _
                  go_wp2_with fail
                  go_meet
                  case rel => exact ⟨by rw [← HST.out]; unfold stepG; rw [← HL.out] at hg; rw [hg, HX.out, HYY.out, decide_eq_false hk0, decide_eq_false (by omega : ¬ Y < X)]; first | rfl | (simp; omega), hw1⟩
                · go_simp
                  refine hK _ _ ?_
                  clear hK K
                  refine wpAny_ready (rs := [13]) (by kernel_rfl) (by simp) ?_
                  refine AllReady.cons rfl (fun K hK => ?_) AllReady.nil
                  go_simp
                  refine hK _ _ ?_
                  clear hK K
                  refine wpAny_take (i := 16) (v := ?_) rfl (by kernel_rfl) (by kernel_rfl) (by kernel_rfl) (fun _ _ _ h => h) (Or.inl ⟨by kernel_rfl, by intro w; go_simp; try (with_reducible rfl)⟩) ?_
                  simp [Act.put]
                  refine wpAny_take (i := 17) (v := ?_) rfl (by kernel_rfl) (by kernel_rfl) (by kernel_rfl) (fun _ _ _ h => h) (Or.inl ⟨by kernel_rfl, by intro w; go_simp; try (with_reducible rfl)⟩) ?_
                  simp [Act.put]
                  refine wpAny_take (i := 18) (v := ?_) rfl (by kernel_rfl) (by kernel_rfl) (by kernel_rfl) (fun _ _ _ h => h) (Or.inl ⟨by kernel_rfl, by intro w; go_simp; try (with_reducible rfl)⟩) ?_
                  simp [Act.put]
                  refine wpAny_done (by kernel_rfl) ?_ _
                  go_wp2_with fail
                  go_meet
                  case rel => exact ⟨by rw [← HST.out]; unfold stepG; rw [← HL.out] at hg; rw [hg, HX.out, HYY.out, decide_eq_false hk0, decide_eq_false (by omega : ¬ Y < X)]; first | rfl | (simp; omega), hw1⟩
              · go_simp
                refine hK _ _ ?_
                clear hK K
                refine wpAny_ready (rs := [11]) (by kernel_rfl) (by simp) ?_
                refine AllReady.cons rfl (fun K hK => ?_) AllReady.nil
                go_simp
                refine hK _ _ ?_
                clear hK K
                refine wpAny_take (i := 12) (v := ?_) rfl (by kernel_rfl) (by kernel_rfl) (by kernel_rfl) (fun _ _ _ h => h) (Or.inl ⟨by kernel_rfl, by intro w; go_simp; try (with_reducible rfl)⟩) ?_
                simp [Act.put]
                refine wpAny_ready (rs := [13]) (by kernel_rfl) (by simp) ?_
                refine AllReady.cons rfl (fun K hK => ?_) AllReady.nil
                go_simp
                refine hK _ _ ?_
                clear hK K
                refine wpAny_take (i := 16) (v := ?_) rfl (by kernel_rfl) (by kernel_rfl) (by kernel_rfl) (fun _ _ _ h => h) (Or.inl ⟨by kernel_rfl, by intro w; go_simp; try (with_reducible rfl)⟩) ?_
                simp [Act.put]
                refine wpAny_take (i := 17) (v := ?_) rfl (by kernel_rfl) (by kernel_rfl) (by kernel_rfl) (fun _ _ _ h => h) (Or.inl ⟨by kernel_rfl, by intro w; go_simp; try (with_reducible rfl)⟩) ?_
                simp [Act.put]
                refine wpAny_take (i := 18) (v := ?_) rfl (by kernel_rfl) (by kernel_rfl) (by kernel_rfl) (fun _ _ _ h => h) (Or.inl ⟨by kernel_rfl, by intro w; go_simp; try (with_reducible rfl)⟩) ?_
                simp [Act.put]
                refine wpAny_done (by kernel_rfl) ?_ _
                go_wp2_with fail
                go_meet
                case rel => exact ⟨by rw [← HST.out]; unfold stepG; rw [← HL.out] at hg; rw [hg, HX.out, HYY.out, decide_eq_false hk0, decide_eq_false (by omega : ¬ Y < X)]; first | rfl | (simp; omega), hw1⟩
      case rest =>
        obtain ⟨rfl, hbx⟩ := hcut
        have hB6 := stepA hB5 hbx
        cases st with
        | false =>
          go_wp2
          go_ret
          exact ⟨ret_bool (by rw [← HR.out, okG_no hlt0 HST.out]), hB6⟩
        | true =>
          go_wp2
          go_roundw
          case rel => exact ⟨k + 1, by omega, by go_num, by unfold okG; rw [HOK.out, HST.out]; rfl, hB6⟩
          case measure => simp [intOf]; omega
    · have hke : k = n := by omega
      subst hke
      go_wp2
      go_ret
      exact ⟨ret_bool (by rw [← HR.out, HOK.out]), hB⟩
set_option maxHeartbeats 400000 in
theorem goodGains_any (a : Option Addr) (n cap : Nat) (F : Nat → Int) (w : World) (hA : IL w a (n * 8) F) :
    Calls Try.prog 40 #[.slice a n cap] w fun e w' => e = .returned (.bool (goodsB F n)) ∧ Below w.heap.size w w' := by
  unfold goodsB
  by_cases hn : n ≤ 60
  · rw [decide_eq_true hn, Bool.true_and]
    exact goodGains_in a n cap F w hn hA
  · rw [decide_eq_false hn, Bool.false_and]
    have j1 : ¬ (n : Int) ≤ 60 := by omega
    go_enter Try.func40, Try.ntmps40
    go_wp2
    go_ret
    exact ⟨rfl, Below.refl _ _⟩
end Go.Proofs.Ythmjoeknkenfgab
