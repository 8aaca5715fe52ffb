/- Frames copied, as the program does it (tools/gen_buc.py). -/
import Derived.Test.YtldagjgpapnfpaaQBuY
import Derived.Test.YtldagjgpapnfpaaQBuO
import Derived.OwnWalk
namespace Go.Proofs.Ytldagjgpapnfpaa
open Go.RowKit
theorem infoFr : (Try.prog.info? 54).map (fun i => (i.zero, i.size, i.bytes)) = some (some (frv 0 none 0 0), 2, 32) := by kernel_rfl
theorem run_make0_fr (n : Nat) (hn : n ≤ 1048576) (w : World) :
    (Instr.makeSlice 49 (.int .i64 0) (.int .i64 (n : Int))).run Try.prog w = .ok (.slice (some ⟨w.heap.size, 0, none⟩) 0 n) (w.alloc (.cells (madeCells #[.int .i64 0, .slice none 0 0] (n * 2)) 54)) := by
  obtain ⟨i, hi, hzz⟩ := Option.map_eq_some_iff.1 infoFr
  simp only [Prod.mk.injEq] at hzz
  obtain ⟨hz, hs, hb⟩ := hzz
  have hr := run_make (P := Try.prog) w 49 54 i _ Try.underlying49 hi hz .i64 .i64 (0 : Int) (n : Int) (by omega) (by omega) (by rw [hb]; omega) (by omega)
  simp only [Int.toNat_natCast, hs] at hr
  exact hr
theorem two_new (w : World) (p q : Value) (t : TypeId) : ∀ j u, [p, q][j]? = some u → (w.alloc (.cells #[p, q] t)).cell? ((⟨w.heap.size, 0, none⟩ : Addr).add j) = some u := by
  intro j u hu
  have hb := bx_new (w := w) [p, q] t rfl
  have hj : j < 2 := by simpa using (List.getElem?_eq_some_iff.1 hu).1
  have hc := hb.c j (by simpa using hj)
  rw [Addr.add_lit, Nat.zero_add, hc, ← hu]
/-- frames as cells -/
def frC (I : Nat → Int) (A : Nat → Option Addr) (N C : Nat → Nat) : Nat → List Value
  | 0 => []
  | k + 1 => frC I A N C k ++ [.int .i64 (I k), .slice (A k) (N k) (C k)]
section
variable {I : Nat → Int} {A A' : Nat → Option Addr} {N C C' : Nat → Nat}
theorem frC_len (k : Nat) : (frC I A N C k).length = k * 2 := by
  induction k with
  | zero => rfl
  | succ k ih => rw [frC, List.length_append, ih]; simp; omega
theorem frC_congr {k : Nat} (h1 : ∀ i, i < k → A i = A' i) (h2 : ∀ i, i < k → C i = C' i) : frC I A N C k = frC I A' N C' k := by
  induction k with
  | zero => rfl
  | succ k ih => rw [frC, frC, ih (fun i hi => h1 i (by omega)) (fun i hi => h2 i (by omega)), h1 k (by omega), h2 k (by omega)]
theorem frC_get {k j : Nat} (h : j < k) : (frC I A N C k)[j * 2]? = some (.int .i64 (I j)) ∧ (frC I A N C k)[j * 2 + 1]? = some (.slice (A j) (N j) (C j)) := by
  induction k with
  | zero => omega
  | succ k ih =>
    have hl := frC_len (I := I) (A := A) (N := N) (C := C) k
    rw [frC]
    by_cases e : j = k
    · subst e
      rw [List.getElem?_append_right (by omega), List.getElem?_append_right (by omega), hl]
      simp [show j * 2 + 1 - j * 2 = 1 by omega]
    · rw [List.getElem?_append_left (by omega), List.getElem?_append_left (by omega)]
      exact ih (by omega)
end
/-- copies of the first k frames, so far -/
structure CfP (g : Nat) (wr : World) (n k : Nat) (I : Nat → Int) (N : Nat → Nat) (S : Nat → Nat → Int) (A : Nat → Option Addr) (C D : Nat → Nat) : Prop where
  own : wr.ownsRow g 54 2 (.slice (some ⟨g, 0, none⟩) k n) k (frC I A N C k)
  d0 : D 0 = g + 1
  mon : ∀ j, j < k → D j ≤ D (j + 1)
  dk : D k ≤ wr.heap.size
  y : ∀ j, j < k → VQ wr (D j) (D (j + 1)) (A j) (N j) (fun i => .int .u8 (S j i))
  s : ∀ j, j < k → Shp (A j) (N j) (C j)
section
variable {g : Nat} {w w' : World} {n k : Nat} {I : Nat → Int} {N : Nat → Nat} {S : Nat → Nat → Int} {A : Nat → Option Addr} {C D : Nat → Nat}
theorem CfP.on (h : CfP g w n k I N S A C D) (b : Below w.heap.size w w') : CfP g w' n k I N S A C D :=
  ⟨owns_on h.own b, h.d0, h.mon, Nat.le_trans h.dk b.size, fun j hj => (h.y j hj).on b, h.s⟩
theorem CfP.glt (h : CfP g w n k I N S A C D) : g < w.heap.size := (World.ownsRow.lt h.own g rfl).2
theorem CfP.dj (h : CfP g w n k I N S A C D) {j : Nat} (hj : j ≤ k) : g < D j ∧ D j ≤ w.heap.size := by
  have h1 := mono_le h.mon j (Nat.zero_le _) hj
  have h2 := mono_le h.mon k hj (Nat.le_refl _)
  have := h.d0
  have := h.dk
  omega
theorem CfP.end (h : CfP g w n k I N S A C D) : FrP w g w.heap.size g k I N S A C D :=
  ⟨Nat.le_refl _, by have := h.d0; omega, h.dk, h.mon, h.glt, fun j hj => by
    have hl := frC_len (I := I) (A := A) (N := N) (C := C) k
    exact ⟨(World.ownsRow.cellAt h.own _ (by omega)).trans (frC_get hj).1, (World.ownsRow.cellAt h.own _ (by omega)).trans (frC_get hj).2⟩, fun i => World.ownsRow.frozenAt h.own i, h.y, h.s⟩
/-- one more: its bytes have been copied, it is appended -/
theorem CfP.app {w5 w6 : World} {o : Obj} {a' : Option Addr} {c' : Nat} {lo : Nat} (h : CfP g w n k I N S A C D) (hlo : w.heap.size ≤ lo) (b5 : Below w.heap.size w w5) (hy : VQ w5 lo w5.heap.size a' (N k) (fun i => .int .u8 (S k i))) (hs : Shp a' (N k) c')
    (ho : w6.ownsRow g 54 2 (.slice (some ⟨g, 0, none⟩) (k + 1) n) (k + 1) (frC I A N C k ++ [.int .i64 (I k), .slice a' (N k) c'])) (hg : (w5.alloc o).grownBy w6 (some g)) :
    CfP g w6 n (k + 1) I N S (fun i => if i = k then a' else A i) (fun i => if i = k then c' else C i) (fun i => if i = k + 1 then w5.heap.size else D i) := by
  have hgl := h.glt
  have h5 := h.on b5
  have kept : ∀ {lo' hi' : Nat} {a : Option Addr} {m : Nat} {f : Nat → Value}, g < lo' → VQ w5 lo' hi' a m f → VQ w6 lo' hi' a m f := fun hlo' hq =>
    (hq.on ((Below.refl _ _).alloc (Nat.le_refl _) o)).of hg.size fun x hx h1 _ => hg.block x hx (fun e => by have := Option.some.inj e; omega)
  refine ⟨?_, by simp only [Ne.symm (Nat.succ_ne_zero k), if_false]; exact h.d0, fun j hj => ?_, ?_, fun j hj => ?_, fun j hj => ?_⟩
  · rw [frC, if_pos rfl, if_pos rfl, ← frC_congr (A := A) (C := C) (fun i hi => by rw [if_neg (by omega)]) (fun i hi => by rw [if_neg (by omega)])]
    exact ho
  · rw [if_neg (by omega)]
    by_cases e : j = k
    · subst e; rw [if_pos rfl]; exact h5.dk
    · rw [if_neg (by omega)]; exact h.mon j (by omega)
  · rw [if_pos rfl]
    have := hg.size
    simp at this
    omega
  · by_cases e : j = k
    · subst e
      rw [if_neg (by omega), if_pos rfl, if_pos rfl]
      have hd := (h.dj (Nat.le_refl _))
      exact kept hd.1 (hy.wide (by omega) (Nat.le_refl _))
    · rw [if_neg (by omega), if_neg (by omega), if_neg e]
      exact kept (h5.dj (Nat.le_of_lt (show j < k by omega))).1 (h5.y j (by omega))
  · by_cases e : j = k
    · subst e; rw [if_pos rfl, if_pos rfl]; exact hs
    · rw [if_neg e, if_neg e]; exact h.s j (by omega)
end
def AnsFr (w w' : World) (e : Ending) (n : Nat) (I : Nat → Int) (N : Nat → Nat) (S : Nat → Nat → Int) : Prop := ∃ (a : Option Addr) (c : Nat), e = .returned (.slice a n c) ∧ FrQ w' w.heap.size w'.heap.size a n I N S ∧ Shp a n c ∧ Below w.heap.size w w'
set_option maxRecDepth 20000 in
set_option maxHeartbeats 4000000 in
theorem copyFrs (a : Option Addr) (n c : Nat) (I : Nat → Int) (A : Nat → Option Addr) (N C : Nat → Nat) (S : Nat → Nat → Int) (w : World) (hn : n ≤ 1048576) (hN : ∀ j, j < n → N j ≤ 1048576) (hF : FrF w a n I A N C S) :
    Calls Try.prog 66 #[.slice a n c] w fun e w' => AnsFr w w' e n I N S := by
  obtain ⟨i0, hi, hzz⟩ := Option.map_eq_some_iff.1 infoFr
  simp only [Prod.mk.injEq] at hzz
  obtain ⟨hz0, hz1, hz2⟩ := hzz
  have hmk := run_make0_fr n hn
  have HF : Hid (FrF w a n I A N C S) := hF
  have HN : Hid (∀ j, j < n → N j ≤ 1048576) := hN
  have hb0 : Below w.heap.size w (w.alloc (.cells (madeCells #[.int .i64 0, .slice none 0 0] (n * 2)) 54)) := (Below.refl _ _).alloc (Nat.le_refl _) _
  have HS0 : Hid (CfP w.heap.size (w.alloc (.cells (madeCells #[.int .i64 0, .slice none 0 0] (n * 2)) 54)) n 0 I N S (fun _ => none) (fun _ => 0) (fun _ => w.heap.size + 1)) :=
    ⟨World.ownsRow_made w _ n (Nat.le_refl _) (by unfold maxLen; omega) (size_madeCells _ _), rfl, fun j hj => absurd hj (Nat.not_lt_zero _), by simp, fun j hj => absurd hj (Nat.not_lt_zero _), fun j hj => absurd hj (Nat.not_lt_zero _)⟩
  clear hF hN
  go_enter Try.func66, Try.ntmps66
  go_wp2
  clear hmk
  go_loopw [3, 11] (fun v i wr => ∃ (k : Nat), k ≤ n ∧ i = .int .i64 (k : Int) ∧ v = .slice (some ⟨w.heap.size, 0, none⟩) k n ∧ Hid (∃ A C D, CfP w.heap.size wr n k I N S A C D) ∧ Below w.heap.size w wr) (fun _ i _ => n - (intOf i).toNat)
  case atStart => exact ⟨0, Nat.zero_le _, rfl, rfl, ⟨_, _, _, HS0.out⟩, hb0⟩
  case round =>
    obtain ⟨k, hk, rfl, rfl, HS, hB⟩ := hrel
    clear HS0 hb0
    by_cases hlt : k < n
    · have hF2 := HF.out.below hB
      obtain ⟨b1, o1, rfl, l1, hc1⟩ := hF2.h (by omega)
      obtain ⟨y0, y1⟩ := hc1 k hlt
      have hYk := hF2.y k hlt
      have hSk := hF2.s k hlt
      have hNk := HN.out k hlt
      have j0 : (0 : Int) ≤ (k : Int) := by omega
      have j1 : (k : Int) < (n : Int) := by omega
      obtain ⟨A1, C1, D1, hCf⟩ := HS.out
      have HC : Hid (CfP w.heap.size wr n k I N S A1 C1 D1) := hCf
      clear hc1 hF2 HS hCf
      obtain ⟨X0, e0⟩ : ∃ X, X = I k := ⟨_, rfl⟩
      obtain ⟨X1, e1⟩ : ∃ X, X = A k := ⟨_, rfl⟩
      obtain ⟨X2, e2⟩ : ∃ X, X = N k := ⟨_, rfl⟩
      obtain ⟨X3, e3⟩ : ∃ X, X = C k := ⟨_, rfl⟩
      rw [← e0] at y0
      rw [← e1, ← e2, ← e3] at y1 hSk
      rw [← e1, ← e2] at hYk
      rw [← e2] at hNk
      have HX0 : Hid (X0 = I k) := e0
      have HX2 : Hid (X2 = N k) := e2
      clear e0 e1 e2 e3
      have h1 : Below wr.heap.size wr (wr.alloc (frvO X0 X1 X2 X3 54)) := (Below.refl _ _).alloc (Nat.le_refl _) _
      have bF := bx_new (w := wr) (frvL X0 X1 X2 X3) 54 rfl
      have hY2 := hYk.below h1
      go_upto_region 5 with fail
      generalize hW : wr.alloc (frvO X0 X1 X2 X3 54) = W2 at *
      clear hW hYk
      have bFd : Bx W2.drew wr.heap.size (frvL X0 X1 X2 X3) := bF.on (Below.refl _ _).drew
      have hYd := hY2.below (Below.refl _ _).drew
      have hBd : Below wr.heap.size wr W2.drew := h1.drew
      refine wp_region_held (S := (fun w' => w'.cell? ⟨wr.heap.size, 0, none⟩ = some (.int .i64 X0) ∧ w'.cell? ⟨wr.heap.size, 1, none⟩ = some (.slice X1 X2 X3))) (by kernel_rfl) ?_
      change wpAnyH _ _ _ _ _ _ _ _ (World.drew _)
      have hSw := (⟨bFd.c0, bFd.c1⟩ : _ ∧ _)
      refine wpAnyH_take (i := 0) (v := .slice (some ⟨w.heap.size, 0, none⟩) k n) rfl (by kernel_rfl) (by kernel_rfl) (by kernel_rfl) (fun _ _ _ h => h) (Or.inl ⟨by rfl, ?_⟩) hSw ?_
      · intro wz hsz
        obtain ⟨hc8, hc9⟩ := hsz
        go_simp
      try simp [Act.put]
      refine wpAnyH_take (i := 1) (v := .pointer (some ⟨wr.heap.size, 0, none⟩)) rfl (by kernel_rfl) (by kernel_rfl) (by kernel_rfl) (fun _ _ _ h => h) (Or.inl ⟨by rfl, ?_⟩) hSw ?_
      · intro wz hsz
        obtain ⟨hc8, hc9⟩ := hsz
        go_simp
      try simp [Act.put]
      refine wpAnyH_take (i := 2) (v := .int .i64 X0) rfl (by kernel_rfl) (by kernel_rfl) (by kernel_rfl) (fun _ _ _ h => h) (Or.inl ⟨by rfl, ?_⟩) hSw ?_
      · intro wz hsz
        obtain ⟨hc8, hc9⟩ := hsz
        go_simp
      try simp [Act.put]
      refine wpAnyH_take (i := 3) (v := .pointer (some ⟨wr.heap.size, 1, none⟩)) rfl (by kernel_rfl) (by kernel_rfl) (by kernel_rfl) (fun _ _ _ h => h) (Or.inl ⟨by rfl, ?_⟩) hSw ?_
      · intro wz hsz
        obtain ⟨hc8, hc9⟩ := hsz
        go_simp
      try simp [Act.put]
      refine wpAnyH_take (i := 4) (v := .slice X1 X2 X3) rfl (by kernel_rfl) (by kernel_rfl) (by kernel_rfl) (fun _ _ _ h => h) (Or.inl ⟨by rfl, ?_⟩) hSw ?_
      · intro wz hsz
        obtain ⟨hc8, hc9⟩ := hsz
        go_simp
      try simp [Act.put]
      refine wpAnyH_ready (rs := [5]) (by kernel_rfl) (by simp) ?_
      refine AllReadyH.cons rfl (fun K9 hK => ?_) AllReadyH.nil
      go_simp
      go_at_call 74
      refine (cloneY X1 X2 X3 (S k) _ hNk hSk hYd).mono ?_
      rintro e9 w5 ⟨a', c', rfl, hq5, hs5, hb5⟩
      have bF5 := bFd.on hb5
      have hB5 := stepA hBd hb5
      refine hK.out _ _ (⟨bF5.c0, bF5.c1⟩) (fun hSn => ?_)
      clear hK K9 hSw
      have hSw := hSn
      clear hSn
      try simp [Act.put]
      refine wpAnyH_take (i := 6) (v := frv X0 a' X2 c') rfl (by kernel_rfl) (by kernel_rfl) (by kernel_rfl) (fun _ _ _ h => h) (Or.inl ⟨by rfl, ?_⟩) hSw ?_
      · intro wz hsz
        obtain ⟨hc8, hc9⟩ := hsz
        go_simp
      try simp [Act.put]
      refine wpAnyH_ready (rs := [7]) (by kernel_rfl) (by simp) ?_
      refine AllReadyH.cons rfl (fun K9 hK => ?_) AllReadyH.nil
      go_simp
      have bF6 := bF5.on ((Below.refl w5.heap.size w5).alloc (Nat.le_refl _) (frvO X0 a' X2 c' 54))
      refine hK.out _ _ (⟨bF6.c0, bF6.c1⟩) (fun hSn => ?_)
      clear hK K9 hSw
      have hSw := hSn
      clear hSn
      try simp [Act.put]
      have hC5 := HC.out.on hB5
      obtain ⟨w6, hrun6, hown6, hgr6⟩ := run_append_fits (P := Try.prog) (w5.alloc (frvO X0 a' X2 c' 54)) w.heap.size 49 49 54 i0 2 Try.underlying49 hi hz1 w.heap.size k n (frC I A1 N C1 k) (World.ownsRow.alloc hC5.own _) ⟨w5.heap.size, 0, none⟩ 1 1 [.int .i64 X0, .slice a' X2 c'] rfl (two_new _ _ _ _) (fun u hu => by simp at hu; rcases hu with rfl | rfl <;> rfl) (by omega)
      have hgsz := hC5.glt
      have hglt := HC.out.glt
      have bF7 : Bx w6 wr.heap.size (frvL X0 X1 X2 X3) := ⟨Nat.lt_of_lt_of_le bF6.lt hgr6.size, fun i hi => (cell_same (hgr6.block _ bF6.lt (fun e => by have := Option.some.inj e; omega)) i).trans (bF6.c i hi), fun j => (frozen_same (hgr6.block _ bF6.lt (fun e => by have := Option.some.inj e; omega)) j).trans (bF6.fz j)⟩
      refine wpAnyH_ready (rs := [8]) (by kernel_rfl) (by simp) ?_
      refine AllReadyH.cons rfl (fun K9 hK => ?_) AllReadyH.nil
      refine held_append (by kernel_rfl) (.tmp 15) (.tmp 22) 49 rfl rfl rfl hrun6 ?_
      refine hK.out _ _ (⟨bF7.c0, bF7.c1⟩) (fun hSn => ?_)
      clear hK K9 hSw
      have hSw := hSn
      clear hSn
      try simp [Act.put]
      have hC6 : Hid (CfP w.heap.size w6 n (k + 1) I N S _ _ _) := HC.out.app (show wr.heap.size ≤ W2.drew.heap.size from hBd.size) hB5 (by rw [← HX2.out]; exact hq5) (by rw [← HX2.out]; exact hs5) (by rw [← HX0.out, ← HX2.out]; exact hown6) hgr6
      have hB6 : Below w.heap.size w w6 := (stepA hB hB5).trans ((((Below.refl w5.heap.size w5).alloc (Nat.le_refl _) (frvO X0 a' X2 c' 54)).mono (Nat.le_of_lt hgsz)).grown hgr6 (by simp; omega) (fun q hq => by cases hq; exact Nat.le_refl _))
      refine wpAnyH_ready (rs := [9]) (by kernel_rfl) (by simp) ?_
      refine AllReadyH.cons rfl (fun K9 hK => ?_) AllReadyH.nil
      go_simp
      refine hK.out _ _ (hSw) (fun hSn => ?_)
      clear hK K9 hSw
      have hSw := hSn
      clear hSn
      try simp [Act.put]
      refine wpAnyH_done (by kernel_rfl) ?_ _
      clear hSw bF7 bF6 bF5 bFd bF hY2 hYd h1 hBd hq5 hs5 hb5 hB5 hC5 hrun6 hown6 hgr6
      go_wp2
      exact ⟨⟨k + 1, by omega, by go_num, rfl, ⟨_, _, _, hC6.out⟩, hB6⟩, by simp [intOf]; omega⟩
    · have hke : k = n := by omega
      subst hke
      go_wp2
      go_ret
      obtain ⟨A1, C1, D1, hCf⟩ := HS.out
      exact ⟨_, _, rfl, fun _ => ⟨_, _, _, _, rfl, hCf.end⟩, shp_at _ _ (Nat.le_refl _), hB⟩
end Go.Proofs.Ytldagjgpapnfpaa
