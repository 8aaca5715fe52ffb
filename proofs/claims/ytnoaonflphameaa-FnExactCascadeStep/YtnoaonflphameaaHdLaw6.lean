/- The law on CascadeStep, walked. -/
import Derived.Test.YtnoaonflphameaaHdCasc
import Derived.Test.YtnoaonflphameaaHdEq
import Derived.Test.YtnoaonflphameaaFlt
namespace Go.Proofs.Ytnoaonflphameaa
open Go.RowKit

/-- what is loaded in a region; what stands while it goes on -/
def SC (lo li : Lp) (ho hi : Hd) (B0 : Nat) (w2 : World) : Prop := w2.cell? ⟨B0, 0, none⟩ = some (.int .i64 lo.P) ∧ w2.cell? ⟨B0, 1, none⟩ = some (.int .i64 lo.I) ∧ w2.cell? ⟨B0, 2, none⟩ = some (.int .i64 lo.D) ∧ w2.cell? ⟨B0, 3, none⟩ = some (.int .i64 lo.S) ∧ w2.cell? ⟨B0, 4, none⟩ = some (.int .i64 lo.M) ∧ w2.cell? ⟨B0, 5, none⟩ = some (.int .i64 lo.W) ∧ w2.cell? ⟨B0, 6, none⟩ = some (.int .i64 lo.L) ∧ w2.cell? ⟨B0 + 1, 0, none⟩ = some (.int .i64 li.P) ∧ w2.cell? ⟨B0 + 1, 1, none⟩ = some (.int .i64 li.I) ∧ w2.cell? ⟨B0 + 1, 2, none⟩ = some (.int .i64 li.D) ∧ w2.cell? ⟨B0 + 1, 3, none⟩ = some (.int .i64 li.S) ∧ w2.cell? ⟨B0 + 1, 4, none⟩ = some (.int .i64 li.M) ∧ w2.cell? ⟨B0 + 1, 5, none⟩ = some (.int .i64 li.W) ∧ w2.cell? ⟨B0 + 1, 6, none⟩ = some (.int .i64 li.L) ∧ w2.cell? ⟨B0 + 1 + 1, 0, none⟩ = some (.bool ho.on) ∧ w2.cell? ⟨B0 + 1 + 1, 1, none⟩ = some (.int .i64 ho.sum) ∧ w2.cell? ⟨B0 + 1 + 1, 2, none⟩ = some (.int .i64 ho.last) ∧ w2.cell? ⟨B0 + 1 + 1, 3, none⟩ = some (.int .i64 ho.out) ∧ w2.cell? ⟨B0 + 1 + 1 + 1, 0, none⟩ = some (.bool hi.on) ∧ w2.cell? ⟨B0 + 1 + 1 + 1, 1, none⟩ = some (.int .i64 hi.sum) ∧ w2.cell? ⟨B0 + 1 + 1 + 1, 2, none⟩ = some (.int .i64 hi.last) ∧ w2.cell? ⟨B0 + 1 + 1 + 1, 3, none⟩ = some (.int .i64 hi.out)
theorem keepC {W w2 : World} {B0 : Nat} {lo li : Lp} {ho hi : Hd} (c0 : Bx W B0 (lvs lo)) (c1 : Bx W (B0 + 1) (lvs li)) (c2 : Bx W (B0 + 1 + 1) (hvs ho)) (c3 : Bx W (B0 + 1 + 1 + 1) (hvs hi)) (k : Below W.heap.size W w2) : SC lo li ho hi B0 w2 := by
  obtain ⟨x0, x1, x2, x3, x4, x5, x6⟩ := loop_at (c0.on k)
  obtain ⟨y0, y1, y2, y3, y4, y5, y6⟩ := loop_at (c1.on k)
  obtain ⟨u0, u1, u2, u3⟩ := hold_at (c2.on k)
  exact ⟨x0, x1, x2, x3, x4, x5, x6, y0, y1, y2, y3, y4, y5, y6, u0, u1, u2, u3, hold_at (c3.on k)⟩
structure GC (W : World) (ua ub : Option Nat) (w : World) : Prop where
  be : Below W.heap.size W w
  a : ∀ g, ua = some g → Bx w g (hvs hd0) ∧ W.heap.size ≤ g
  b : ∀ g, ub = some g → Bx w g (hvs hd0) ∧ W.heap.size ≤ g
  ne : ∀ g h, ua = some g → ub = some h → g ≠ h
theorem GC.on {W : World} {ua ub : Option Nat} {w w' : World} (h : GC W ua ub w) (k : Below w.heap.size w w') : GC W ua ub w' :=
  ⟨stepA h.be k, fun g e => ⟨(h.a g e).1.on k, (h.a g e).2⟩, fun g e => ⟨(h.b g e).1.on k, (h.b g e).2⟩, h.ne⟩
theorem GC.newA {W : World} {ub : Option Nat} {w : World} (h : GC W none ub w) : GC W (some w.heap.size) ub (w.alloc (hvo hd0)) := by
  have k := (Below.refl w.heap.size w).alloc (Nat.le_refl _) (hvo hd0)
  refine ⟨stepA h.be k, fun g e => ?_, fun g e => ⟨(h.b g e).1.on k, (h.b g e).2⟩, fun g g2 e e2 => ?_⟩
  · injection e with e; subst e; exact ⟨bx_new _ _ rfl, h.be.size⟩
  · injection e with e; subst e; exact (Nat.ne_of_lt (h.b g2 e2).1.lt).symm
theorem GC.newB {W : World} {ua : Option Nat} {w : World} (h : GC W ua none w) : GC W ua (some w.heap.size) (w.alloc (hvo hd0)) := by
  have k := (Below.refl w.heap.size w).alloc (Nat.le_refl _) (hvo hd0)
  refine ⟨stepA h.be k, fun g e => ⟨(h.a g e).1.on k, (h.a g e).2⟩, fun g e => ?_, fun g g2 e e2 => ?_⟩
  · injection e with e; subst e; exact ⟨bx_new _ _ rfl, h.be.size⟩
  · injection e2 with e2; subst e2; exact Nat.ne_of_lt (h.a g e).1.lt
abbrev cl (lo li : Lp) (ho hi : Hd) (w : World) : World := (((w.alloc (.cells (lvs lo).toArray 51)).alloc (.cells (lvs li).toArray 51)).alloc (.cells (hvs ho).toArray 52)).alloc (.cells (hvs hi).toArray 52)
theorem boxes_l (lo li : Lp) (ho hi : Hd) (w : World) : Bx (cl lo li ho hi w) w.heap.size (lvs lo) ∧ Bx (cl lo li ho hi w) (w.heap.size + 1) (lvs li) ∧ Bx (cl lo li ho hi w) (w.heap.size + 1 + 1) (hvs ho) ∧ Bx (cl lo li ho hi w) (w.heap.size + 1 + 1 + 1) (hvs hi) ∧ Below w.heap.size w (cl lo li ho hi w) := by
  have z0 : Bx (w.alloc (.cells (lvs lo).toArray 51)) w.heap.size (lvs lo) := bx_new _ _ rfl
  have z1 : Bx ((w.alloc (.cells (lvs lo).toArray 51)).alloc (.cells (lvs li).toArray 51)) (w.heap.size + 1) (lvs li) := bx_new _ _ (by simp only [size_al])
  have z2 : Bx (((w.alloc (.cells (lvs lo).toArray 51)).alloc (.cells (lvs li).toArray 51)).alloc (.cells (hvs ho).toArray 52)) (w.heap.size + 1 + 1) (hvs ho) := bx_new _ _ (by simp only [size_al])
  have z3 : Bx (cl lo li ho hi w) (w.heap.size + 1 + 1 + 1) (hvs hi) := bx_new _ _ (by simp only [size_al])
  have hb : Below w.heap.size w (cl lo li ho hi w) := ((((Below.refl _ _).alloc (Nat.le_refl _) _).alloc (by simp) _).alloc (by simp only [size_al]; omega) _).alloc (by simp only [size_al]; omega) _
  exact ⟨((z0.alloc _).alloc _).alloc _, (z1.alloc _).alloc _, z2.alloc _, z3, hb⟩

set_option maxHeartbeats 20000000 in
set_option maxRecDepth 40000 in
theorem cascLaw (lo li : Lp) (ho hi : Hd) (want place speed : Int) (w : World) :
    Calls Try.prog 6 #[lv lo, lv li, hv ho, hv hi, .int .i64 want, .int .i64 place, .int .i64 speed] w fun e w' => e = .returned (.bool true) ∧ Below w.heap.size w w' := by
  have hI := fun w => implCasc lo li ho hi want place speed w
  have hS := fun w => specCasc lo li ho hi want place speed w
  generalize cascU lo li ho hi want place speed = U at hI hS
  generalize cascV lo li ho hi want place speed = V at hI hS
  generalize cascB lo li ho hi want place speed = B at hI hS
  obtain ⟨z0, z1, z2, z3, hB⟩ := boxes_l lo li ho hi w
  unfold cl at z0 z1 z2 z3 hB
  go_enter Try.func6, Try.ntmps6
  go_upto_region 1 with fail
  generalize ((((w.alloc (.cells #[.int .i64 lo.P, .int .i64 lo.I, .int .i64 lo.D, .int .i64 lo.S, .int .i64 lo.M, .int .i64 lo.W, .int .i64 lo.L] 51)).alloc (.cells #[.int .i64 li.P, .int .i64 li.I, .int .i64 li.D, .int .i64 li.S, .int .i64 li.M, .int .i64 li.W, .int .i64 li.L] 51)).alloc (.cells #[.bool ho.on, .int .i64 ho.sum, .int .i64 ho.last, .int .i64 ho.out] 52)).alloc (.cells #[.bool hi.on, .int .i64 hi.sum, .int .i64 hi.last, .int .i64 hi.out] 52)) = W at z0 z1 z2 z3 hB ⊢
  go_cut [15, 16, 17] from 21 to 36 (fun sa sb sk wx => ∃ ga gb, sa = .pointer (some ⟨ga, 0, none⟩) ∧ sb = .pointer (some ⟨gb, 0, none⟩) ∧ Bx wx ga (hvs U) ∧ Bx wx gb (hvs V) ∧ Below W.heap.size W wx ∧ sk = .bool B)
  case first =>
    have hk : ∀ w2, Below W.heap.size W w2 → SC lo li ho hi w.heap.size w2 := fun w2 k => keepC z0 z1 z2 z3 k
    have g0 : GC W none none W.drew := ⟨(Below.refl _ _).drew, (fun g e => by cases e), (fun g e => by cases e), (fun g h e => by cases e)⟩
    refine wp_region_held (S := SC lo li ho hi w.heap.size) (by kernel_rfl) ?_
    change wpAnyH _ _ _ _ _ _ _ _ (World.drew _)
    refine chain_start (f := 19) (ia := 16) (ib := 17) (ta := 15) (tb := 16) (G := GC W) (by decide) (by decide) (fun ua ub x y g s k => ⟨g.on k, hk _ (g.on k).be⟩) (hvo hd0) (hvo hd0) ?_ ?_ (fun ub x g s => ⟨g.newA, hk _ g.newA.be⟩) (fun ua x g s => ⟨g.newB, hk _ g.newB.be⟩) (by kernel_rfl) (by simp [fr, Act.put]) g0 (hk _ (Below.refl _ _).drew) ?_
    · intro K a x h
      refine wpOp_step rfl (fun K' hK => ?_)
      go_simp
      exact hK _ _ h
    · intro K a x h
      refine wpOp_step rfl (fun K' hK => ?_)
      go_simp
      exact hK _ _ h
    refine Chain.take 0 _ (lv lo) rfl (by kernel_rfl) (by intro sa sb; cases sa <;> cases sb <;> exact ⟨by kernel_rfl, by kernel_rfl⟩) (fun _ _ _ h => h) (by decide) (by intro e he; injection he with he; subst he; decide) ?_ ?_
    · intro x y
      refine Or.inl ⟨by rfl, ?_⟩
      intro w5 hs5
      obtain ⟨x0, x1, x2, x3, x4, x5, x6, x7, x8, x9, x10, x11, x12, x13, x14, x15, x16, x17, x18, x19, x20, x21⟩ := hs5
      simp only [fr, Act.put]
      go_simp
    try simp [Act.put]
    refine Chain.take 2 _ (lv li) rfl (by kernel_rfl) (by intro sa sb; cases sa <;> cases sb <;> exact ⟨by kernel_rfl, by kernel_rfl⟩) (fun _ _ _ h => h) (by decide) (by intro e he; injection he with he; subst he; decide) ?_ ?_
    · intro x y
      refine Or.inl ⟨by rfl, ?_⟩
      intro w5 hs5
      obtain ⟨x0, x1, x2, x3, x4, x5, x6, x7, x8, x9, x10, x11, x12, x13, x14, x15, x16, x17, x18, x19, x20, x21⟩ := hs5
      simp only [fr, Act.put]
      go_simp
    try simp [Act.put]
    refine Chain.take 4 _ (hv ho) rfl (by kernel_rfl) (by intro sa sb; cases sa <;> cases sb <;> exact ⟨by kernel_rfl, by kernel_rfl⟩) (fun _ _ _ h => h) (by decide) (by intro e he; injection he with he; subst he; decide) ?_ ?_
    · intro x y
      refine Or.inl ⟨by rfl, ?_⟩
      intro w5 hs5
      obtain ⟨x0, x1, x2, x3, x4, x5, x6, x7, x8, x9, x10, x11, x12, x13, x14, x15, x16, x17, x18, x19, x20, x21⟩ := hs5
      simp only [fr, Act.put]
      go_simp
    try simp [Act.put]
    refine Chain.take 6 _ (hv hi) rfl (by kernel_rfl) (by intro sa sb; cases sa <;> cases sb <;> exact ⟨by kernel_rfl, by kernel_rfl⟩) (fun _ _ _ h => h) (by decide) (by intro e he; injection he with he; subst he; decide) ?_ ?_
    · intro x y
      refine Or.inl ⟨by rfl, ?_⟩
      intro w5 hs5
      obtain ⟨x0, x1, x2, x3, x4, x5, x6, x7, x8, x9, x10, x11, x12, x13, x14, x15, x16, x17, x18, x19, x20, x21⟩ := hs5
      simp only [fr, Act.put]
      go_simp
    try simp [Act.put]
    refine Chain.take 8 _ (.int .i64 want) rfl (by kernel_rfl) (by intro sa sb; cases sa <;> cases sb <;> exact ⟨by kernel_rfl, by kernel_rfl⟩) (fun _ _ _ h => h) (by decide) (by intro e he; injection he with he; subst he; decide) ?_ ?_
    · intro x y
      refine Or.inl ⟨by rfl, ?_⟩
      intro w5 hs5
      obtain ⟨x0, x1, x2, x3, x4, x5, x6, x7, x8, x9, x10, x11, x12, x13, x14, x15, x16, x17, x18, x19, x20, x21⟩ := hs5
      simp only [fr, Act.put]
      go_simp
    try simp [Act.put]
    refine Chain.take 9 _ (.int .i64 place) rfl (by kernel_rfl) (by intro sa sb; cases sa <;> cases sb <;> exact ⟨by kernel_rfl, by kernel_rfl⟩) (fun _ _ _ h => h) (by decide) (by intro e he; injection he with he; subst he; decide) ?_ ?_
    · intro x y
      refine Or.inl ⟨by rfl, ?_⟩
      intro w5 hs5
      obtain ⟨x0, x1, x2, x3, x4, x5, x6, x7, x8, x9, x10, x11, x12, x13, x14, x15, x16, x17, x18, x19, x20, x21⟩ := hs5
      simp only [fr, Act.put]
      go_simp
    try simp [Act.put]
    refine Chain.take 10 _ (.int .i64 speed) rfl (by kernel_rfl) (by intro sa sb; cases sa <;> cases sb <;> exact ⟨by kernel_rfl, by kernel_rfl⟩) (fun _ _ _ h => h) (by decide) (by intro e he; injection he with he; subst he; decide) ?_ ?_
    · intro x y
      refine Or.inl ⟨by rfl, ?_⟩
      intro w5 hs5
      obtain ⟨x0, x1, x2, x3, x4, x5, x6, x7, x8, x9, x10, x11, x12, x13, x14, x15, x16, x17, x18, x19, x20, x21⟩ := hs5
      simp only [fr, Act.put]
      go_simp
    try simp [Act.put]
    refine Chain.call 1 23 (lv lo) (by intro sa sb; cases sa <;> cases sb <;> exact ⟨by decide +kernel, by decide +kernel⟩) (by decide) (by decide) ?_ ?_
    · intro x y ua ub w5 K g s hK
      simp only [fr, Act.put] at hK ⊢
      refine wpOp_step rfl (fun K' hK' => ?_)
      go_simp
      refine (toLoop_any lo _).mono ?_
      rintro e w6 ⟨rfl, hb6⟩
      go_simp
      exact hK' _ _ (hK _ hb6)
    try simp [Act.put]
    refine Chain.call 3 25 (lv li) (by intro sa sb; cases sa <;> cases sb <;> exact ⟨by decide +kernel, by decide +kernel⟩) (by decide) (by decide) ?_ ?_
    · intro x y ua ub w5 K g s hK
      simp only [fr, Act.put] at hK ⊢
      refine wpOp_step rfl (fun K' hK' => ?_)
      go_simp
      refine (toLoop_any li _).mono ?_
      rintro e w6 ⟨rfl, hb6⟩
      go_simp
      exact hK' _ _ (hK _ hb6)
    try simp [Act.put]
    refine Chain.call 5 27 (hv ho) (by intro sa sb; cases sa <;> cases sb <;> exact ⟨by decide +kernel, by decide +kernel⟩) (by decide) (by decide) ?_ ?_
    · intro x y ua ub w5 K g s hK
      simp only [fr, Act.put] at hK ⊢
      refine wpOp_step rfl (fun K' hK' => ?_)
      go_simp
      refine (toHold_any ho _).mono ?_
      rintro e w6 ⟨rfl, hb6⟩
      go_simp
      exact hK' _ _ (hK _ hb6)
    try simp [Act.put]
    refine Chain.call 7 29 (hv hi) (by intro sa sb; cases sa <;> cases sb <;> exact ⟨by decide +kernel, by decide +kernel⟩) (by decide) (by decide) ?_ ?_
    · intro x y ua ub w5 K g s hK
      simp only [fr, Act.put] at hK ⊢
      refine wpOp_step rfl (fun K' hK' => ?_)
      go_simp
      refine (toHold_any hi _).mono ?_
      rintro e w6 ⟨rfl, hb6⟩
      go_simp
      exact hK' _ _ (hK _ hb6)
    try simp [Act.put]
    refine Chain.call 11 33 (.tuple #[hv U, hv V, .bool B]) (by intro sa sb; cases sa <;> cases sb <;> exact ⟨by decide +kernel, by decide +kernel⟩) (by decide) (by decide) ?_ ?_
    · intro x y ua ub w5 K g s hK
      simp only [fr, Act.put] at hK ⊢
      refine wpOp_step rfl (fun K' hK' => ?_)
      go_simp
      refine (hS _).mono ?_
      rintro e w6 ⟨rfl, hb6⟩
      go_simp
      exact hK' _ _ (hK _ hb6)
    try simp [Act.put]
    refine Chain.take 12 _ (.tuple #[hv U, hv V, .bool B]) rfl (by kernel_rfl) (by intro sa sb; cases sa <;> cases sb <;> exact ⟨by kernel_rfl, by kernel_rfl⟩) (fun _ _ _ h => h) (by decide) (by intro e he; injection he with he; subst he; decide) ?_ ?_
    · intro x y
      refine Or.inl ⟨by rfl, ?_⟩
      intro w5 hs5
      obtain ⟨x0, x1, x2, x3, x4, x5, x6, x7, x8, x9, x10, x11, x12, x13, x14, x15, x16, x17, x18, x19, x20, x21⟩ := hs5
      simp only [fr, Act.put]
      go_simp
    try simp [Act.put]
    refine Chain.take 13 _ (hv U) rfl (by kernel_rfl) (by intro sa sb; cases sa <;> cases sb <;> exact ⟨by kernel_rfl, by kernel_rfl⟩) (fun _ _ _ h => h) (by decide) (by intro e he; injection he with he; subst he; decide) ?_ ?_
    · intro x y
      refine Or.inl ⟨by rfl, ?_⟩
      intro w5 hs5
      obtain ⟨x0, x1, x2, x3, x4, x5, x6, x7, x8, x9, x10, x11, x12, x13, x14, x15, x16, x17, x18, x19, x20, x21⟩ := hs5
      simp only [fr, Act.put]
      go_simp
    try simp [Act.put]
    refine Chain.take 14 _ (hv V) rfl (by kernel_rfl) (by intro sa sb; cases sa <;> cases sb <;> exact ⟨by kernel_rfl, by kernel_rfl⟩) (fun _ _ _ h => h) (by decide) (by intro e he; injection he with he; subst he; decide) ?_ ?_
    · intro x y
      refine Or.inl ⟨by rfl, ?_⟩
      intro w5 hs5
      obtain ⟨x0, x1, x2, x3, x4, x5, x6, x7, x8, x9, x10, x11, x12, x13, x14, x15, x16, x17, x18, x19, x20, x21⟩ := hs5
      simp only [fr, Act.put]
      go_simp
    try simp [Act.put]
    refine Chain.take 15 _ (.bool B) rfl (by kernel_rfl) (by intro sa sb; cases sa <;> cases sb <;> exact ⟨by kernel_rfl, by kernel_rfl⟩) (fun _ _ _ h => h) (by decide) (by intro e he; injection he with he; subst he; decide) ?_ ?_
    · intro x y
      refine Or.inl ⟨by rfl, ?_⟩
      intro w5 hs5
      obtain ⟨x0, x1, x2, x3, x4, x5, x6, x7, x8, x9, x10, x11, x12, x13, x14, x15, x16, x17, x18, x19, x20, x21⟩ := hs5
      simp only [fr, Act.put]
      go_simp
    try simp [Act.put]
    refine Chain.done (by intro sa sb hs; cases sa <;> cases sb <;> first | (cases hs; done) | exact ⟨by decide +kernel, by decide +kernel⟩) ?_
    intro ga gb w5 g s
    obtain ⟨ba, la⟩ := g.a ga rfl
    obtain ⟨bb, lb⟩ := g.b gb rfl
    have hne := g.ne ga gb rfl rfl
    have hbe := g.be
    obtain ⟨r0, r1, r2, r3⟩ := hold_at ba
    have f0 := ba.fz 0
    have f1 := ba.fz 1
    have f2 := ba.fz 2
    have f3 := ba.fz 3
    simp only [fl, fr, rd, Act.put]
    simp
    refine wpAnyH_ready (rs := [18]) (by kernel_rfl) (by simp) ?_
    refine AllReadyH.cons rfl (fun K hK => ?_) AllReadyH.nil
    go_simp
    have bb2 := bx_four bb (Ne.symm hne) (.bool U.on) (.int .i64 U.sum) (.int .i64 U.last) (.int .i64 U.out)
    have ba2 := ba.set4 U
    have hbe2 := below_four hbe la (.bool U.on) (.int .i64 U.sum) (.int .i64 U.last) (.int .i64 U.out)
    refine hK.out _ _ (hk _ hbe2) (fun _ => ?_)
    clear hK K
    generalize (((w5.setCell ⟨ga, 0, none⟩ (.bool U.on)).setCell ⟨ga, 1, none⟩ (.int .i64 U.sum)).setCell ⟨ga, 2, none⟩ (.int .i64 U.last)).setCell ⟨ga, 3, none⟩ (.int .i64 U.out) = w6 at bb2 ba2 hbe2 ⊢
    obtain ⟨s0, s1, s2, s3⟩ := hold_at bb2
    have k0 := bb2.fz 0
    have k1 := bb2.fz 1
    have k2 := bb2.fz 2
    have k3 := bb2.fz 3
    try simp [Act.put]
    refine wpAnyH_ready (rs := [19]) (by kernel_rfl) (by simp) ?_
    refine AllReadyH.cons rfl (fun K hK => ?_) AllReadyH.nil
    go_simp
    have ba3 := bx_four ba2 hne (.bool V.on) (.int .i64 V.sum) (.int .i64 V.last) (.int .i64 V.out)
    have bb3 := bb2.set4 V
    have hbe3 := below_four hbe2 lb (.bool V.on) (.int .i64 V.sum) (.int .i64 V.last) (.int .i64 V.out)
    refine hK.out _ _ (hk _ hbe3) (fun _ => ?_)
    clear hK K
    generalize (((w6.setCell ⟨gb, 0, none⟩ (.bool V.on)).setCell ⟨gb, 1, none⟩ (.int .i64 V.sum)).setCell ⟨gb, 2, none⟩ (.int .i64 V.last)).setCell ⟨gb, 3, none⟩ (.int .i64 V.out) = w7 at ba3 bb3 hbe3 ⊢
    try simp [Act.put]
    refine wpAnyH_ready (rs := [20]) (by kernel_rfl) (by simp) ?_
    refine AllReadyH.cons rfl (fun K hK => ?_) AllReadyH.nil
    go_simp
    refine hK.out _ _ (hk _ hbe3) (fun _ => ?_)
    clear hK K
    try simp [Act.put]
    refine wpAnyH_done (by kernel_rfl) ?_ _
    go_wp2_with fail
    go_meet
    case rel => exact ⟨ga, gb, rfl, rfl, ba3, bb3, hbe3, rfl⟩
  case rest =>
    obtain ⟨ga, gb, rfl, rfl, ba, bb, hbn, rfl⟩ := hcut
    have y0 := z0.on hbn
    have y1 := z1.on hbn
    have y2 := z2.on hbn
    have y3 := z3.on hbn
    have hB1 := stepA hB hbn
    clear z0 z1 z2 z3 hB hbn
    go_upto_region 2 with fail
    go_cut [18, 19, 20] from 37 to 52 (fun sa sb sk wx => ∃ ga gb, sa = .pointer (some ⟨ga, 0, none⟩) ∧ sb = .pointer (some ⟨gb, 0, none⟩) ∧ Bx wx ga (hvs U) ∧ Bx wx gb (hvs V) ∧ Below wc.heap.size wc wx ∧ sk = .bool B)
    case first =>
      have hk : ∀ w2, Below wc.heap.size wc w2 → SC lo li ho hi w.heap.size w2 := fun w2 k => keepC y0 y1 y2 y3 k
      have g0 : GC wc none none wc.drew := ⟨(Below.refl _ _).drew, (fun g e => by cases e), (fun g e => by cases e), (fun g h e => by cases e)⟩
      refine wp_region_held (S := SC lo li ho hi w.heap.size) (by kernel_rfl) ?_
      change wpAnyH _ _ _ _ _ _ _ _ (World.drew _)
      refine chain_start (f := 19) (ia := 16) (ib := 17) (ta := 18) (tb := 19) (G := GC wc) (by decide) (by decide) (fun ua ub x y g s k => ⟨g.on k, hk _ (g.on k).be⟩) (hvo hd0) (hvo hd0) ?_ ?_ (fun ub x g s => ⟨g.newA, hk _ g.newA.be⟩) (fun ua x g s => ⟨g.newB, hk _ g.newB.be⟩) (by kernel_rfl) (by simp [fr, Act.put]) g0 (hk _ (Below.refl _ _).drew) ?_
      · intro K a x h
        refine wpOp_step rfl (fun K' hK => ?_)
        go_simp
        exact hK _ _ h
      · intro K a x h
        refine wpOp_step rfl (fun K' hK => ?_)
        go_simp
        exact hK _ _ h
      refine Chain.take 0 _ (lv lo) rfl (by kernel_rfl) (by intro sa sb; cases sa <;> cases sb <;> exact ⟨by kernel_rfl, by kernel_rfl⟩) (fun _ _ _ h => h) (by decide) (by intro e he; injection he with he; subst he; decide) ?_ ?_
      · intro x y
        refine Or.inl ⟨by rfl, ?_⟩
        intro w5 hs5
        obtain ⟨x0, x1, x2, x3, x4, x5, x6, x7, x8, x9, x10, x11, x12, x13, x14, x15, x16, x17, x18, x19, x20, x21⟩ := hs5
        simp only [fr, Act.put]
        go_simp
      try simp [Act.put]
      refine Chain.take 2 _ (lv li) rfl (by kernel_rfl) (by intro sa sb; cases sa <;> cases sb <;> exact ⟨by kernel_rfl, by kernel_rfl⟩) (fun _ _ _ h => h) (by decide) (by intro e he; injection he with he; subst he; decide) ?_ ?_
      · intro x y
        refine Or.inl ⟨by rfl, ?_⟩
        intro w5 hs5
        obtain ⟨x0, x1, x2, x3, x4, x5, x6, x7, x8, x9, x10, x11, x12, x13, x14, x15, x16, x17, x18, x19, x20, x21⟩ := hs5
        simp only [fr, Act.put]
        go_simp
      try simp [Act.put]
      refine Chain.take 4 _ (hv ho) rfl (by kernel_rfl) (by intro sa sb; cases sa <;> cases sb <;> exact ⟨by kernel_rfl, by kernel_rfl⟩) (fun _ _ _ h => h) (by decide) (by intro e he; injection he with he; subst he; decide) ?_ ?_
      · intro x y
        refine Or.inl ⟨by rfl, ?_⟩
        intro w5 hs5
        obtain ⟨x0, x1, x2, x3, x4, x5, x6, x7, x8, x9, x10, x11, x12, x13, x14, x15, x16, x17, x18, x19, x20, x21⟩ := hs5
        simp only [fr, Act.put]
        go_simp
      try simp [Act.put]
      refine Chain.take 6 _ (hv hi) rfl (by kernel_rfl) (by intro sa sb; cases sa <;> cases sb <;> exact ⟨by kernel_rfl, by kernel_rfl⟩) (fun _ _ _ h => h) (by decide) (by intro e he; injection he with he; subst he; decide) ?_ ?_
      · intro x y
        refine Or.inl ⟨by rfl, ?_⟩
        intro w5 hs5
        obtain ⟨x0, x1, x2, x3, x4, x5, x6, x7, x8, x9, x10, x11, x12, x13, x14, x15, x16, x17, x18, x19, x20, x21⟩ := hs5
        simp only [fr, Act.put]
        go_simp
      try simp [Act.put]
      refine Chain.take 8 _ (.int .i64 want) rfl (by kernel_rfl) (by intro sa sb; cases sa <;> cases sb <;> exact ⟨by kernel_rfl, by kernel_rfl⟩) (fun _ _ _ h => h) (by decide) (by intro e he; injection he with he; subst he; decide) ?_ ?_
      · intro x y
        refine Or.inl ⟨by rfl, ?_⟩
        intro w5 hs5
        obtain ⟨x0, x1, x2, x3, x4, x5, x6, x7, x8, x9, x10, x11, x12, x13, x14, x15, x16, x17, x18, x19, x20, x21⟩ := hs5
        simp only [fr, Act.put]
        go_simp
      try simp [Act.put]
      refine Chain.take 9 _ (.int .i64 place) rfl (by kernel_rfl) (by intro sa sb; cases sa <;> cases sb <;> exact ⟨by kernel_rfl, by kernel_rfl⟩) (fun _ _ _ h => h) (by decide) (by intro e he; injection he with he; subst he; decide) ?_ ?_
      · intro x y
        refine Or.inl ⟨by rfl, ?_⟩
        intro w5 hs5
        obtain ⟨x0, x1, x2, x3, x4, x5, x6, x7, x8, x9, x10, x11, x12, x13, x14, x15, x16, x17, x18, x19, x20, x21⟩ := hs5
        simp only [fr, Act.put]
        go_simp
      try simp [Act.put]
      refine Chain.take 10 _ (.int .i64 speed) rfl (by kernel_rfl) (by intro sa sb; cases sa <;> cases sb <;> exact ⟨by kernel_rfl, by kernel_rfl⟩) (fun _ _ _ h => h) (by decide) (by intro e he; injection he with he; subst he; decide) ?_ ?_
      · intro x y
        refine Or.inl ⟨by rfl, ?_⟩
        intro w5 hs5
        obtain ⟨x0, x1, x2, x3, x4, x5, x6, x7, x8, x9, x10, x11, x12, x13, x14, x15, x16, x17, x18, x19, x20, x21⟩ := hs5
        simp only [fr, Act.put]
        go_simp
      try simp [Act.put]
      refine Chain.call 1 39 (lv lo) (by intro sa sb; cases sa <;> cases sb <;> exact ⟨by decide +kernel, by decide +kernel⟩) (by decide) (by decide) ?_ ?_
      · intro x y ua ub w5 K g s hK
        simp only [fr, Act.put] at hK ⊢
        refine wpOp_step rfl (fun K' hK' => ?_)
        go_simp
        refine (toLoop_any lo _).mono ?_
        rintro e w6 ⟨rfl, hb6⟩
        go_simp
        exact hK' _ _ (hK _ hb6)
      try simp [Act.put]
      refine Chain.call 3 41 (lv li) (by intro sa sb; cases sa <;> cases sb <;> exact ⟨by decide +kernel, by decide +kernel⟩) (by decide) (by decide) ?_ ?_
      · intro x y ua ub w5 K g s hK
        simp only [fr, Act.put] at hK ⊢
        refine wpOp_step rfl (fun K' hK' => ?_)
        go_simp
        refine (toLoop_any li _).mono ?_
        rintro e w6 ⟨rfl, hb6⟩
        go_simp
        exact hK' _ _ (hK _ hb6)
      try simp [Act.put]
      refine Chain.call 5 43 (hv ho) (by intro sa sb; cases sa <;> cases sb <;> exact ⟨by decide +kernel, by decide +kernel⟩) (by decide) (by decide) ?_ ?_
      · intro x y ua ub w5 K g s hK
        simp only [fr, Act.put] at hK ⊢
        refine wpOp_step rfl (fun K' hK' => ?_)
        go_simp
        refine (toHold_any ho _).mono ?_
        rintro e w6 ⟨rfl, hb6⟩
        go_simp
        exact hK' _ _ (hK _ hb6)
      try simp [Act.put]
      refine Chain.call 7 45 (hv hi) (by intro sa sb; cases sa <;> cases sb <;> exact ⟨by decide +kernel, by decide +kernel⟩) (by decide) (by decide) ?_ ?_
      · intro x y ua ub w5 K g s hK
        simp only [fr, Act.put] at hK ⊢
        refine wpOp_step rfl (fun K' hK' => ?_)
        go_simp
        refine (toHold_any hi _).mono ?_
        rintro e w6 ⟨rfl, hb6⟩
        go_simp
        exact hK' _ _ (hK _ hb6)
      try simp [Act.put]
      refine Chain.call 11 49 (.tuple #[hv U, hv V, .bool B]) (by intro sa sb; cases sa <;> cases sb <;> exact ⟨by decide +kernel, by decide +kernel⟩) (by decide) (by decide) ?_ ?_
      · intro x y ua ub w5 K g s hK
        simp only [fr, Act.put] at hK ⊢
        refine wpOp_step rfl (fun K' hK' => ?_)
        go_simp
        refine (hI _).mono ?_
        rintro e w6 ⟨rfl, hb6⟩
        go_simp
        exact hK' _ _ (hK _ hb6)
      try simp [Act.put]
      refine Chain.take 12 _ (.tuple #[hv U, hv V, .bool B]) rfl (by kernel_rfl) (by intro sa sb; cases sa <;> cases sb <;> exact ⟨by kernel_rfl, by kernel_rfl⟩) (fun _ _ _ h => h) (by decide) (by intro e he; injection he with he; subst he; decide) ?_ ?_
      · intro x y
        refine Or.inl ⟨by rfl, ?_⟩
        intro w5 hs5
        obtain ⟨x0, x1, x2, x3, x4, x5, x6, x7, x8, x9, x10, x11, x12, x13, x14, x15, x16, x17, x18, x19, x20, x21⟩ := hs5
        simp only [fr, Act.put]
        go_simp
      try simp [Act.put]
      refine Chain.take 13 _ (hv U) rfl (by kernel_rfl) (by intro sa sb; cases sa <;> cases sb <;> exact ⟨by kernel_rfl, by kernel_rfl⟩) (fun _ _ _ h => h) (by decide) (by intro e he; injection he with he; subst he; decide) ?_ ?_
      · intro x y
        refine Or.inl ⟨by rfl, ?_⟩
        intro w5 hs5
        obtain ⟨x0, x1, x2, x3, x4, x5, x6, x7, x8, x9, x10, x11, x12, x13, x14, x15, x16, x17, x18, x19, x20, x21⟩ := hs5
        simp only [fr, Act.put]
        go_simp
      try simp [Act.put]
      refine Chain.take 14 _ (hv V) rfl (by kernel_rfl) (by intro sa sb; cases sa <;> cases sb <;> exact ⟨by kernel_rfl, by kernel_rfl⟩) (fun _ _ _ h => h) (by decide) (by intro e he; injection he with he; subst he; decide) ?_ ?_
      · intro x y
        refine Or.inl ⟨by rfl, ?_⟩
        intro w5 hs5
        obtain ⟨x0, x1, x2, x3, x4, x5, x6, x7, x8, x9, x10, x11, x12, x13, x14, x15, x16, x17, x18, x19, x20, x21⟩ := hs5
        simp only [fr, Act.put]
        go_simp
      try simp [Act.put]
      refine Chain.take 15 _ (.bool B) rfl (by kernel_rfl) (by intro sa sb; cases sa <;> cases sb <;> exact ⟨by kernel_rfl, by kernel_rfl⟩) (fun _ _ _ h => h) (by decide) (by intro e he; injection he with he; subst he; decide) ?_ ?_
      · intro x y
        refine Or.inl ⟨by rfl, ?_⟩
        intro w5 hs5
        obtain ⟨x0, x1, x2, x3, x4, x5, x6, x7, x8, x9, x10, x11, x12, x13, x14, x15, x16, x17, x18, x19, x20, x21⟩ := hs5
        simp only [fr, Act.put]
        go_simp
      try simp [Act.put]
      refine Chain.done (by intro sa sb hs; cases sa <;> cases sb <;> first | (cases hs; done) | exact ⟨by decide +kernel, by decide +kernel⟩) ?_
      intro ga gb w5 g s
      obtain ⟨ba, la⟩ := g.a ga rfl
      obtain ⟨bb, lb⟩ := g.b gb rfl
      have hne := g.ne ga gb rfl rfl
      have hbe := g.be
      obtain ⟨r0, r1, r2, r3⟩ := hold_at ba
      have f0 := ba.fz 0
      have f1 := ba.fz 1
      have f2 := ba.fz 2
      have f3 := ba.fz 3
      simp only [fl, fr, rd, Act.put]
      simp
      refine wpAnyH_ready (rs := [18]) (by kernel_rfl) (by simp) ?_
      refine AllReadyH.cons rfl (fun K hK => ?_) AllReadyH.nil
      go_simp
      have bb2 := bx_four bb (Ne.symm hne) (.bool U.on) (.int .i64 U.sum) (.int .i64 U.last) (.int .i64 U.out)
      have ba2 := ba.set4 U
      have hbe2 := below_four hbe la (.bool U.on) (.int .i64 U.sum) (.int .i64 U.last) (.int .i64 U.out)
      refine hK.out _ _ (hk _ hbe2) (fun _ => ?_)
      clear hK K
      generalize (((w5.setCell ⟨ga, 0, none⟩ (.bool U.on)).setCell ⟨ga, 1, none⟩ (.int .i64 U.sum)).setCell ⟨ga, 2, none⟩ (.int .i64 U.last)).setCell ⟨ga, 3, none⟩ (.int .i64 U.out) = w6 at bb2 ba2 hbe2 ⊢
      obtain ⟨s0, s1, s2, s3⟩ := hold_at bb2
      have k0 := bb2.fz 0
      have k1 := bb2.fz 1
      have k2 := bb2.fz 2
      have k3 := bb2.fz 3
      try simp [Act.put]
      refine wpAnyH_ready (rs := [19]) (by kernel_rfl) (by simp) ?_
      refine AllReadyH.cons rfl (fun K hK => ?_) AllReadyH.nil
      go_simp
      have ba3 := bx_four ba2 hne (.bool V.on) (.int .i64 V.sum) (.int .i64 V.last) (.int .i64 V.out)
      have bb3 := bb2.set4 V
      have hbe3 := below_four hbe2 lb (.bool V.on) (.int .i64 V.sum) (.int .i64 V.last) (.int .i64 V.out)
      refine hK.out _ _ (hk _ hbe3) (fun _ => ?_)
      clear hK K
      generalize (((w6.setCell ⟨gb, 0, none⟩ (.bool V.on)).setCell ⟨gb, 1, none⟩ (.int .i64 V.sum)).setCell ⟨gb, 2, none⟩ (.int .i64 V.last)).setCell ⟨gb, 3, none⟩ (.int .i64 V.out) = w7 at ba3 bb3 hbe3 ⊢
      try simp [Act.put]
      refine wpAnyH_ready (rs := [20]) (by kernel_rfl) (by simp) ?_
      refine AllReadyH.cons rfl (fun K hK => ?_) AllReadyH.nil
      go_simp
      refine hK.out _ _ (hk _ hbe3) (fun _ => ?_)
      clear hK K
      try simp [Act.put]
      refine wpAnyH_done (by kernel_rfl) ?_ _
      go_wp2_with fail
      go_meet
      case rel => exact ⟨ga, gb, rfl, rfl, ba3, bb3, hbe3, rfl⟩
    case rest =>
      obtain ⟨gc, gd, rfl, rfl, bc, bd, hbn, rfl⟩ := hcut
      have ca := ba.on hbn
      have cb := bb.on hbn
      have hB2 := stepA hB1 hbn
      clear y0 y1 y2 y3 hB1 hbn ba bb
      obtain ⟨a0, a1, a2, a3⟩ := hold_at ca
      obtain ⟨c0, c1, c2, c3⟩ := hold_at bc
      go_wp2_with fail
      refine (eqHold_any U _).mono ?_
      rintro e w8 ⟨rfl, hb8⟩
      have hB3 := stepA hB2 hb8
      obtain ⟨b0, b1, b2, b3⟩ := hold_at (cb.on hb8)
      obtain ⟨d0, d1, d2, d3⟩ := hold_at (bd.on hb8)
      clear a0 a1 a2 a3 c0 c1 c2 c3 ca cb bc bd hB2 hb8
      go_wp2_with fail
      refine (eqHold_any V _).mono ?_
      rintro e w9 ⟨rfl, hb9⟩
      have hB4 := stepA hB3 hb9
      clear b0 b1 b2 b3 d0 d1 d2 d3 hB3 hb9
      go_wp2
      go_ret
      exact ⟨rfl, hB4⟩
end Go.Proofs.Ytnoaonflphameaa
