/- A new cursor. -/
import Derived.Test.YtfciecoigfnnhaaQPlTn
import Derived.Test.YtfciecoigfnnhaaQPlCel
import Derived.Deep.RegionHeld3
import Derived.Deep.RegionHeld
import Derived.Deep.CutRange
namespace Go.Proofs.Ytfciecoigfnnhaa
open Go.RowKit

theorem cur_new (w : World) (a : Option Addr) (len cap : Nat) (hl : len ≤ 1048576) (hb : 0 < len → ∃ b off, a = some ⟨b, off, none⟩ ∧ b < w.heap.size ∧ ∀ i, i < len → ∃ v : Int, w.cell? ⟨b, off + i, none⟩ = some (.int .u8 v) ∧ 0 ≤ v ∧ v ≤ 255) :
    Cur (w.alloc (.cells #[.slice a len cap, .int .i64 0, .int .u64 0] 67)) w.heap.size a len cap 0 := by
  have hB : Below w.heap.size w (w.alloc (.cells #[.slice a len cap, .int .i64 0, .int .u64 0] 67)) := (Below.refl _ _).alloc (Nat.le_refl _) _
  refine ⟨by simp, by simp [go_sem], by simp [go_sem], ⟨0, by simp [go_sem], by omega, by omega⟩, by simp [go_sem], by simp [go_sem], fun h0 => ?_, hl⟩
  obtain ⟨b, off, ha, hbw, hc⟩ := hb h0
  refine ⟨b, off, ha, hbw, fun i hi => ?_⟩
  obtain ⟨v, hv, hv1⟩ := hc i hi
  exact ⟨v, (hB.cell (p := ⟨b, _, none⟩) hbw).trans hv, hv1⟩
end Go.Proofs.Ytfciecoigfnnhaa

/- What FnWays draws: cells and two ends. -/
namespace Go.Proofs.Ytfciecoigfnnhaa
open Go.RowKit

/-- the answer: some cells, two numbers -/
def AnsEn (C : Nat) (w' : World) (e : Ending) : Prop := ∃ (W : Int) (q : Option Addr) (N c : Nat) (F : Nat → Int) (x y : Int), e = .returned (.tuple #[cel W q N c, .int .i64 x, .int .i64 y]) ∧ N ≤ 300 ∧ LQ w' (C + 1) w'.heap.size q N F
theorem ret_en {fn : Func} {t x y : Tmp} {R : Ending → World → Prop} {a : Act} {w : World} {b : Nat} {u v : Value} (h : fn.results = #[.cell t 25, .tmp x, .tmp y]) (hp : a.tmps.getD t undef = .pointer (some ⟨b, 0, none⟩)) (c0 : w.cell? ⟨b, 0, none⟩ = some u) (c1 : w.cell? ⟨b, 1, none⟩ = some v) (hd : a.defers = [])
    (hR : R (.returned (.tuple #[.agg #[u, v], a.tmps.getD x undef, a.tmps.getD y undef])) w) : bodyPost Try.prog fn R .ret a w := by
  refine bodyPost_ret ?_ hd hR
  have hp' : a.tmps[t]?.getD undef = .pointer (some ⟨b, 0, none⟩) := by simpa using hp
  simp [results, h, hp', asAddr, loadVar, go_sem, c0, c1]
theorem keepE {w' : World} {M : Nat} {u v : Value} (h : Bx w' M [u, v]) : w'.cell? ⟨M, 0, none⟩ = some u ∧ w'.cell? ⟨M, 1, none⟩ = some v := ⟨h.c0, h.c1⟩
/-- what stands while the ends are drawn -/
structure En (w wx : World) (C : Nat) (a : Option Addr) (len cap n R M lo : Nat) (W : Int) (a' : Option Addr) (N c' : Nat) (F : Nat → Int) (la : Option Addr) (l : List Int) : Prop where
  cur : Cur wx C a len cap n
  m : Bx wx M [.int .i64 W, .slice a' N c']
  r : Bx wx R [.int .i64 0, .slice none 0 0]
  q : LQ wx (R + 1) M a' N F
  p : LQ wx lo wx.heap.size la l.length (gl l)
  t : Turns C (C + 1) w wx
theorem En.step {w wx wy : World} {C : Nat} {a : Option Addr} {len cap n n' R M lo : Nat} {W : Int} {a' : Option Addr} {N c' : Nat} {F : Nat → Int} {la : Option Addr} {l : List Int} (h : En w wx C a len cap n R M lo W a' N c' F la l) (hc : Cur wy C a len cap n') (o : Only C wx wy) (hh : C < R ∧ R < M ∧ M < lo) :
    En w wy C a len cap n' R M lo W a' N c' F la l :=
  ⟨hc, h.m.turns (on_turns o) (.inr (by omega)), h.r.turns (on_turns o) (.inr (by omega)), h.q.turns (on_turns o) (.inr (by omega)), (h.p.turns (on_turns o) (.inr (by omega))).wide (Nat.le_refl _) (on_turns o).size, h.t.trans (on_turns o)⟩
theorem turns_put2 {lo hi M : Nat} {w w' : World} (h : Turns lo hi w w') (hM : w.heap.size ≤ M) (u v : Value) : Turns lo hi w ((w'.setCell ⟨M, 0, none⟩ u).setCell ⟨M, 1, none⟩ v) :=
  turns_below h (((Below.refl w.heap.size w').setCell (p := ⟨M, 0, none⟩) hM _).setCell (p := ⟨M, 1, none⟩) hM _) (Nat.le_refl _)

theorem ip_only {C g n : Nat} {w w' : World} {F : Nat → Int} (h : IP w g n F) (o : Only C w w') (hg : C < g) : IP w' g n F :=
  ⟨by rw [o.size]; exact h.lt, fun i hi => (cell_same (o.block g (by omega)) _).trans (h.c i hi), fun j => (frozen_same (o.block g (by omega)) j).trans (h.fz j)⟩
theorem IP.set_far {w : World} {g n b k : Nat} {F : Nat → Int} (h : IP w g n F) (v : Value) (hb : g ≠ b) : IP (w.setCell ⟨b, k, none⟩ v) g n F :=
  ⟨by simpa using h.lt, fun i hi => (cell_same (Below.heap_setCell w ⟨b, k, none⟩ v g hb) _).trans (h.c i hi), fun j => (frozen_same (Below.heap_setCell w ⟨b, k, none⟩ v g hb) j).trans (h.fz j)⟩
theorem IP.at {w : World} {g n : Nat} {F : Nat → Int} (h : IP w g n F) (p : Int) (h0 : 0 ≤ p) (h1 : p < (n : Int)) : w.cell? ⟨g, p.toNat, none⟩ = some (.int .i64 (F p.toNat)) := h.c p.toNat (by omega)
set_option maxRecDepth 20000 in
set_option maxHeartbeats 4000000 in
theorem ends_any (C : Nat) (a : Option Addr) (len cap n : Nat) (w : World) (h : Cur w C a len cap n) (hn : n ≤ 700000) :
    Calls Try.prog 38 #[.pointer (some ⟨C, 0, none⟩)] w fun e w' => AnsEn C w' e ∧ Turns C (C + 1) w w' := by
  have hCl := h.lt
  have hb0 : Below w.heap.size w (w.alloc (celO 0 none 0 0 25)) := (Below.refl _ _).alloc (Nat.le_refl _) _
  have r0 := bx_new (w := w) (celL 0 none 0 0) 25 rfl
  have hc0 := h.below hb0 hCl
  have hT0 : Turns C (C + 1) w (w.alloc (celO 0 none 0 0 25)) := turns_of hb0
  go_enter Try.func38, Try.ntmps38
  go_wp2_with fail
  refine (cells_any C a len cap n _ hc0 (by omega)).mono ?_
  rintro e w1 ⟨W, a', c', N, F, n1, rfl, hN, hL1, hn1, hc1, hT1⟩
  have r1 := r0.turns hT1 (.inr (by omega))
  have hTa := hT0.trans hT1
  have hs1 := r1.lt
  have hbM : Below w1.heap.size w1 (w1.alloc (celO W a' N c' 25)) := (Below.refl _ _).alloc (Nat.le_refl _) _
  have m2 := bx_new (w := w1) (celL W a' N c') 25 rfl
  have r2 := r1.on hbM
  have hc2 := hc1.below hbM hc1.lt
  have hL2 := hL1.on hbM
  have hTb := hTa.trans (turns_of hbM)
  have x0 := m2.c0
  have x1 := m2.c1
  rw [size_al] at hL2
  clear hT0 hT1 hTa r0 hc0 h hb0 hL1 hc1 r1
  go_wp2_with fail
  refine (specAll W a' N c' F _ (by omega) hL2.il).mono ?_
  rintro e w3 ⟨⟨la, lc, rfl, hLQ⟩, hb3⟩
  rw [size_al] at hLQ
  have e3 : En w w3 C a len cap n1 w.heap.size w1.heap.size (w1.heap.size + 1) W a' N c' F la (apl W N F) := ⟨hc2.below hb3 hc2.lt, m2.on hb3, r2.on hb3, hL2.on hb3, hLQ, hTb.trans (turns_of hb3)⟩
  have hll := apl_len W N F
  clear x0 x1 r2 m2 hc2 hL2 hTb hb3 hLQ hbM
  generalize w1.heap.size = M at e3 hs1 ⊢
  generalize apl W N F = l at e3 hll ⊢
  clear w1
  go_upto_region 3 with fail
  go_cut [17] from 11 to 17 (fun s wx => ∃ (u : Bool) (n4 : Nat), s = .bool u ∧ n4 ≤ n1 + 2 ∧ (u = false → 0 < l.length) ∧ En w wx C a len cap n4 w.heap.size M (M + 1) W a' N c' F la l)
  case first =>
    by_cases hz : l.length = 0
    · have j0 : ((l.length : Nat) : Int) = 0 := by omega
      go_wp2_with fail
      go_meet
      case rel => exact ⟨true, n1, rfl, by omega, by simp, e3⟩
    · have j0 : ¬ ((l.length : Nat) : Int) = 0 := by omega
      go_wp2_with fail
      refine (one_any C a len cap n1 _ _ e3.cur (by omega)).mono ?_
      rintro e w4 ⟨u, n4, rfl, hn4, hc4, hO4⟩
      have e4 := e3.step hc4 hO4 ⟨hCl, hs1, by omega⟩
      clear hc4 hO4 e3
      go_wp2_with fail
      go_meet
      case rel => exact ⟨u, n4, by rw [show (((l.length : Nat) : Int) == 0) = false from by simp; intro h9; exact hz (by simp [h9])]; rfl, hn4, fun _ => Nat.pos_of_ne_zero hz, e4⟩
  case rest =>
    obtain ⟨u, n4, rfl, hn4, hul, e4⟩ := hcut
    clear e3
    generalize wc = w4 at *
    have hh : C < w.heap.size ∧ w.heap.size < M ∧ M < M + 1 := ⟨hCl, hs1, by omega⟩
    have e5 := e4.step e4.cur.drew (⟨rfl, rfl, rfl, rfl, fun _ _ => rfl⟩ : Only C w4 w4.drew) hh
    have z0 := e5.m.c0
    have z1 := e5.m.c1
    cases u with
    | true =>
      have hz : IntKind.i64.wrap ((N : Int) + 1) = (N : Int) + 1 := IntWalk.i64_in _ ⟨by omega, by omega⟩
      clear hul
      go_wp2_with fail
      go_region_held3 (fun w' => w'.cell? ⟨M, 0, none⟩ = some (.int .i64 W) ∧ w'.cell? ⟨M, 1, none⟩ = some (.slice a' N c'))
    (first | (exact keepE e5.m) | (exact keepE e6.m) | (exact keepE e7.m) | (exact keepE ((e7.m.far _ (by omega)).far _ (by omega))) | (fail))
    (first | (go_at_call 76; refine (pick_any C a len cap n6 ((N : Int) + 1) _ e6.cur (by omega)).mono ?_; rintro e w7 ⟨p7, n7, rfl, h70, h71, h72, hn7, hc7, hO7⟩; have e7 := e6.step hc7 hO7 hh; have y0 := e7.r.c0; have y1 := e7.r.c1; have f0 := e7.r.fz 0; have f1 := e7.r.fz 1; have l7 := e7.r.lt) | (go_at_call 76; refine (pick_any C a len cap n4 ((N : Int) + 1) _ e5.cur (by omega)).mono ?_; rintro e w6 ⟨p6, n6, rfl, h60, h61, h62, hn6, hc6, hO6⟩; have e6 := e5.step hc6 hO6 hh) | (fail))
      have hw7 : IntKind.i64.wrap (p7 - 1) = p7 - 1 := IntWalk.i64_in _ ⟨by omega, by omega⟩
      have bE := (e7.r.set 0 (by simp) (.int .i64 W)).set 1 (by simp) (.slice a' N c')
      have hQ := lq_set (lq_set e7.q (b := w.heap.size) (k := 0) (.int .i64 W) (.inl (by omega))) (b := w.heap.size) (k := 1) (.slice a' N c') (.inl (by omega))
      have hTz := turns_put2 e7.t (M := w.heap.size) (Nat.le_refl _) (.int .i64 W) (.slice a' N c')
      go_wp2_with fail
      refine ret_en Try.results38 rfl bE.c0 bE.c1 rfl ?_
      exact ⟨⟨W, a', N, c', F, _, _, rfl, hN, hQ.wide (by omega) (by have := e7.m.lt; simp; omega)⟩, hTz⟩
    | false =>
      have hpos := hul rfl
      clear hul z0 z1
      obtain ⟨g, rfl, hg0, hg1, hPg⟩ := e5.p hpos
      have z0 := e5.m.c0
      have z1 := e5.m.c1
      go_wp2_with fail
      refine wp_region_held (S := fun w' => (w'.cell? ⟨M, 0, none⟩ = some (.int .i64 W) ∧ w'.cell? ⟨M, 1, none⟩ = some (.slice a' N c')) ∧ IP w' g l.length (gl l)) (by kernel_rfl) ?_
      change wpAnyH _ _ _ _ _ _ _ _ (World.drew _)
      have hSw := (⟨keepE e5.m, hPg⟩ : (_ ∧ _) ∧ _)
      refine wpAnyH_take (i := 0) (v := cel W a' N c') rfl (by kernel_rfl) (by kernel_rfl) (by kernel_rfl) (fun _ _ _ h => h) (Or.inl ⟨by rfl, ?_⟩) hSw ?_
      · intro wz hsz
        obtain ⟨⟨z0, z1⟩, hP⟩ := hsz
        go_simp
      try simp [Act.put]
      refine wpAnyH_take (i := 1) (v := .slice (some ⟨g, 0, none⟩) l.length lc) rfl (by kernel_rfl) (by kernel_rfl) (by kernel_rfl) (fun _ _ _ h => h) (Or.inl ⟨by rfl, ?_⟩) hSw ?_
      · intro wz hsz
        obtain ⟨⟨z0, z1⟩, hP⟩ := hsz
        go_simp
      try simp [Act.put]
      refine wpAnyH_take (i := 2) (v := .pointer (some ⟨C, 0, none⟩)) rfl (by kernel_rfl) (by kernel_rfl) (by kernel_rfl) (fun _ _ _ h => h) (Or.inl ⟨by rfl, ?_⟩) hSw ?_
      · intro wz hsz
        obtain ⟨⟨z0, z1⟩, hP⟩ := hsz
        go_simp
      try simp [Act.put]
      refine wpAnyH_take (i := 3) (v := .slice (some ⟨g, 0, none⟩) l.length lc) rfl (by kernel_rfl) (by kernel_rfl) (by kernel_rfl) (fun _ _ _ h => h) (Or.inl ⟨by rfl, ?_⟩) hSw ?_
      · intro wz hsz
        obtain ⟨⟨z0, z1⟩, hP⟩ := hsz
        go_simp
      try simp [Act.put]
      refine wpAnyH_take (i := 4) (v := .int .i64 (l.length : Int)) rfl (by kernel_rfl) (by kernel_rfl) (by kernel_rfl) (fun _ _ _ h => h) (Or.inl ⟨by rfl, ?_⟩) hSw ?_
      · intro wz hsz
        obtain ⟨⟨z0, z1⟩, hP⟩ := hsz
        go_simp
      try simp [Act.put]
      refine wpAnyH_take (i := 8) (v := .slice (some ⟨g, 0, none⟩) l.length lc) rfl (by kernel_rfl) (by kernel_rfl) (by kernel_rfl) (fun _ _ _ h => h) (Or.inl ⟨by rfl, ?_⟩) hSw ?_
      · intro wz hsz
        obtain ⟨⟨z0, z1⟩, hP⟩ := hsz
        go_simp
      try simp [Act.put]
      refine wpAnyH_take (i := 9) (v := .pointer (some ⟨C, 0, none⟩)) rfl (by kernel_rfl) (by kernel_rfl) (by kernel_rfl) (fun _ _ _ h => h) (Or.inl ⟨by rfl, ?_⟩) hSw ?_
      · intro wz hsz
        obtain ⟨⟨z0, z1⟩, hP⟩ := hsz
        go_simp
      try simp [Act.put]
      refine wpAnyH_take (i := 10) (v := .slice (some ⟨g, 0, none⟩) l.length lc) rfl (by kernel_rfl) (by kernel_rfl) (by kernel_rfl) (fun _ _ _ h => h) (Or.inl ⟨by rfl, ?_⟩) hSw ?_
      · intro wz hsz
        obtain ⟨⟨z0, z1⟩, hP⟩ := hsz
        go_simp
      try simp [Act.put]
      refine wpAnyH_take (i := 11) (v := .int .i64 (l.length : Int)) rfl (by kernel_rfl) (by kernel_rfl) (by kernel_rfl) (fun _ _ _ h => h) (Or.inl ⟨by rfl, ?_⟩) hSw ?_
      · intro wz hsz
        obtain ⟨⟨z0, z1⟩, hP⟩ := hsz
        go_simp
      try simp [Act.put]
      refine wpAnyH_ready (rs := [5]) (by kernel_rfl) (by simp) ?_
      refine AllReadyH.cons rfl (fun K hK => ?_) AllReadyH.nil
      go_simp
      go_at_call 76
      refine (pick_any C a len cap n4 (l.length : Int) _ e5.cur (by omega)).mono ?_
      rintro e w6 ⟨p6, n6, rfl, h60, h61, h62, hn6, hc6, hO6⟩
      have e6 := e5.step hc6 hO6 hh
      have hP6 := ip_only hPg hO6 (by omega)
      have h61 := h61 (by omega)
      refine hK.out _ _ (⟨keepE e6.m, hP6⟩) (fun hSn => ?_)
      clear hK K hSw
      have hSw := hSn
      clear hSn
      try simp [Act.put]
      refine wpAnyH_take (i := 6) (v := .pointer (some ⟨g, p6.toNat, none⟩)) rfl (by kernel_rfl) (by kernel_rfl) (by kernel_rfl) (fun _ _ _ h => h) (Or.inl ⟨by rfl, ?_⟩) hSw ?_
      · intro wz hsz
        obtain ⟨⟨z0, z1⟩, hP⟩ := hsz
        have j0 : ¬ p6 < 0 := (by omega); have j1 : ¬ (l.length : Int) ≤ p6 := (by omega)
        go_simp
      try simp [Act.put]
      refine wpAnyH_take (i := 7) (v := .int .i64 (gl l p6.toNat)) rfl (by kernel_rfl) (by kernel_rfl) (by kernel_rfl) (fun _ _ _ h => h) (Or.inl ⟨by rfl, ?_⟩) hSw ?_
      · intro wz hsz
        obtain ⟨⟨z0, z1⟩, hP⟩ := hsz
        have i6 := hP.at p6 h60 h61
        go_simp
      try simp [Act.put]
      refine wpAnyH_ready (rs := [12]) (by kernel_rfl) (by simp) ?_
      refine AllReadyH.cons rfl (fun K hK => ?_) AllReadyH.nil
      go_simp
      go_at_call 76
      refine (pick_any C a len cap n6 (l.length : Int) _ e6.cur (by omega)).mono ?_
      rintro e w7 ⟨p7, n7, rfl, h70, h71, h72, hn7, hc7, hO7⟩
      have e7 := e6.step hc7 hO7 hh
      have hP7 := ip_only hP6 hO7 (by omega)
      have h71 := h71 (by omega)
      refine hK.out _ _ (⟨keepE e7.m, hP7⟩) (fun hSn => ?_)
      clear hK K hSw
      have hSw := hSn
      clear hSn
      try simp [Act.put]
      refine wpAnyH_take (i := 13) (v := .pointer (some ⟨g, p7.toNat, none⟩)) rfl (by kernel_rfl) (by kernel_rfl) (by kernel_rfl) (fun _ _ _ h => h) (Or.inl ⟨by rfl, ?_⟩) hSw ?_
      · intro wz hsz
        obtain ⟨⟨z0, z1⟩, hP⟩ := hsz
        have j0 : ¬ p7 < 0 := (by omega); have j1 : ¬ (l.length : Int) ≤ p7 := (by omega)
        go_simp
      try simp [Act.put]
      refine wpAnyH_take (i := 14) (v := .int .i64 (gl l p7.toNat)) rfl (by kernel_rfl) (by kernel_rfl) (by kernel_rfl) (fun _ _ _ h => h) (Or.inl ⟨by rfl, ?_⟩) hSw ?_
      · intro wz hsz
        obtain ⟨⟨z0, z1⟩, hP⟩ := hsz
        have i7 := hP.at p7 h70 h71
        go_simp
      try simp [Act.put]
      refine wpAnyH_ready (rs := [15]) (by kernel_rfl) (by simp) ?_
      refine AllReadyH.cons rfl (fun K hK => ?_) AllReadyH.nil
      go_simp
      have y0 := e7.r.c0
      have y1 := e7.r.c1
      have f0 := e7.r.fz 0
      have f1 := e7.r.fz 1
      have l7 := e7.r.lt
      try go_simp
      refine hK.out _ _ (⟨keepE ((e7.m.far _ (by omega)).far _ (by omega)), (hP7.set_far _ (by omega)).set_far _ (by omega)⟩) (fun hSn => ?_)
      clear hK K hSw
      have hSw := hSn
      clear hSn
      try simp [Act.put]
      refine wpAnyH_take (i := 16) (v := .int .i64 (gl l p6.toNat)) rfl (by kernel_rfl) (by kernel_rfl) (by kernel_rfl) (fun _ _ _ h => h) (Or.inl ⟨by rfl, ?_⟩) hSw ?_
      · intro wz hsz
        obtain ⟨⟨z0, z1⟩, hP⟩ := hsz
        go_simp
      try simp [Act.put]
      refine wpAnyH_take (i := 17) (v := .int .i64 (gl l p7.toNat)) rfl (by kernel_rfl) (by kernel_rfl) (by kernel_rfl) (fun _ _ _ h => h) (Or.inl ⟨by rfl, ?_⟩) hSw ?_
      · intro wz hsz
        obtain ⟨⟨z0, z1⟩, hP⟩ := hsz
        go_simp
      try simp [Act.put]
      refine wpAnyH_done (by kernel_rfl) ?_ _
      have bE := (e7.r.set 0 (by simp) (.int .i64 W)).set 1 (by simp) (.slice a' N c')
      have hQ := lq_set (lq_set e7.q (b := w.heap.size) (k := 0) (.int .i64 W) (.inl (by omega))) (b := w.heap.size) (k := 1) (.slice a' N c') (.inl (by omega))
      have hTz := turns_put2 e7.t (M := w.heap.size) (Nat.le_refl _) (.int .i64 W) (.slice a' N c')
      go_wp2_with fail
      refine ret_en Try.results38 rfl bE.c0 bE.c1 rfl ?_
      exact ⟨⟨W, a', N, c', F, _, _, rfl, hN, hQ.wide (by omega) (by have := e7.m.lt; simp; omega)⟩, hTz⟩
end Go.Proofs.Ytfciecoigfnnhaa
