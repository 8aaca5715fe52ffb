/- Where two may be a tick later who do not meet, as the program tells it. -/
import Derived.Test.YtbndhhjgjalecabDoorQCwLfI
import Derived.Test.YtbndhhjgjalecabDoorQCwSe
import Derived.Test.YtbndhhjgjalecabDoorQCwJtM
import Derived.Test.YtbndhhjgjalecabDoorQCwMeI
namespace Go.Proofs.YtbndhhjgjalecabDoor
open Go.RowKit

/-- the pairs of a list: numbers, all of them ways on -/
structure Prs (W : Int) (n : Nat) (f : Nat → Int) (x y m : Nat) (G : Nat → Int) : Prop where
  each : ∀ k, k < m → ∃ u v : Nat, G (k * 2) = (u : Int) ∧ G (k * 2 + 1) = (v : Int) ∧ u < n ∧ v < n ∧ JNb W n f (x * n + y) (u * n + v)
/-- those of the first pairs of two lists are there -/
def Hv (G : Nat → Int) (m : Nat) (u v : Nat) : Prop := ∃ k, k < m ∧ G (k * 2) = (u : Int) ∧ G (k * 2 + 1) = (v : Int)
def Got (W : Int) (n : Nat) (f : Nat → Int) (x y : Nat) (l r : List Int) (i j m : Nat) (G : Nat → Int) : Prop :=
  ∀ (p q : Nat) (u v : Nat), p < l.length → q < r.length → gl l p = (u : Int) → gl r q = (v : Int) → (p < i ∨ (p = i ∧ q < j)) → JNb W n f (x * n + y) (u * n + v) → Hv G m u v
theorem Hv.app {G : Nat → Int} {m u v : Nat} {H : Nat → Int} (h : Hv G m u v) : Hv (fun j => if j < m * 2 then G j else H (j - m * 2)) (m + 1) u v := by
  obtain ⟨k, hk, h1, h2⟩ := h
  refine ⟨k, by omega, ?_, ?_⟩
  · show (if k * 2 < m * 2 then _ else _) = _
    rw [if_pos (by omega)]; exact h1
  · show (if k * 2 + 1 < m * 2 then _ else _) = _
    rw [if_pos (by omega)]; exact h2
theorem hv_new {G : Nat → Int} {m u v : Nat} {H : Nat → Int} (h0 : H 0 = (u : Int)) (h1 : H 1 = (v : Int)) : Hv (fun j => if j < m * 2 then G j else H (j - m * 2)) (m + 1) u v := by
  refine ⟨m, by omega, ?_, ?_⟩
  · show (if m * 2 < m * 2 then _ else _) = _
    rw [if_neg (by omega), Nat.sub_self]; exact h0
  · show (if m * 2 + 1 < m * 2 then _ else _) = _
    rw [if_neg (by omega), show m * 2 + 1 - m * 2 = 1 by omega]; exact h1
theorem Prs.app {W : Int} {n : Nat} {f : Nat → Int} {x y m : Nat} {G : Nat → Int} {u v : Nat} {H : Nat → Int} (h : Prs W n f x y m G) (h0 : H 0 = (u : Int)) (h1 : H 1 = (v : Int)) (hu : u < n) (hv : v < n) (hj : JNb W n f (x * n + y) (u * n + v)) : Prs W n f x y (m + 1) (fun j => if j < m * 2 then G j else H (j - m * 2)) := by
  refine ⟨fun k hk => ?_⟩
  by_cases e : k = m
  · subst e
    refine ⟨u, v, ?_, ?_, hu, hv, hj⟩
    · show (if k * 2 < k * 2 then _ else _) = _
      rw [if_neg (by omega), Nat.sub_self]; exact h0
    · show (if k * 2 + 1 < k * 2 then _ else _) = _
      rw [if_neg (by omega), show k * 2 + 1 - k * 2 = 1 by omega]; exact h1
  · obtain ⟨u', v', g0, g1, g2⟩ := h.each k (by omega)
    refine ⟨u', v', ?_, ?_, g2⟩
    · show (if k * 2 < m * 2 then _ else _) = _
      rw [if_pos (by omega)]; exact g0
    · show (if k * 2 + 1 < m * 2 then _ else _) = _
      rw [if_pos (by omega)]; exact g1
/-- what laterOfBoth tells -/
def AnsPr (W : Int) (n : Nat) (f : Nat → Int) (x y : Nat) (w w' : World) (e : Ending) : Prop :=
  ∃ (v : Value) (m : Nat) (G : Nat → Int), e = .returned v ∧ m ≤ 25 ∧ Qi w' w.heap.size 2 v m G ∧ Prs W n f x y m G ∧ ∀ q, JNb W n f (x * n + y) q → ∃ u v : Nat, q = u * n + v ∧ Hv G m u v
theorem qi_none (w : World) (base sz g : Nat) (G : Nat → Int) (h1 : base ≤ g) (h2 : g < w.heap.size) (h3 : ∀ j, w.frozen? ⟨g, j, none⟩ = false) : Qi w base sz (.slice (some ⟨g, 0, none⟩) 0 0) 0 G :=
  ⟨g, 0, 0, rfl, h1, h2, Nat.le_refl _, fun j hj => by omega, fun j hj => by omega, h3⟩
theorem infoC : (Tryd.prog.info? 48).map (fun i => (i.zero, i.size, i.bytes)) = some (some (.agg #[.int .i64 0, .int .i64 0]), 2, 16) := by kernel_rfl
theorem cell_two_new (w : World) (x y : Value) (t : TypeId) : ∀ j u, [x, y][j]? = some u → (w.alloc (.cells #[x, y] t)).cell? ((⟨w.heap.size, 0, none⟩ : Addr).add j) = some u := by
  intro j u hj
  have b := bx_new (w := w) (b := w.heap.size) [x, y] t rfl
  match j with
  | 0 => simp at hj; subst hj; rw [Addr.add_lit]; exact b.c0
  | 1 => simp at hj; subst hj; rw [Addr.add_lit]; exact b.c1
  | k + 2 => simp at hj
theorem mt_jnb {W : Int} {n : Nat} {f : Nat → Int} {x y u v : Nat} (hy : y < n) (hu : u < n) (hv : v < n) (h1 : Stp W n f x u) (h2 : Stp W n f y v) : mtB (u : Int) (v : Int) (x : Int) (y : Int) = false ↔ JNb W n f (x * n + y) (u * n + v) := by
  rw [jnb_pair hu hv, (pair_div hy).1, (pair_div hy).2]
  unfold mtB
  simp only [Bool.or_eq_false_iff, beq_eq_false_iff_ne, Bool.and_eq_false_iff, decide_eq_false_iff_not, ne_eq]
  constructor
  · rintro ⟨a, b⟩
    exact ⟨h1, h2, fun e => a (by omega), fun ⟨e1, e2⟩ => by rcases b with b | b <;> omega⟩
  · rintro ⟨_, _, a, b⟩
    refine ⟨fun e => a (by omega), ?_⟩
    by_cases e : (u : Int) = (y : Int)
    · exact .inr fun e2 => b ⟨by omega, by omega⟩
    · exact .inl e
set_option maxRecDepth 20000 in
set_option maxHeartbeats 4000000 in
theorem both_any (W : Int) (a : Option Addr) (n c : Nat) (f : Nat → Int) (x y : Nat) (w : World) (hf : IL w a n f) (hs : sizedB W n = true) (hx : x < n) (hy : y < n) (hT : Tab w) :
    Calls Tryd.prog 16 #[gr W (hgt W n) a n c, cpv (x : Int) (y : Int)] w fun e w' => AnsPr W n f x y w w' e ∧ Below w.heap.size w w' := by
  obtain ⟨i0, hi, hzz⟩ := Option.map_eq_some_iff.1 infoC
  simp only [Prod.mk.injEq] at hzz
  obtain ⟨hz0, hz1, hz2⟩ := hzz
  have hn := sized_le hs
  have HNN : Hid (∀ u v, u < n → Stp W n f u v → v < n) := fun u v hu h => h.lt hs hu
  have HGetX : Hid (∀ k, k < (nbL W n f x).length → ∃ q : Nat, gl (nbL W n f x) k = (q : Int) ∧ Stp W n f x q) := fun k hk => nbL_get hk
  have HGetY : Hid (∀ k, k < (nbL W n f y).length → ∃ q : Nat, gl (nbL W n f y) k = (q : Int) ∧ Stp W n f y q) := fun k hk => nbL_get hk
  have HAll : Hid (∀ q, JNb W n f (x * n + y) q → ∃ u v p r : Nat, q = u * n + v ∧ p < (nbL W n f x).length ∧ r < (nbL W n f y).length ∧ gl (nbL W n f x) p = (u : Int) ∧ gl (nbL W n f y) r = (v : Int)) := fun q hq => by
    obtain ⟨u, v, e, _, _, h1, h2, _⟩ := hq
    rw [(pair_div hy).1] at h1
    rw [(pair_div hy).2] at h2
    obtain ⟨p, hp, ep⟩ := nbL_all h1
    obtain ⟨r, hr, er⟩ := nbL_all h2
    exact ⟨u, v, p, r, e, hp, hr, ep, er⟩
  have hlx := nbL_len W n f x
  have hly := nbL_len W n f y
  have kX := fun w h hT => later_any W a n c f x w h hs hx hT
  have kY := fun w h hT => later_any W a n c f y w h hs hy hT
  obtain ⟨H, eH⟩ : ∃ H, hgt W n = H := ⟨_, rfl⟩
  rw [eH] at kX kY ⊢
  clear eH
  generalize nbL W n f x = l at *
  generalize nbL W n f y = r at *
  have bG := ((bx_new (w := w) [.int .i64 W, .int .i64 H, .slice a n c] 43 rfl).alloc (.cells #[.int .i64 (x : Int), .int .i64 (y : Int)] 48)).alloc (.cells #[] 48)
  have bN := (bx_new (w := w.alloc (.cells #[.int .i64 W, .int .i64 H, .slice a n c] 43)) (b := w.heap.size + 1) [.int .i64 (x : Int), .int .i64 (y : Int)] 48 (by simp)).alloc (.cells #[] 48)
  have hb1 : Below w.heap.size w (((w.alloc (.cells #[.int .i64 W, .int .i64 H, .slice a n c] 43)).alloc (.cells #[.int .i64 (x : Int), .int .i64 (y : Int)] 48)).alloc (.cells #[] 48)) := (((Below.refl _ _).alloc (Nat.le_refl _) _).alloc (by simp) _).alloc (by simp; omega) _
  have bE := bx_new (w := (w.alloc (.cells #[.int .i64 W, .int .i64 H, .slice a n c] 43)).alloc (.cells #[.int .i64 (x : Int), .int .i64 (y : Int)] 48)) (b := w.heap.size + 1 + 1) [] 48 (by simp)
  have hq0 := qi_none _ (w.heap.size + 1 + 1) 2 (w.heap.size + 1 + 1) (fun _ => 0) (Nat.le_refl _) bE.lt bE.fz
  have x0 := bG.c0
  have x1 := bG.c1
  have x2 := bG.c2
  have y0 := bN.c0
  clear bE
  go_enter Tryd.func16, Tryd.ntmps16
  go_wp2_with fail
  generalize ((w.alloc (.cells #[.int .i64 W, .int .i64 H, .slice a n c] 43)).alloc (.cells #[.int .i64 (x : Int), .int .i64 (y : Int)] 48)).alloc (.cells #[] 48) = w1 at *
  clear x0 x1 x2 y0
  refine (kX w1 (hf.below hb1) (hT.on hb1)).mono ?_
  rintro e w2 ⟨⟨a1, c1, rfl, hL1⟩, hb2⟩
  have hB2 := stepA hb1 hb2
  have bG2 := bG.on hb2
  have bN2 := bN.on hb2
  have hq2 := hq0.on hb2
  have hs1 : w.heap.size + 1 + 1 < w1.heap.size := (hq0.lt _ rfl).2
  have HQ2 : Hid (Qi w2 (w.heap.size + 1 + 1) 2 (.slice (some ⟨w.heap.size + 1 + 1, 0, none⟩) 0 0) 0 (fun _ => 0)) := hq2
  have HBn2 : Hid (Bn w1.heap.size w2.heap.size (.slice (some ⟨w.heap.size + 1 + 1, 0, none⟩) 0 0)) := fun q hq => .inl (by simp [Value.ownBlock] at hq; omega)
  have hIL1 := hL1
  clear kX hb2 bG bN hq0 hq2 hL1 hb1
  obtain ⟨lo1, hlo1⟩ : ∃ lo, lo = w1.heap.size := ⟨_, rfl⟩
  obtain ⟨hi1, hhi1⟩ : ∃ hi, hi = w2.heap.size := ⟨_, rfl⟩
  have hhi1' : hi1 ≤ w2.heap.size := by omega
  have hlow : w.heap.size + 1 + 1 ≤ lo1 := by omega
  rw [← hlo1, ← hhi1] at hIL1 HBn2
  have HB2 : Hid (Below w.heap.size w w2) := hB2
  have HBN0 : Hid (Bx w2 w.heap.size [.int .i64 W, .int .i64 H, .slice a n c]) := bG2
  have HBN1 : Hid (Bx w2 (w.heap.size + 1) [.int .i64 (x : Int), .int .i64 (y : Int)]) := bN2
  have HIL1 : Hid (LQ w2 lo1 hi1 a1 l.length (gl l)) := hIL1
  have HG0 : Hid (Got W n f x y l r 0 0 0 (fun _ => 0)) := fun p q u v _ _ _ _ h => by omega
  clear bG2 bN2 hB2 hIL1 hlo1 hhi1 hs1
  go_wp2
  go_loopw [5, 17] (fun v i wr => ∃ (k m : Nat) (G : Nat → Int), k ≤ l.length ∧ i = .int .i64 (k : Int) ∧ m ≤ k * 5 ∧ Qi wr (w.heap.size + 1 + 1) 2 v m G ∧ Hid (Prs W n f x y m G) ∧ Hid (Got W n f x y l r k 0 m G) ∧ LQ wr lo1 hi1 a1 l.length (gl l) ∧ Bn lo1 hi1 v ∧ hi1 ≤ wr.heap.size ∧ Below (w.heap.size + 1 + 1) w2 wr) (fun _ i _ => l.length - (intOf i).toNat)
  case atStart => exact ⟨0, 0, _, Nat.zero_le _, rfl, Nat.le_refl _, HQ2.out, ⟨fun k hk => absurd hk (Nat.not_lt_zero _)⟩, HG0, HIL1.out, HBn2.out, hhi1', Below.refl _ _⟩
  case round =>
    obtain ⟨k, m, G, hk, rfl, hmk, hq, HPr, HGt, hL, hbn, hh1, hB⟩ := hrel
    clear HQ2 HG0 HBn2
    have hwe : w.heap.size + 1 + 1 ≤ w2.heap.size := by have := HBN1.out.lt; omega
    have bG3 : Bx wr w.heap.size [.int .i64 W, .int .i64 H, .slice a n c] := Bx.below HBN0.out hB (by omega)
    have bN3 : Bx wr (w.heap.size + 1) [.int .i64 (x : Int), .int .i64 (y : Int)] := Bx.below HBN1.out hB (by omega)
    have hBw : Below w.heap.size w wr := Below.trans HB2.out (hB.mono (by omega))
    by_cases hlt : k < l.length
    · obtain ⟨u, hu, hstU⟩ := HGetX.out k hlt
      have hun : u < n := HNN.out x u hx hstU
      obtain ⟨lb, el, hl1, hl2, hIP⟩ := hL (by omega)
      subst el
      have z0 := hIP.c k hlt
      rw [hu] at z0
      have j0 : (0 : Int) ≤ (k : Int) := by omega
      have j1 : (k : Int) < (l.length : Int) := by omega
      have x0 := bG3.c0
      have x1 := bG3.c1
      have x2 := bG3.c2
      have y1 := bN3.c1
      have hfr := hf.below hBw
      have hTr := hT.on hBw
      obtain ⟨g0, off0, cap0, rfl, -⟩ := hq.shape
      go_wp2_with fail
      refine (kY wr hfr hTr).mono ?_
      rintro e w3 ⟨⟨a2, c2, rfl, hL2⟩, hb3⟩
      have hq3 := hq.on hb3
      have hL3 := hL.on hb3
      have bN4 := bN3.on hb3
      have bG4 := bG3.on hb3
      have hB3 : Below (w.heap.size + 1 + 1) w2 w3 := hB.trans (hb3.mono (by have := hB.size; omega))
      have hbn2 : Bn wr.heap.size w3.heap.size (.slice (some ⟨g0, off0, none⟩) m cap0) := fun q hq' => .inl (hq.lt q hq').2
      have hsz3 := hb3.size
      obtain ⟨lo2, hlo2⟩ : ∃ lo, lo = wr.heap.size := ⟨_, rfl⟩
      obtain ⟨hi2, hhi2⟩ : ∃ hi, hi = w3.heap.size := ⟨_, rfl⟩
      have hhi2' : hi2 ≤ w3.heap.size := by omega
      have hh13 : hi1 ≤ w3.heap.size := by omega
      rw [← hlo2, ← hhi2] at hL2 hbn2
      have hlow2 : w.heap.size + 1 + 1 ≤ lo2 := by have := hB.size; omega
      have HS : Hid (Qi w3 (w.heap.size + 1 + 1) 2 (.slice (some ⟨g0, off0, none⟩) m cap0) m G ∧ LQ w3 lo1 hi1 (some ⟨lb, 0, none⟩) l.length (gl l) ∧ LQ w3 lo2 hi2 a2 r.length (gl r)) := (⟨hq3, hL3, hL2⟩ : _ ∧ _ ∧ _)
      have HBN4 : Hid (Bx w3 (w.heap.size + 1) [.int .i64 (x : Int), .int .i64 (y : Int)]) := bN4
      clear hq3 hL3 hL2 bN4 bG4 hb3 hB hBw hfr hTr hq hL bG3 bN3 x0 x1 x2 y1 z0 hIP hlo2 hhi2 hsz3 hh1
      go_wp2
      go_loopw [5, 26] (fun v i wx => ∃ (j m : Nat) (G : Nat → Int), j ≤ r.length ∧ i = .int .i64 (j : Int) ∧ m ≤ k * 5 + j ∧ Qi wx (w.heap.size + 1 + 1) 2 v m G ∧ Hid (Prs W n f x y m G) ∧ Hid (Got W n f x y l r k j m G) ∧ LQ wx lo1 hi1 (some ⟨lb, 0, none⟩) l.length (gl l) ∧ LQ wx lo2 hi2 a2 r.length (gl r) ∧ Bn lo1 hi1 v ∧ Bn lo2 hi2 v ∧ hi1 ≤ wx.heap.size ∧ hi2 ≤ wx.heap.size ∧ Below (w.heap.size + 1 + 1) w3 wx) (fun _ i _ => r.length - (intOf i).toNat)
      case atStart => exact ⟨0, m, G, Nat.zero_le _, rfl, by omega, HS.out.1, HPr, HGt, HS.out.2.1, HS.out.2.2, hbn, hbn2, hh13, hhi2', Below.refl _ _⟩
      case round =>
        obtain ⟨j, m, G, hj, rfl, hmj, hq, HPr, HGt, hL, hL2, hbn, hbn2, hh1, hh2, hB⟩ := hrel
        clear HS
        obtain ⟨g0, off0, cap0, rfl, hg1, hg2, -⟩ := hq.shape
        by_cases hlt2 : j < r.length
        · obtain ⟨v, hv, hstV⟩ := HGetY.out j hlt2
          have hvn : v < n := HNN.out y v hy hstV
          obtain ⟨rb, er, hr1, hr2, hIP⟩ := hL2 (by omega)
          subst er
          have z0 := hIP.c j hlt2
          rw [hv] at z0
          have i0' : (0 : Int) ≤ (j : Int) := by omega
          have i1 : (j : Int) < (r.length : Int) := by omega
          have bN5 : Bx wr (w.heap.size + 1) [.int .i64 (x : Int), .int .i64 (y : Int)] := Bx.below HBN4.out hB (by omega)
          have y0 := bN5.c0
          have y1 := bN5.c1
          have lN := bN5.lt
          have hBt : Below wr.heap.size wr (wr.alloc (.cells #[.int .i64 (u : Int), .int .i64 (v : Int)] 48)) := (Below.refl _ _).alloc (Nat.le_refl _) _
          have bT := bx_new (w := wr) (b := wr.heap.size) [.int .i64 (u : Int), .int .i64 (v : Int)] 48 rfl
          have kM := meet_any (u : Int) (v : Int) (x : Int) (y : Int) (wr.alloc (.cells #[.int .i64 (u : Int), .int .i64 (v : Int)] 48))
          have HJ : Hid (mtB (u : Int) (v : Int) (x : Int) (y : Int) = false ↔ JNb W n f (x * n + y) (u * n + v)) := mt_jnb hy hun hvn hstU hstV
          have hmm : m ≤ 25 := by omega
          have hq4 := hq.on hBt
          have hL4 := hL.on hBt
          have hL5 := hL2.on hBt
          have hBz : w.heap.size + 1 + 1 ≤ wr.heap.size := by omega
          have hB4 : Below (w.heap.size + 1 + 1) w3 (wr.alloc (.cells #[.int .i64 (u : Int), .int .i64 (v : Int)] 48)) := hB.trans (hBt.mono hBz)
          have hs4 := hBt.size
          have HU : Hid (gl l k = (u : Int)) := hu
          have HV : Hid (gl r j = (v : Int)) := hv
          clear hIP hq hL hL2 hB bN5
          generalize mtB (u : Int) (v : Int) (x : Int) (y : Int) = R at kM HJ
          go_wp2_with fail
          obtain ⟨Tb, eT⟩ : ∃ Tb, wr.heap.size = Tb := ⟨_, rfl⟩
          rw [eT] at bT ⊢
          generalize wr.alloc (.cells #[.int .i64 (u : Int), .int .i64 (v : Int)] 48) = w4 at *
          refine kM.mono ?_
          rintro e w5 ⟨rfl, hb5⟩
          have bT5 := bT.on hb5
          have hq5 := hq4.on hb5
          have hL6 := hL4.on hb5
          have hL7 := hL5.on hb5
          have hs5 := hb5.size
          have hB5 : Below (w.heap.size + 1 + 1) w3 w5 := hB4.trans (hb5.mono (by omega))
          clear kM hb5 bT hq4 hL4 hL5 hB4 hBt y0 y1 z0 eT
          cases R with
          | true =>
            have HG2 : Hid (Got W n f x y l r k (j + 1) m G) := fun p q u' v' hp hq' h1 h2 h3 h4 => by
              rcases h3 with h3 | ⟨h3, h5⟩
              · exact HGt p q u' v' hp hq' h1 h2 (.inl h3) h4
              · by_cases e : q = j
                · subst e; subst h3
                  have e1 : u' = u := by have := HU.out; omega
                  have e2 : v' = v := by have := HV.out; omega
                  rw [e1, e2] at h4
                  have := HJ.out.2 h4
                  cases this
                · exact HGt p q u' v' hp hq' h1 h2 (.inr ⟨h3, by omega⟩) h4
            clear HJ HGt bT5
            go_wp2
            exact ⟨⟨j + 1, m, G, by omega, by go_num, by omega, hq5, HPr, HG2, hL6, hL7, hbn, hbn2, by omega, by omega, hB5⟩, by simp [intOf]; omega⟩
          | false =>
            have hjn := HJ.out.1 rfl
            have t0 := bT5.c0
            have t1 := bT5.c1
            have lT := bT5.lt
            have HB5 : Hid (Below (w.heap.size + 1 + 1) w3 w5) := hB5
            have HL6 : Hid (LQ w5 lo1 hi1 (some ⟨lb, 0, none⟩) l.length (gl l)) := hL6
            have HL7 : Hid (LQ w5 lo2 hi2 (some ⟨rb, 0, none⟩) r.length (gl r)) := hL7
            have HQ5 : Hid (Qi w5 (w.heap.size + 1 + 1) 2 (.slice (some ⟨g0, off0, none⟩) m cap0) m G) := hq5
            have hal : Qi (w5.alloc (.cells #[.int .i64 (u : Int), .int .i64 (v : Int)] 48)) (w.heap.size + 1 + 1) 2 (.slice (some ⟨g0, off0, none⟩) m cap0) m G := hq5.on ((Below.refl _ _).alloc (Nat.le_refl _) _)
            have b1 : w.heap.size + 1 + 1 ≤ (w5.alloc (.cells #[.int .i64 (u : Int), .int .i64 (v : Int)] 48)).heap.size := by simp; omega
            have HJN : Hid (JNb W n f (x * n + y) (u * n + v)) := hjn
            clear HJ hjn hq5 hL6 hL7 hB5 bT5
            go_wp2_with (first | (at_builtin; refine wpList_append_qi rfl _ _ 59 rfl 48 i0 (.agg #[.int .i64 0, .int .i64 0]) 2 16 Tryd.underlying59 hi hz0 hz1 hz2 rfl (by decide) rfl hal b1 ⟨w5.heap.size, 0, none⟩ 1 (fun j => if j = 0 then (u : Int) else (v : Int)) rfl (cell_two_new _ _ _ _) (by unfold maxLen; omega) (by omega) ?_; intro v' w6 hq6 hgr6 hwh6) | fail)
            have hb6 : Below (w.heap.size + 1 + 1) w5 w6 := ((Below.refl _ _).alloc (by omega) _).grown hgr6 (by simp; omega) (fun q hq' => (HQ5.out.lt q hq').1)
            have hs6 := hb6.size
            refine ⟨⟨j + 1, m + 1, _, by omega, by go_num, by omega, hq6, HPr.app (H := fun j => if j = 0 then (u : Int) else (v : Int)) rfl rfl hun hvn HJN.out, fun p q u' v' hp hq' h1 h2 h3 h4 => ?_, lq_app HL6.out hbn hgr6, lq_app HL7.out hbn2 hgr6, whr_bn hwh6 hbn (by simp; omega), whr_bn hwh6 hbn2 (by simp; omega), by omega, by omega, Below.trans HB5.out hb6⟩, by simp [intOf]; omega⟩
            rcases h3 with h3 | ⟨h3, h5⟩
            · exact Hv.app (H := fun j => if j = 0 then (u : Int) else (v : Int)) (HGt p q u' v' hp hq' h1 h2 (.inl h3) h4)
            · by_cases e : q = j
              · subst e; subst h3
                have e1 : u' = u := by have := HU.out; omega
                have e2 : v' = v := by have := HV.out; omega
                rw [e1, e2]
                exact hv_new (H := fun j => if j = 0 then (u : Int) else (v : Int)) rfl rfl
              · exact Hv.app (H := fun j => if j = 0 then (u : Int) else (v : Int)) (HGt p q u' v' hp hq' h1 h2 (.inr ⟨h3, by omega⟩) h4)
        · have hje : j = r.length := by omega
          have HG2 : Hid (Got W n f x y l r (k + 1) 0 m G) := fun p q u' v' hp hq' h1 h2 h3 h4 => by
            rcases h3 with h3 | ⟨h3, h5⟩
            · by_cases e : p = k
              · exact HGt p q u' v' hp hq' h1 h2 (.inr ⟨e, by omega⟩) h4
              · exact HGt p q u' v' hp hq' h1 h2 (.inl (by omega)) h4
            · omega
          have hB6 : Below (w.heap.size + 1 + 1) w2 wr := hB3.trans hB
          clear HGt
          go_wp2
          exact ⟨⟨k + 1, m, G, by omega, by go_num, by omega, hq, HPr, HG2, hL, hbn, hh1, hB6⟩, by simp [intOf]; omega⟩
    · have hke : k = l.length := by omega
      obtain ⟨g0, off0, cap0, rfl, -⟩ := hq.shape
      have HR : Hid (AnsPr W n f x y w wr (.returned (.slice (some ⟨g0, off0, none⟩) m cap0))) := by
        refine ⟨_, m, G, rfl, by omega, ?_, HPr.out, fun q hq' => ?_⟩
        · obtain ⟨g', o', c', e', y2, y3⟩ := hq
          exact ⟨g', o', c', e', by omega, y3⟩
        · obtain ⟨u, v, p, r', e, hp, hr, ep, er⟩ := HAll.out q hq'
          exact ⟨u, v, e, HGt p r' u v hp hr ep er (.inl (by omega)) (by rw [← e]; exact hq')⟩
      clear hq hL bG3 bN3 HPr HGt
      go_wp2
      go_ret
      exact ⟨HR.out, hBw⟩
end Go.Proofs.YtbndhhjgjalecabDoor
