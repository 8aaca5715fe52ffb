/- Frames copied, as the model does it (tools/gen_bud.py). -/
import Derived.Test.YtldagjgpapnfpaaQBuC
namespace Go.Proofs.Ytldagjgpapnfpaa
open Go.RowKit
section
variable {w w' : World} {lo hi lo' hi' : Nat}
/-- bytes that lie in a range of blocks -/
def YR (w : World) (lo hi : Nat) (a : Option Addr) (n : Nat) (S : Nat → Int) : Prop :=
  0 < n → ∃ b off, a = some ⟨b, off, none⟩ ∧ lo ≤ b ∧ b < hi ∧ b < w.heap.size ∧ ∀ i, i < n → w.cell? ⟨b, off + i, none⟩ = some (.int .u8 (S i))
theorem YR.of {a : Option Addr} {n : Nat} {S : Nat → Int} (h : YR w lo hi a n S) (hs : w.heap.size ≤ w'.heap.size) (hb : ∀ x, x < w.heap.size → lo ≤ x → x < hi → w'.heap[x]? = w.heap[x]?) : YR w' lo hi a n S := fun h0 => by
  obtain ⟨b, off, e, h1, h2, h3, hc⟩ := h h0
  exact ⟨b, off, e, h1, h2, Nat.lt_of_lt_of_le h3 hs, fun i hi => (cell_same (hb b h3 h1 h2) _).trans (hc i hi)⟩
theorem YR.wide {a : Option Addr} {n : Nat} {S : Nat → Int} (h : YR w lo hi a n S) (h0 : lo' ≤ lo) (h1 : hi ≤ hi') : YR w lo' hi' a n S := fun hn => by
  obtain ⟨b, off, e, h2, h3, h4, hc⟩ := h hn
  exact ⟨b, off, e, Nat.le_trans h0 h2, Nat.lt_of_lt_of_le h3 h1, h4, hc⟩
theorem YR.yl {a : Option Addr} {n : Nat} {S : Nat → Int} (h : YR w lo hi a n S) : YL w a n S := fun hn => by
  obtain ⟨b, off, e, _, _, h4, hc⟩ := h hn
  exact ⟨b, off, e, h4, hc⟩
theorem VQ.yr {a : Option Addr} {n : Nat} {S : Nat → Int} (h : VQ w lo hi a n (fun i => .int .u8 (S i))) : YR w lo hi a n S := fun hn => by
  obtain ⟨b, rfl, h1, h2, hP⟩ := h hn
  exact ⟨b, 0, rfl, h1, h2, hP.lt, fun i hi => by rw [Nat.zero_add]; exact hP.c i hi⟩
/-- frames that lie in a range of blocks -/
def FrR (w : World) (lo hi : Nat) (a : Option Addr) (m : Nat) (I : Nat → Int) (N : Nat → Nat) (S : Nat → Nat → Int) : Prop :=
  ∃ (A : Nat → Option Addr) (C : Nat → Nat), (0 < m → ∃ b off, a = some ⟨b, off, none⟩ ∧ lo ≤ b ∧ b < hi ∧ b < w.heap.size ∧ ∀ j, j < m → w.cell? ⟨b, off + j * 2, none⟩ = some (.int .i64 (I j)) ∧ w.cell? ⟨b, off + j * 2 + 1, none⟩ = some (.slice (A j) (N j) (C j))) ∧ ∀ j, j < m → YR w lo hi (A j) (N j) (S j) ∧ Shp (A j) (N j) (C j)
section
variable {a : Option Addr} {m : Nat} {I : Nat → Int} {N : Nat → Nat} {S : Nat → Nat → Int}
theorem FrR.of (h : FrR w lo hi a m I N S) (hs : w.heap.size ≤ w'.heap.size) (hb : ∀ x, x < w.heap.size → lo ≤ x → x < hi → w'.heap[x]? = w.heap[x]?) : FrR w' lo hi a m I N S := by
  obtain ⟨A, C, h1, h2⟩ := h
  refine ⟨A, C, fun h0 => ?_, fun j hj => ⟨(h2 j hj).1.of hs hb, (h2 j hj).2⟩⟩
  obtain ⟨b, off, e, h3, h4, h5, hc⟩ := h1 h0
  exact ⟨b, off, e, h3, h4, Nat.lt_of_lt_of_le h5 hs, fun j hj => ⟨(cell_same (hb b h5 h3 h4) _).trans (hc j hj).1, (cell_same (hb b h5 h3 h4) _).trans (hc j hj).2⟩⟩
theorem FrR.on (h : FrR w lo hi a m I N S) (k : Below w.heap.size w w') : FrR w' lo hi a m I N S := h.of k.size fun x h1 _ _ => k.block x h1
theorem FrR.turns (h : FrR w lo hi a m I N S) (k : Turns lo' hi' w w') (hd : hi ≤ lo' ∨ hi' ≤ lo) : FrR w' lo hi a m I N S := h.of k.size fun x h1 _ _ => k.block x h1 (by omega)
theorem FrR.wide (h : FrR w lo hi a m I N S) (h0 : lo' ≤ lo) (h1 : hi ≤ hi') : FrR w lo' hi' a m I N S := by
  obtain ⟨A, C, h2, h3⟩ := h
  refine ⟨A, C, fun hn => ?_, fun j hj => ⟨(h3 j hj).1.wide h0 h1, (h3 j hj).2⟩⟩
  obtain ⟨b, off, e, h4, h5, hc⟩ := h2 hn
  exact ⟨b, off, e, Nat.le_trans h0 h4, Nat.lt_of_lt_of_le h5 h1, hc⟩
theorem FrR.ff (h : FrR w lo hi a m I N S) : ∃ A C, FrF w a m I A N C S := by
  obtain ⟨A, C, h1, h2⟩ := h
  refine ⟨A, C, fun h0 => ?_, fun j hj => (h2 j hj).1.yl, fun j hj => (h2 j hj).2⟩
  obtain ⟨b, off, e, _, _, h5, hc⟩ := h1 h0
  exact ⟨b, off, e, h5, hc⟩
theorem FrR.drop (h : FrR w lo hi a m I N S) {k : Nat} (hk : k ≤ m) (h0 : 0 < m) : ∃ b off, a = some ⟨b, off, none⟩ ∧ FrR w lo hi (some ⟨b, off + k * 2, none⟩) (m - k) (fun j => I (k + j)) (fun j => N (k + j)) (fun j => S (k + j)) := by
  obtain ⟨A, C, h1, h2⟩ := h
  obtain ⟨b, off, e, h3, h4, h5, hc⟩ := h1 h0
  refine ⟨b, off, e, fun j => A (k + j), fun j => C (k + j), fun _ => ⟨b, _, rfl, h3, h4, h5, fun j hj => ?_⟩, fun j hj => h2 (k + j) (by omega)⟩
  have := hc (k + j) (by omega)
  rw [show off + k * 2 + j * 2 = off + (k + j) * 2 by omega]
  exact this
theorem FrQ.fr (h : FrQ w lo hi a m I N S) : FrR w lo hi a m I N S := by
  by_cases h0 : 0 < m
  · obtain ⟨g, A, C, D, rfl, hP⟩ := h h0
    exact ⟨A, C, fun _ => ⟨g, 0, rfl, hP.glo, hP.ghi, hP.lt, fun j hj => by rw [Nat.zero_add]; exact hP.c j hj⟩, fun j hj => ⟨(hP.y j hj).yr.wide (hP.dlo (Nat.le_of_lt hj)).1 (hP.dhi hj), hP.s j hj⟩⟩
  · exact ⟨fun _ => none, fun _ => 0, fun h => absurd h h0, fun j hj => absurd hj (by omega)⟩
end
end
/-- copies of the first k frames, so far; the row that grows lies apart from their bytes -/
structure CgP (base : Nat) (wr : World) (v : Value) (k : Nat) (I : Nat → Int) (N : Nat → Nat) (S : Nat → Nat → Int) (A : Nat → Option Addr) (C : Nat → Nat) : Prop where
  own : wr.ownsRow base 54 2 v k (frC I A N C k)
  y : ∀ j, j < k → YR wr base wr.heap.size (A j) (N j) (S j) ∧ ∀ b off, A j = some ⟨b, off, none⟩ → b < wr.heap.size ∧ v.ownBlock ≠ some b
  s : ∀ j, j < k → Shp (A j) (N j) (C j)
section
variable {base : Nat} {w w' : World} {v v' : Value} {k : Nat} {I : Nat → Int} {N : Nat → Nat} {S : Nat → Nat → Int} {A : Nat → Option Addr} {C : Nat → Nat}
theorem CgP.on (h : CgP base w v k I N S A C) (b : Below w.heap.size w w') : CgP base w' v k I N S A C :=
  ⟨owns_on h.own b, fun j hj => ⟨((h.y j hj).1.of b.size fun x hx _ _ => b.block x hx).wide (Nat.le_refl _) b.size, fun q off e => ⟨Nat.lt_of_lt_of_le ((h.y j hj).2 q off e).1 b.size, ((h.y j hj).2 q off e).2⟩⟩, h.s⟩
theorem CgP.shape (h : CgP base w v k I N S A C) : ∃ a c, v = .slice a k c ∧ Shp a k c := by
  obtain ⟨_, ⟨rfl, h0⟩ | ⟨g, cap, cur, rfl, _, _, h4, _⟩⟩ := h.own
  · exact ⟨none, 0, by rw [h0], by rw [h0]; exact shp_none⟩
  · exact ⟨_, _, rfl, shp_at _ _ h4⟩
theorem CgP.end {a : Option Addr} {c : Nat} (h : CgP base w (.slice a k c) k I N S A C) : FrR w base w.heap.size a k I N S := by
  refine ⟨A, C, fun h0 => ?_, fun j hj => ⟨(h.y j hj).1, h.s j hj⟩⟩
  have ho := h.own
  obtain ⟨_, ⟨_, h1⟩ | ⟨g, cap, cur, h1, h2, h3, h4, _⟩⟩ := h.own
  · omega
  · cases h1
    refine ⟨g, 0, rfl, h2, (Array.getElem?_eq_some_iff.1 h3).1, (Array.getElem?_eq_some_iff.1 h3).1, fun j hj => ?_⟩
    have hl := frC_len (I := I) (A := A) (N := N) (C := C) k
    rw [Nat.zero_add]
    exact ⟨(World.ownsRow.cellAt ho _ (by omega)).trans (frC_get hj).1, (World.ownsRow.cellAt ho _ (by omega)).trans (frC_get hj).2⟩
theorem CgP.app {w5 w6 : World} {o : Obj} {g' c' : Nat} (h : CgP base w v k I N S A C) (b5 : Below w.heap.size w w5) (hg' : w.heap.size ≤ g') (hg5 : g' < w5.heap.size) (hy : VQ w5 base w5.heap.size (some ⟨g', 0, none⟩) (N k) (fun i => .int .u8 (S k i))) (hs : N k ≤ c')
    (ho : w6.ownsRow base 54 2 v' (k + 1) (frC I A N C k ++ [.int .i64 (I k), .slice (some ⟨g', 0, none⟩) (N k) c'])) (hg : (w5.alloc o).grownBy w6 v.ownBlock) (hat : v'.ownBlock = v.ownBlock ∨ v'.ownBlock = some (w5.alloc o).heap.size) :
    CgP base w6 v' (k + 1) I N S (fun i => if i = k then some ⟨g', 0, none⟩ else A i) (fun i => if i = k then c' else C i) := by
  have h5 := h.on b5
  have hvl : ∀ q, v.ownBlock = some q → q < w.heap.size := fun q hq => (World.ownsRow.lt h.own q hq).2
  have kept : ∀ {a : Option Addr} {m : Nat} {f : Nat → Int}, YR w5 base w5.heap.size a m f → (∀ b off, a = some ⟨b, off, none⟩ → v.ownBlock ≠ some b) → YR w6 base w6.heap.size a m f := fun {a m f} hq hne h0 => by
    obtain ⟨b, off, e, h1, h2, h3, hc⟩ := hq h0
    have ha := ((Below.refl w5.heap.size w5).alloc (Nat.le_refl _) o).block b h3
    have hb := (hg.block b (by simp; omega) (fun e2 => hne b off e e2.symm)).trans ha
    have hz := hg.size
    simp at hz
    exact ⟨b, off, e, h1, by omega, by omega, fun i hi => (cell_same hb _).trans (hc i hi)⟩
  have nb : ∀ b, b < w5.heap.size → v.ownBlock ≠ some b → v'.ownBlock ≠ some b := fun b hb hne e => by
    rcases hat with h1 | h1
    · exact hne (h1.symm.trans e)
    · rw [h1] at e
      have := Option.some.inj e
      simp at this
      omega
  have hz6 := hg.size
  simp at hz6
  refine ⟨?_, fun j hj => ?_, fun j hj => ?_⟩
  · rw [frC, if_pos rfl, if_pos rfl, ← frC_congr (A := A) (C := C) (fun i hi => by rw [if_neg (by omega)]) (fun i hi => by rw [if_neg (by omega)])]
    exact ho
  · by_cases e : j = k
    · subst e
      rw [if_pos rfl]
      have hne : v.ownBlock ≠ some g' := fun e => by have := hvl g' e; omega
      exact ⟨kept hy.yr (fun b off e => by cases e; exact hne), fun b off e => by cases e; exact ⟨by omega, nb g' hg5 hne⟩⟩
    · rw [if_neg e]
      have hy' := h5.y j (by omega)
      exact ⟨kept hy'.1 (fun b off e2 => (hy'.2 b off e2).2), fun b off e2 => ⟨by have := (hy'.2 b off e2).1; omega, nb b (hy'.2 b off e2).1 (hy'.2 b off e2).2⟩⟩
  · by_cases e : j = k
    · subst e; rw [if_pos rfl, if_pos rfl]; exact shp_at _ _ hs
    · rw [if_neg e, if_neg e]; exact h.s j (by omega)
end
def AnsFs (w w' : World) (e : Ending) (n : Nat) (I : Nat → Int) (N : Nat → Nat) (S : Nat → Nat → Int) : Prop := ∃ (a : Option Addr) (c : Nat), e = .returned (.slice a n c) ∧ FrR w' w.heap.size w'.heap.size a n I N S ∧ Shp a n c ∧ Below w.heap.size w w'
set_option maxRecDepth 20000 in
set_option maxHeartbeats 4000000 in
theorem l23Frs (a : Option Addr) (n c : Nat) (I : Nat → Int) (A : Nat → Option Addr) (N C : Nat → Nat) (S : Nat → Nat → Int) (w : World) (hn : n ≤ 1048576) (hN : ∀ j, j < n → N j ≤ 1048576) (hF : FrF w a n I A N C S) :
    Calls Try.prog 34 #[.slice a n c] w fun e w' => AnsFs w w' e n I N S := by
  obtain ⟨i0, hi, hzz⟩ := Option.map_eq_some_iff.1 infoFr
  simp only [Prod.mk.injEq] at hzz
  obtain ⟨hz0, hz1, hz2⟩ := hzz
  have HF : Hid (FrF w a n I A N C S) := hF
  have HN : Hid (∀ j, j < n → N j ≤ 1048576) := hN
  have HS0 : Hid (CgP w.heap.size w (.slice none 0 0) 0 I N S (fun _ => none) (fun _ => 0)) :=
    ⟨World.ownsRow_nil _ _ _ _, fun j hj => absurd hj (Nat.not_lt_zero _), fun j hj => absurd hj (Nat.not_lt_zero _)⟩
  have hb0 := Below.refl w.heap.size w
  clear hF hN
  go_enter Try.func34, Try.ntmps34
  go_wp2
  go_loopw [3, 8] (fun v i wr => ∃ (k : Nat), k ≤ n ∧ i = .int .i64 (k : Int) ∧ Hid (∃ A C, CgP w.heap.size wr v k I N S A C) ∧ Below w.heap.size w wr) (fun _ i _ => n - (intOf i).toNat)
  case atStart => exact ⟨0, Nat.zero_le _, rfl, ⟨_, _, HS0.out⟩, hb0⟩
  case round =>
    obtain ⟨k, hk, rfl, HS, hB⟩ := hrel
    clear HS0 hb0
    obtain ⟨A1, C1, hCf⟩ := HS.out
    obtain ⟨va, vc, rfl, hvs⟩ := hCf.shape
    have HC : Hid (CgP w.heap.size wr (.slice va k vc) k I N S A1 C1) := hCf
    have HV : Hid (Shp va k vc) := hvs
    clear HS hCf hvs
    by_cases hlt : k < n
    · have hF2 := HF.out.below hB
      obtain ⟨b1, o1, rfl, l1, hc1⟩ := hF2.h (by omega)
      obtain ⟨y0, y1⟩ := hc1 k hlt
      have hYk := hF2.y k hlt
      have hSk := hF2.s k hlt
      have hNk := HN.out k hlt
      have j0 : (0 : Int) ≤ (k : Int) := by omega
      have j1 : (k : Int) < (n : Int) := by omega
      clear hc1 hF2
      obtain ⟨X0, e0⟩ : ∃ X, X = I k := ⟨_, rfl⟩
      obtain ⟨X1, e1⟩ : ∃ X, X = A k := ⟨_, rfl⟩
      obtain ⟨X2, e2⟩ : ∃ X, X = N k := ⟨_, rfl⟩
      obtain ⟨X3, e3⟩ : ∃ X, X = C k := ⟨_, rfl⟩
      rw [← e0] at y0
      rw [← e1, ← e2, ← e3] at y1 hSk
      rw [← e1, ← e2] at hYk
      rw [← e2] at hNk
      have HX0 : Hid (X0 = I k) := e0
      have HX2 : Hid (X2 = N k) := e2
      clear e0 e1 e2 e3
      have h1 : Below wr.heap.size wr (wr.alloc (frvO X0 X1 X2 X3 54)) := (Below.refl _ _).alloc (Nat.le_refl _) _
      have bF := bx_new (w := wr) (frvL X0 X1 X2 X3) 54 rfl
      have hY2 := hYk.below h1
      go_upto_region 5 with fail
      generalize hW : wr.alloc (frvO X0 X1 X2 X3 54) = W2 at *
      clear hW hYk
      have bFd : Bx W2.drew wr.heap.size (frvL X0 X1 X2 X3) := bF.on (Below.refl _ _).drew
      have hYd := hY2.below (Below.refl _ _).drew
      have hBd : Below wr.heap.size wr W2.drew := h1.drew
      have hbw : w.heap.size ≤ wr.heap.size := hB.size
      have hW2 : wr.heap.size < W2.heap.size := bF.lt
      refine wp_region_held (S := (fun w' => w'.cell? ⟨wr.heap.size, 0, none⟩ = some (.int .i64 X0) ∧ w'.cell? ⟨wr.heap.size, 1, none⟩ = some (.slice X1 X2 X3))) (by kernel_rfl) ?_
      change wpAnyH _ _ _ _ _ _ _ _ (World.drew _)
      have hSw := (⟨bFd.c0, bFd.c1⟩ : _ ∧ _)
      refine wpAnyH_take (i := 0) (v := .slice va k vc) rfl (by kernel_rfl) (by kernel_rfl) (by kernel_rfl) (fun _ _ _ h => h) (Or.inl ⟨by rfl, ?_⟩) hSw ?_
      · intro wz hsz
        obtain ⟨hc8, hc9⟩ := hsz
        go_simp
      try simp [Act.put]
      refine wpAnyH_take (i := 1) (v := .pointer (some ⟨wr.heap.size, 0, none⟩)) rfl (by kernel_rfl) (by kernel_rfl) (by kernel_rfl) (fun _ _ _ h => h) (Or.inl ⟨by rfl, ?_⟩) hSw ?_
      · intro wz hsz
        obtain ⟨hc8, hc9⟩ := hsz
        go_simp
      try simp [Act.put]
      refine wpAnyH_take (i := 2) (v := .int .i64 X0) rfl (by kernel_rfl) (by kernel_rfl) (by kernel_rfl) (fun _ _ _ h => h) (Or.inl ⟨by rfl, ?_⟩) hSw ?_
      · intro wz hsz
        obtain ⟨hc8, hc9⟩ := hsz
        go_simp
      try simp [Act.put]
      refine wpAnyH_take (i := 4) (v := .pointer (some ⟨wr.heap.size, 1, none⟩)) rfl (by kernel_rfl) (by kernel_rfl) (by kernel_rfl) (fun _ _ _ h => h) (Or.inl ⟨by rfl, ?_⟩) hSw ?_
      · intro wz hsz
        obtain ⟨hc8, hc9⟩ := hsz
        go_simp
      try simp [Act.put]
      refine wpAnyH_take (i := 5) (v := .slice X1 X2 X3) rfl (by kernel_rfl) (by kernel_rfl) (by kernel_rfl) (fun _ _ _ h => h) (Or.inl ⟨by rfl, ?_⟩) hSw ?_
      · intro wz hsz
        obtain ⟨hc8, hc9⟩ := hsz
        go_simp
      try simp [Act.put]
      refine wpAnyH_ready (rs := [3]) (by kernel_rfl) (by simp) ?_
      refine AllReadyH.cons rfl (fun K9 hK => ?_) AllReadyH.nil
      go_simp
      have hL3 : Below W2.drew.heap.size W2.drew (W2.drew.alloc (.cells #[] 5)) := (Below.refl _ _).alloc (Nat.le_refl _) _
      have bF3 := bFd.on hL3
      refine hK.out _ _ (⟨bF3.c0, bF3.c1⟩) (fun hSn => ?_)
      clear hK K9 hSw
      have hSw := hSn
      clear hSn
      try simp [Act.put]
      obtain ⟨g', c', w5, hrun5, hown5, hgr5, hat5⟩ := app_bytes (w := W2.drew.alloc (.cells #[] 5)) (base := wr.heap.size) (g := W2.heap.size) (World.ownsRow_made W2.drew #[] 0 (show wr.heap.size ≤ W2.drew.heap.size from hBd.size) (by unfold maxLen; omega) rfl) (by simp; omega) X1 X2 X3 (S k) hNk hSk (hYd.alloc _)
      have hq5 := owb_vq hown5 rfl
      have hz5 := hgr5.size
      simp only [size_al] at hz5
      have hWd : W2.drew.heap.size = W2.heap.size := rfl
      have hg5 : W2.heap.size ≤ g' ∧ g' < w5.heap.size := by have h1 := (World.ownsRow.lt hown5 g' rfl).2; rcases hat5 with e | e <;> (try simp only [size_al] at e) <;> constructor <;> omega
      have hB5 : Below wr.heap.size wr w5 := (hBd.trans (hL3.mono hBd.size)).grown hgr5 (by simp only [size_al]; omega) (fun q hq => by cases hq; omega)
      have bF5 : Bx w5 wr.heap.size (frvL X0 X1 X2 X3) := ⟨Nat.lt_of_lt_of_le bF3.lt hgr5.size, fun i hi => (cell_same (hgr5.block _ bF3.lt (fun e => by have := Option.some.inj e; omega)) i).trans (bF3.c i hi), fun j => (frozen_same (hgr5.block _ bF3.lt (fun e => by have := Option.some.inj e; omega)) j).trans (bF3.fz j)⟩
      refine wpAnyH_ready (rs := [6]) (by kernel_rfl) (by simp) ?_
      refine AllReadyH.cons rfl (fun K9 hK => ?_) AllReadyH.nil
      refine held_append (by kernel_rfl) (.tmp 15) (.tmp 17) 22 rfl rfl rfl hrun5 ?_
      refine hK.out _ _ (⟨bF5.c0, bF5.c1⟩) (fun hSn => ?_)
      clear hK K9 hSw
      have hSw := hSn
      clear hSn
      try simp [Act.put]
      refine wpAnyH_take (i := 7) (v := frv X0 (some ⟨g', 0, none⟩) X2 c') rfl (by kernel_rfl) (by kernel_rfl) (by kernel_rfl) (fun _ _ _ h => h) (Or.inl ⟨by rfl, ?_⟩) hSw ?_
      · intro wz hsz
        obtain ⟨hc8, hc9⟩ := hsz
        go_simp
      try simp [Act.put]
      refine wpAnyH_ready (rs := [8]) (by kernel_rfl) (by simp) ?_
      refine AllReadyH.cons rfl (fun K9 hK => ?_) AllReadyH.nil
      go_simp
      have bF6 := bF5.on ((Below.refl w5.heap.size w5).alloc (Nat.le_refl _) (frvO X0 (some ⟨g', 0, none⟩) X2 c' 54))
      refine hK.out _ _ (⟨bF6.c0, bF6.c1⟩) (fun hSn => ?_)
      clear hK K9 hSw
      have hSw := hSn
      clear hSn
      try simp [Act.put]
      have hC5 := HC.out.on hB5
      obtain ⟨v6, w6, hrun6, hown6, hgr6, -, hat6⟩ := run_append_own_at (P := Try.prog) (w5.alloc (frvO X0 (some ⟨g', 0, none⟩) X2 c' 54)) w.heap.size 49 49 54 i0 (frv 0 none 0 0) 2 32 Try.underlying49 hi hz0 hz1 hz2 rfl (by decide) (.slice va k vc) k (frC I A1 N C1 k) (World.ownsRow.alloc hC5.own _) ⟨w5.heap.size, 0, none⟩ 1 1 [.int .i64 X0, .slice (some ⟨g', 0, none⟩) X2 c'] rfl (two_new _ _ _ _) (fun u hu => by simp at hu; rcases hu with rfl | rfl <;> rfl) (by unfold maxLen; omega) (by omega) (by simp only [size_al]; omega)
      have hvb : ∀ q, (Value.slice va k vc).ownBlock = some q → w.heap.size ≤ q ∧ q < wr.heap.size := fun q hq => World.ownsRow.lt HC.out.own q hq
      have bF7 : Bx w6 wr.heap.size (frvL X0 X1 X2 X3) := ⟨Nat.lt_of_lt_of_le bF6.lt hgr6.size, fun i hi => (cell_same (hgr6.block _ bF6.lt (fun e => by have := hvb _ e.symm; omega)) i).trans (bF6.c i hi), fun j => (frozen_same (hgr6.block _ bF6.lt (fun e => by have := hvb _ e.symm; omega)) j).trans (bF6.fz j)⟩
      refine wpAnyH_ready (rs := [9]) (by kernel_rfl) (by simp) ?_
      refine AllReadyH.cons rfl (fun K9 hK => ?_) AllReadyH.nil
      refine held_append (by kernel_rfl) (.tmp 12) (.tmp 20) 49 rfl rfl rfl hrun6 ?_
      refine hK.out _ _ (⟨bF7.c0, bF7.c1⟩) (fun hSn => ?_)
      clear hK K9 hSw
      have hSw := hSn
      clear hSn
      try simp [Act.put]
      have hC6 : Hid (CgP w.heap.size w6 v6 (k + 1) I N S _ _) := HC.out.app hB5 (by omega) hg5.2 (by rw [← HX2.out]; exact hq5.1.wide hbw (Nat.le_refl _)) (by rw [← HX2.out]; exact hq5.2) (by rw [← HX0.out, ← HX2.out]; exact hown6) hgr6 hat6
      have hB6 : Below w.heap.size w w6 := (stepA hB hB5).trans ((((Below.refl w5.heap.size w5).alloc (Nat.le_refl _) (frvO X0 (some ⟨g', 0, none⟩) X2 c' 54)).mono (Nat.le_trans hbw hB5.size)).grown hgr6 (by simp only [size_al]; omega) (fun q hq => (hvb q hq).1))
      refine wpAnyH_ready (rs := [10]) (by kernel_rfl) (by simp) ?_
      refine AllReadyH.cons rfl (fun K9 hK => ?_) AllReadyH.nil
      go_simp
      refine hK.out _ _ (hSw) (fun hSn => ?_)
      clear hK K9 hSw
      have hSw := hSn
      clear hSn
      try simp [Act.put]
      refine wpAnyH_done (by kernel_rfl) ?_ _
      clear hSw bF7 bF6 bF5 bF3 bFd bF hY2 hYd h1 hBd hq5 hB5 hC5 hrun5 hown5 hgr5 hrun6 hown6 hgr6 hat6 hat5 hvb hL3
      go_wp2
      exact ⟨⟨k + 1, by omega, by go_num, ⟨_, _, hC6.out⟩, hB6⟩, by simp [intOf]; omega⟩
    · have hke : k = n := by omega
      subst hke
      go_wp2
      go_ret
      exact ⟨va, vc, rfl, HC.out.end, HV.out, hB⟩
end Go.Proofs.Ytldagjgpapnfpaa
