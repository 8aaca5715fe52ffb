/- An opening is put into the heap. -/
import Derived.Test.YtfciecoigfnnhaaQWySwp
import Derived.Deep.AppendLies
import Derived.Deep.RegionLaw
namespace Go.Proofs.Ytfciecoigfnnhaa
open Go.RowKit

theorem infoO : (Try.prog.info? 117).map (fun i => (i.zero, i.size, i.bytes)) = some (some (.agg #[.int .i64 0, .int .i64 0, .int .i64 0]), 3, 24) := by kernel_rfl
theorem add_at (b off j : Nat) : (⟨b, off, none⟩ : Addr).add j = ⟨b, off + j, none⟩ := by unfold Addr.add; split <;> simp_all
theorem news3 (w1 : World) (x : Og) (j : Nat) (u : Value) (hu : [Value.int .i64 x.p, .int .i64 x.a, .int .i64 x.b][j]? = some u) : (w1.drew.alloc (.cells #[.int .i64 x.p, .int .i64 x.a, .int .i64 x.b] 117)).cell? ((⟨w1.heap.size, 0, none⟩ : Addr).add j) = some u := by
  have hb := bx_new (w := w1.drew) (b := w1.heap.size) [.int .i64 x.p, .int .i64 x.a, .int .i64 x.b] 117 rfl
  have hj : j < 3 := by
    rcases Nat.lt_or_ge j 3 with h0 | h0
    · exact h0
    · rw [List.getElem?_eq_none (by simpa using h0)] at hu; cases hu
  rw [add_at, Nat.zero_add]
  exact (hb.c j (by simpa using hj)).trans hu
theorem put_mem {w1 w3 : World} {base Sb m g2 cap2 : Nat} {E : Nat → Og} {x : Og} {v : Value} {o : Obj} (h : Hs w1 base Sb m E) (c : w1.cell? ⟨Sb, 5, none⟩ = some v) (hO : OwO w1 base v m E) (hg : (w1.drew.alloc o).grownBy w3 v.ownBlock)
    (hown : w3.ownsRow base 117 3 (.slice (some ⟨g2, 0, none⟩) (m + 1) cap2) (m + 1) (vL (f3 E) (m * 3) ++ [.int .i64 x.p, .int .i64 x.a, .int .i64 x.b])) (hx : BdO x) (hm : m + 1 ≤ 1048576) (hat : (Value.ownBlock v = some g2 ∨ g2 = (w1.drew.alloc o).heap.size)) :
    w3.cell? ⟨Sb, 5, none⟩ = some v ∧ w3.frozen? ⟨Sb, 5, none⟩ = false ∧ Hs (w3.setCell ⟨Sb, 5, none⟩ (.slice (some ⟨g2, 0, none⟩) (m + 1) cap2)) base Sb (m + 1) (ptO E m x) ∧ Ht base Sb w1 (w3.setCell ⟨Sb, 5, none⟩ (.slice (some ⟨g2, 0, none⟩) (m + 1) cap2)) ∧ Hq Sb w1 (w3.setCell ⟨Sb, 5, none⟩ (.slice (some ⟨g2, 0, none⟩) (m + 1) cap2)) := by
  have hsb := h.sb
  have hle := h.le
  have hal : Below w1.heap.size w1 (w1.drew.alloc o) := (Below.refl _ _).drew.alloc (Nat.le_refl _) o
  have hsz : (w1.drew.alloc o).heap.size = w1.heap.size + 1 := by simp
  have hne : ∀ k, k < base → some k ≠ v.ownBlock := fun k hk e => by
    have := (World.ownsRow.lt hO k e.symm).1
    omega
  have hb : ∀ k, k < base → w3.heap[k]? = w1.heap[k]? := fun k hk => (hg.block k (by rw [hsz]; omega) (hne k hk)).trans (hal.block k (by omega))
  have e := hb Sb hsb
  have c3 := (cell_same e 5).trans c
  have f3 := (frozen_same e 5).trans h.fz
  have s3 : w1.heap.size ≤ w3.heap.size := by have := hg.size; omega
  refine ⟨c3, f3, ⟨hsb, ?_, ⟨_, World.cell?_setCell_same _ _ _ c3, (owO_snoc hown).far (by simpa using hsb) _⟩, ?_, fun k hk => ?_, hm⟩, ?_, ?_⟩
  · simp; omega
  · simpa using f3
  · by_cases e1 : k = m
    · subst e1; rw [ptO_i]; exact hx
    · rw [ptO_o E x e1]; exact h.all k (by omega)
  · have hT : Ht base Sb w1 w3 := ⟨hg.os, hg.tape, hg.output, s3, fun k h1 _ => hb k h1, fun j _ => cell_same e j, fun j => frozen_same e j⟩
    exact hT.hd _
  · refine ⟨fun k h1 h2 h3 => ?_, ?_⟩
    · rw [Below.heap_setCell w3 ⟨Sb, 5, none⟩ _ k (by simpa using h2)]
      rw [hO_at c] at h3
      exact (hg.block k (by rw [hsz]; omega) h3).trans (hal.block k h1)
    · rw [hO_at (World.cell?_setCell_same _ _ _ c3), hO_at c]
      rcases hat with q | q
      · exact .inl q.symm
      · exact .inr ⟨g2, rfl, by rw [q, hsz]; omega⟩
/-- what is behind the append -/
def CutP (w1 wx : World) (base Sb m : Nat) (E : Nat → Og) (x : Og) (s : Value) : Prop := s = .pointer (some ⟨Sb, 5, none⟩) ∧ Hs wx base Sb (m + 1) (ptO E m x) ∧ Ht base Sb w1 wx ∧ Hq Sb w1 wx
/-- the answer of put: what is among them, in the heap's order -/
def AnsPu (w w' : World) (base Sb m : Nat) (E : Nat → Og) (x : Og) : Prop := ∃ E', Hs w' base Sb (m + 1) E' ∧ HpOk (m + 1) E' ∧ (∀ y, MemO (m + 1) E' y ↔ MemO m E y ∨ y = x) ∧ Ht base Sb w w' ∧ Hq Sb w w'
theorem mem_pt (E : Nat → Og) (m : Nat) (x y : Og) : MemO (m + 1) (ptO E m x) y ↔ MemO m E y ∨ y = x := by
  constructor
  · rintro ⟨k, hk, e⟩
    by_cases e1 : k = m
    · subst e1; rw [ptO_i] at e; exact .inr e.symm
    · rw [ptO_o E x e1] at e; exact .inl ⟨k, by omega, e⟩
  · rintro (⟨k, hk, e⟩ | rfl)
    · exact ⟨k, by omega, by rw [ptO_o E x (by omega)]; exact e⟩
    · exact ⟨m, by omega, ptO_i E m y⟩

set_option maxHeartbeats 4000000 in
set_option maxRecDepth 20000 in
theorem put_any (base Sb m : Nat) (E : Nat → Og) (x : Og) (w : World) (h : Hs w base Sb m E) (hk : HpOk m E) (hx : BdO x) (hm : m + 1 ≤ 1048576) :
    Calls Try.prog 78 #[.pointer (some ⟨Sb, 5, none⟩), ov x] w fun e w' => e = .returned (.tuple #[]) ∧ AnsPu w w' base Sb m E x := by
  obtain ⟨i0, hi, hzz⟩ := Option.map_eq_some_iff.1 infoO
  simp only [Prod.mk.injEq] at hzz
  obtain ⟨hz0, hz1, hz2⟩ := hzz
  have hb0 : Below w.heap.size w (w.alloc (.cells #[.int .i64 x.p, .int .i64 x.a, .int .i64 x.b] 117)) := (Below.refl _ _).alloc (Nat.le_refl _) _
  have bX := bx_new (w := w) [.int .i64 x.p, .int .i64 x.a, .int .i64 x.b] 117 rfl
  have H1 := h.on hb0
  have T0 := ht_below (base := base) (Sb := Sb) hb0 h.le h.sb
  have Q0 := hq_below (Sb := Sb) hb0 (Nat.lt_of_lt_of_le h.sb h.le)
  have HK : Hid (HpOk m E) := hk
  have HBX : Hid (BdO x) := hx
  clear h hk hb0 hx
  go_enter Try.func78, Try.ntmps78
  go_upto_region 1 with fail
  generalize w.alloc (.cells #[.int .i64 x.p, .int .i64 x.a, .int .i64 x.b] 117) = w1 at bX H1 T0 Q0 ⊢
  obtain ⟨v, c5, hO⟩ := H1.v
  obtain ⟨va, vc, rfl⟩ := hO.shape
  have x0 := bX.c0
  have x1 := bX.c1
  have x2 := bX.c2
  have HO : Hid (OwO w1 base (.slice va m vc) m E) := hO
  have HH1 : Hid (Hs w1 base Sb m E) := H1
  have HC5 : Hid (w1.cell? ⟨Sb, 5, none⟩ = some (.slice va m vc)) := c5
  have hle := H1.le
  have hsl : Sb < w1.heap.size := Nat.lt_of_lt_of_le H1.sb H1.le
  clear hO H1
  go_cut [0] from 5 to 15 (fun s wx => CutP w1 wx base Sb m E x s)
  case first =>
    go_region_law (refine step_append_lies _ rfl (.tmp 9) (.tmp 11) 79 rfl base 117 i0 (.agg #[.int .i64 0, .int .i64 0, .int .i64 0]) 3 24 Try.underlying79 hi hz0 hz1 hz2 rfl (by decide) (.slice va m vc) m (vL (f3 E) (m * 3)) (by simp [Act.eval]) (OwO.below HO.out ((Below.refl _ _).drew.alloc (Nat.le_refl _) _)) ⟨w1.heap.size, 0, none⟩ 1 1 [.int .i64 x.p, .int .i64 x.a, .int .i64 x.b] (by simp [Act.eval]) rfl (news3 w1 x) (fun u hu => by simp at hu; rcases hu with rfl | rfl | rfl <;> rfl) (by decide) (by unfold maxLen; omega) (by omega) (by simp; omega) _ rfl ?_; intro g2 cap2 w3 hown hgrow hat hlt; obtain ⟨c3, f3', r1, r2, r3⟩ := put_mem HH1.out HC5.out HO.out hgrow hown HBX.out hm hat)
    all_goals
      go_wp2_with fail
      go_meet
      case rel => exact ⟨rfl, r1, r2, r3⟩
  case rest =>
    obtain ⟨rfl, r1, r2, r3⟩ := hcut
    have T1 := T0.trans r2
    have Q1 := Q0.trans r3 T0.size
    have hu0 := UpI.start HK.out x
    have hall0 : ∀ y, MemO (m + 1) (ptO E m x) y ↔ MemO m E y ∨ y = x := mem_pt E m x
    have HU : Hid (UpI (m + 1) (ptO E m x) m) := hu0
    have HM : Hid (∀ y, MemO (m + 1) (ptO E m x) y ↔ MemO m E y ∨ y = x) := hall0
    obtain ⟨v2, c6, hO2⟩ := r1.v
    obtain ⟨va2, vc2, rfl⟩ := hO2.shape
    clear x0 x1 x2 c5 HO HH1 HC5 bX T0 r2 hO2 hu0 hall0
    go_wp2
    clear c6
    go_loopw [4] (fun s wr => ∃ (k : Nat) (F : Nat → Og), k < m + 1 ∧ s = .int .i64 (k : Int) ∧ UpI (m + 1) F k ∧ Hs wr base Sb (m + 1) F ∧ (∀ y, MemO (m + 1) F y ↔ MemO m E y ∨ y = x) ∧ Ht base Sb w wr ∧ Hq Sb w wr) (fun s _ => (intOf s).toNat)
    case atStart => exact ⟨m, ptO E m x, by omega, (by first | rfl | (congr 1; omega)), HU.out, r1, HM.out, T1, Q1⟩
    case round =>
      obtain ⟨k, F, hk, rfl, hU, hS, hMm, hT, hQ⟩ := hrel
      clear HU HM r1
      have HU : Hid (UpI (m + 1) F k) := hU
      have HM : Hid (∀ y, MemO (m + 1) F y ↔ MemO m E y ∨ y = x) := hMm
      clear hU hMm
      by_cases k0 : k = 0
      · subst k0
        have hO := HU.out.done (.inl rfl)
        have HO2 : Hid (HpOk (m + 1) F) := hO
        clear hO HU
        go_wp2
        go_end0
        exact ⟨rfl, F, hS, HO2.out, HM.out, hT, hQ⟩
      · have kp : (0 : Int) < (k : Int) := by omega
        have kq : (0 : Int) ≤ (k : Int) - 1 := by omega
        have ks := swap_any base Sb (m + 1) k ((k - 1) / 2) F wr hS hk (by omega) (by omega)
        have eq0 : ((k : Int) - 1) / 2 = (((k - 1) / 2 : Nat) : Int) := by omega
        rw [← eq0] at ks
        have EQ : Hid _ := eq0
        clear eq0
        by_cases hko : ko (F k) < ko (F ((k - 1) / 2))
        · have ks2 := ks.mono (R' := fun e w' => e = .returned (.bool true) ∧ Hs w' base Sb (m + 1) (swO F k ((k - 1) / 2)) ∧ Ht base Sb wr w' ∧ Hq Sb wr w') (fun e w' h => ⟨by rw [h.1.1, decide_eq_true hko], by have := h.1.2.1; rw [if_pos hko] at this; exact this, h.1.2.2, h.2⟩)
          have HU2 : Hid (UpI (m + 1) (swO F k ((k - 1) / 2)) ((k - 1) / 2)) := HU.out.sw (by omega) hko
          have HM2 : Hid (∀ y, MemO (m + 1) (swO F k ((k - 1) / 2)) y ↔ MemO m E y ∨ y = x) := fun y => (mem_sw hk (by omega) y).trans (HM.out y)
          clear ks HU HM hko
          go_wp2_with fail
          refine ks2.mono ?_
          rintro e9 w4 ⟨rfl, hS4, hT4, hQ4⟩
          have hT5 := hT.trans hT4
          have hQ5 := hQ.trans hQ4 hT.size
          clear ks2 hT hT4 hS hQ hQ4
          go_wp2
          exact ⟨⟨(k - 1) / 2, _, by omega, by rw [EQ.out], HU2.out, hS4, HM2.out, hT5, hQ5⟩, by simp [intOf]; omega⟩
        · have ks2 := ks.mono (R' := fun e w' => e = .returned (.bool false) ∧ Hs w' base Sb (m + 1) F ∧ Ht base Sb wr w' ∧ Hq Sb wr w') (fun e w' h => ⟨by rw [h.1.1, decide_eq_false hko], by have := h.1.2.1; rw [if_neg hko] at this; exact this, h.1.2.2, h.2⟩)
          have HO2 : Hid (HpOk (m + 1) F) := HU.out.done (.inr hko)
          clear ks HU hko
          go_wp2_with fail
          refine ks2.mono ?_
          rintro e9 w4 ⟨rfl, hS4, hT4, hQ4⟩
          have hT5 := hT.trans hT4
          have hQ5 := hQ.trans hQ4 hT.size
          clear ks2 hT hT4 hS hQ hQ4
          go_wp2
          go_end0
          exact ⟨rfl, F, hS4, HO2.out, HM.out, hT5, hQ5⟩
end Go.Proofs.Ytfciecoigfnnhaa
