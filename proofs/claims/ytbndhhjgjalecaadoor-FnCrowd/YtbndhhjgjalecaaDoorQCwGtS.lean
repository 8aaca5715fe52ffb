/- Where one may be at the next tick, as the model tells it. -/
import Derived.Test.YtbndhhjgjalecaaDoorQClNxS
import Derived.Test.YtbndhhjgjalecaaDoorQCwGpM
import Derived.Test.YtbndhhjgjalecaaDoorQClVal
import Derived.Test.YtbndhhjgjalecaaDoorQClNxB
namespace Go.Proofs.YtbndhhjgjalecaaDoor
open Go.RowKit

theorem keepC {w w' : World} {b : Nat} {W : Int} {a : Option Addr} {n c : Nat} (h : Bx w b (celL W a n c)) (k : Below w.heap.size w w') : w'.cell? ⟨b, 0, none⟩ = some (.int .i64 W) ∧ w'.cell? ⟨b, 1, none⟩ = some (.slice a n c) := ⟨(h.on k).c0, (h.on k).c1⟩
set_option maxRecDepth 20000 in
set_option maxHeartbeats 4000000 in
theorem sNext (W : Int) (a : Option Addr) (n c : Nat) (f : Nat → Int) (p : Nat) (w : World) (hf : IL w a n f) (hs : sizedB W n = true) (hp : p < n) :
    Calls Tryd.prog 44 #[cel W a n c, .int .i64 (p : Int)] w fun e w' => AnsL w w' e (nbL W n f p) ∧ Below w.heap.size w w' := by
  obtain ⟨i0, hi, hzz⟩ := Option.map_eq_some_iff.1 infoI
  simp only [Prod.mk.injEq] at hzz
  obtain ⟨hz0, hz1, hz2⟩ := hzz
  have hb0 : Below w.heap.size w (w.alloc (celO W a n c 25)) := (Below.refl _ _).alloc (Nat.le_refl _) _
  have b0 := bx_new (w := w) (celL W a n c) 25 rfl
  have hf0 := hf.alloc (celO W a n c 25)
  have hn2 := sized_le hs
  have K : ∀ (v : Nat) (w : World), v < 4 → IL w a n f → Calls Tryd.prog 74 #[cel W a n c, .int .i64 (p : Int), .int .i64 (v : Int)] w fun e w' => e = .returned (.int .i64 (nxp W n f v p)) ∧ Below w.heap.size w w' := fun v w hv h => next_at W a n c f p v w h hs hv hp
  have HL : Hid (nbL W n f p = nnK [nxp W n f 3 p, nxp W n f 2 p, (p : Int), nxp W n f 0 p, nxp W n f 1 p] 5) := rfl
  have k3 : ∀ w : World, IL w a n f → Calls Tryd.prog 74 #[cel W a n c, .int .i64 (p : Int), .int .i64 3] w fun e w' => e = .returned (.int .i64 (nxp W n f 3 p)) ∧ Below w.heap.size w w' := fun w h => K 3 w (by omega) h
  have k2 : ∀ w : World, IL w a n f → Calls Tryd.prog 74 #[cel W a n c, .int .i64 (p : Int), .int .i64 2] w fun e w' => e = .returned (.int .i64 (nxp W n f 2 p)) ∧ Below w.heap.size w w' := fun w h => K 2 w (by omega) h
  have k0 : ∀ w : World, IL w a n f → Calls Tryd.prog 74 #[cel W a n c, .int .i64 (p : Int), .int .i64 0] w fun e w' => e = .returned (.int .i64 (nxp W n f 0 p)) ∧ Below w.heap.size w w' := fun w h => K 0 w (by omega) h
  have k1 : ∀ w : World, IL w a n f → Calls Tryd.prog 74 #[cel W a n c, .int .i64 (p : Int), .int .i64 1] w fun e w' => e = .returned (.int .i64 (nxp W n f 1 p)) ∧ Below w.heap.size w w' := fun w h => K 1 w (by omega) h
  clear K
  generalize nxp W n f 3 p = q3 at *
  generalize nxp W n f 2 p = q2 at *
  generalize nxp W n f 0 p = q0 at *
  generalize nxp W n f 1 p = q1 at *
  go_enter Tryd.func44, Tryd.ntmps44
  go_wp2_with fail
  generalize w.alloc (celO W a n c 25) = w1 at *
  have hw0 := Below.refl w1.heap.size w1
  go_region_held3 (fun w' => w'.cell? ⟨w.heap.size, 0, none⟩ = some (.int .i64 W) ∧ w'.cell? ⟨w.heap.size, 1, none⟩ = some (.slice a n c))
    (first | (exact keepC b0 hw0.drew) | (exact keepC b0 hw1) | (exact keepC b0 hw2) | (exact keepC b0 hw3) | (exact keepC b0 hw4) | (exact keepC b0 (hw4.alloc hw4.size _)) | (fail))
    (first
      | (go_at_call_of 74 (Value.int .i64 3); refine (k3 _ (hf0.below hw0.drew)).mono ?_; rintro e v1 ⟨rfl, hbn⟩; have hw1 := stepA hw0.drew hbn; clear hbn)
      | (go_at_call_of 74 (Value.int .i64 2); refine (k2 _ (hf0.below hw1)).mono ?_; rintro e v2 ⟨rfl, hbn⟩; have hw2 := stepA hw1 hbn; clear hbn)
      | (go_at_call_of 74 (Value.int .i64 0); refine (k0 _ (hf0.below hw2)).mono ?_; rintro e v3 ⟨rfl, hbn⟩; have hw3 := stepA hw2 hbn; clear hbn)
      | (go_at_call_of 74 (Value.int .i64 1); refine (k1 _ (hf0.below hw3)).mono ?_; rintro e v4 ⟨rfl, hbn⟩; have hw4 := stepA hw3 hbn; clear hbn)
      | (fail))
  have hB4 := stepA hb0 hw4
  have hIP := lit_ip v4 [q3, q2, (p : Int), q0, q1] 3
  have hbL : Below v4.heap.size v4 (v4.alloc (.cells #[.int .i64 q3, .int .i64 q2, .int .i64 (p : Int), .int .i64 q0, .int .i64 q1] 3)) := (Below.refl _ _).alloc (Nat.le_refl _) _
  have hB5 := stepA hB4 hbL
  simp only [List.map_cons, List.map_nil, List.length_cons, List.length_nil, Nat.zero_add, Nat.reduceAdd] at hIP
  have hLN : [q3, q2, (p : Int), q0, q1].length = 5 := rfl
  clear k0 k1 k2 k3 hw0 hw1 hw2 hw3 hw4 b0 hf0 hb0 hB4 hbL hf
  generalize [q3, q2, (p : Int), q0, q1] = l at HL hIP hLN
  have HLN : Hid (l.length = 5) := hLN
  clear hLN
  go_wp2
  generalize hw5 : v4.alloc (.cells #[.int .i64 q3, .int .i64 q2, .int .i64 (p : Int), .int .i64 q0, .int .i64 q1] 3) = w5 at *
  clear hw5
  go_loopw [5, 23] (fun v i wr => ∃ k : Nat, k ≤ 5 ∧ i = .int .i64 k ∧ Own wr w5.heap.size v (nnK l k).length (gl (nnK l k)) ∧ Below w5.heap.size w5 wr) (fun _ i _ => 5 - (intOf i).toNat)
  case atStart => exact ⟨0, Nat.zero_le _, rfl, World.ownsRow_nil _ _ _ _, Below.refl _ _⟩
  case round =>
    obtain ⟨k, hk, rfl, hown, hB⟩ := hrel
    have hlen := nnK_len l k
    have hbase : w5.heap.size ≤ wr.heap.size := hB.size
    by_cases hlt : k < 5
    · have hP := hIP.below hB hIP.lt
      have x0 := hP.c k hlt
      have hst := nnK_succ (l := l) (k := k) (by rw [HLN.out]; exact hlt)
      have j0 : (0 : Int) ≤ (k : Int) := by omega
      have j1 : (k : Int) < 5 := by omega
      clear hP hIP
      generalize l.getD k 0 = x at x0 hst
      by_cases hz : 0 ≤ x
      · rw [if_pos hz] at hst
        have HS : Hid (nnK l (k + 1) = nnK l k ++ [x]) := hst
        clear hst
        generalize nnK l k = m at hown hlen HS
        obtain ⟨sa, sc, rfl⟩ := hown.shape
        go_wp2_with (at_builtin; refine wpList_append_own _ rfl _ _ 23 rfl w5.heap.size 3 i0 (.int .i64 0) 1 8 Tryd.underlying23 hi hz0 hz1 hz2 rfl (by decide) _ _ _ rfl (World.ownsRow.alloc hown _) ⟨wr.heap.size, 0, none⟩ 1 1 [.int .i64 x] rfl rfl (cell_one_new _ _ _) (fun x hx => by simp at hx; subst hx; rfl) (by unfold maxLen; omega) (by omega) (by simp; omega) ?_; intro v' w3 hown' hgrow3 _)
        have hB3 := (hB.alloc hB.size (.cells #[.int .i64 x] 3)).grown hgrow3 (by simp; omega) (fun q hq => (World.ownsRow.lt hown q hq).1)
        exact ⟨⟨k + 1, by omega, by go_num, by rw [HS.out]; exact own_snoc hown', hB3⟩, by simp [intOf]; omega⟩
      · rw [if_neg hz] at hst
        have HS : Hid (nnK l (k + 1) = nnK l k) := hst
        clear hst
        go_wp2
        exact ⟨⟨k + 1, by omega, by go_num, by rw [HS.out]; exact hown, hB⟩, by simp [intOf]; omega⟩
    · have hke : k = 5 := by omega
      subst hke
      obtain ⟨sa, sc, rfl⟩ := hown.shape
      clear hIP
      go_wp2
      go_ret
      refine ⟨?_, stepA hB5 hB⟩
      rw [HL.out]
      exact ansL_own hown hB5.size
end Go.Proofs.YtbndhhjgjalecaaDoor

/- A list of pairs of ints by one flat index. -/
namespace Go.Proofs.YtbndhhjgjalecaaDoor
open Go.RowKit
theorem ip_two {w : World} {b n : Nat} {F : Nat → Int} (h : IP w b (n * 2) F) {k : Nat} (hk : k < n) :
    w.cell? ⟨b, k * 2, none⟩ = some (.int .i64 (F (k * 2))) ∧ w.cell? ⟨b, k * 2 + 1, none⟩ = some (.int .i64 (F (k * 2 + 1))) :=
  ⟨h.c _ (by omega), h.c _ (by omega)⟩
theorem il_two {w : World} {a : Option Addr} {n : Nat} {F : Nat → Int} (h : IL w a (n * 2) F) {k : Nat} (hk : k < n) : ∃ b off, a = some ⟨b, off, none⟩ ∧ b < w.heap.size ∧
    w.cell? ⟨b, off + k * 2, none⟩ = some (.int .i64 (F (k * 2))) ∧ w.cell? ⟨b, off + k * 2 + 1, none⟩ = some (.int .i64 (F (k * 2 + 1))) := by
  obtain ⟨b, off, ha, hb, hc⟩ := h (by omega)
  refine ⟨b, off, ha, hb, hc _ (by omega), ?_⟩
  rw [Nat.add_assoc]; exact hc _ (by omega)

end Go.Proofs.YtbndhhjgjalecaaDoor

/- Which places are free, as the model says it. -/
namespace Go.Proofs.YtbndhhjgjalecaaDoor
open Go.RowKit

set_option maxHeartbeats 1000000 in
theorem sfree_any (W : Int) (a : Option Addr) (n c : Nat) (f : Nat → Int) (p : Int) (w : World) (hf : IL w a n f) (hn : n ≤ 1048576) :
    Calls Tryd.prog 68 #[cel W a n c, .int .i64 p] w fun e w' => e = .returned (.bool (frB n f p)) ∧ Below w.heap.size w w' := by
  have hb0 : Below w.heap.size w (w.alloc (celO W a n c 25)) := (Below.refl _ _).alloc (Nat.le_refl _) _
  by_cases h0 : 0 ≤ p
  · by_cases h1 : p < (n : Int)
    · obtain ⟨k, rfl⟩ := Int.eq_ofNat_of_zero_le h0
      have hk : k < n := by omega
      obtain ⟨b, off, rfl, hb, hc⟩ := hf (by omega)
      have x0 := (hb0.cell (p := ⟨b, off + k, none⟩) hb).trans (hc k hk)
      by_cases h2 : f k = 0
      · have he : frB n f (k : Int) = true := frB_mk ⟨h0, h1, by simpa using h2⟩
        rw [he]
        rw [h2] at x0
        clear hc hf h2 he
        go_enter Tryd.func68, Tryd.ntmps68
        go_wp2
        go_ret
        exact ⟨rfl, hb0⟩
      · have he : frB n f (k : Int) = false := frB_f (by simp [h2])
        rw [he]
        generalize f k = x at x0 h2
        have k2 : (x == 0) = false := by simpa using h2
        clear hc hf h2 he
        go_enter Tryd.func68, Tryd.ntmps68
        go_wp2
        go_ret
        first | exact ⟨rfl, hb0⟩ | exact ⟨ret_bool k2, hb0⟩
    · rw [frB_f (by omega)]
      go_enter Tryd.func68, Tryd.ntmps68
      go_wp2
      go_ret
      exact ⟨rfl, hb0⟩
  · rw [frB_f (by omega)]
    go_enter Tryd.func68, Tryd.ntmps68
    go_wp2
    go_ret
    exact ⟨rfl, hb0⟩
end Go.Proofs.YtbndhhjgjalecaaDoor

/- Which trips are good, as the model says it. -/
namespace Go.Proofs.YtbndhhjgjalecaaDoor
open Go.RowKit

set_option maxRecDepth 20000 in
set_option maxHeartbeats 4000000 in
theorem sGoodTrips (W : Int) (a b : Option Addr) (n c m d : Nat) (f g : Nat → Int) (w : World) (hn : n ≤ 1048576) (hm : m ≤ 1048576) (hf : IL w a n f) (hg : IL w b (m * 2) g) :
    Calls Tryd.prog 39 #[cel W a n c, .slice b m d] w fun e w' => e = .returned (.bool (gtB W n f m g)) ∧ Below w.heap.size w w' := by
  have hb0 : Below w.heap.size w (w.alloc (celO W a n c 25)) := (Below.refl _ _).alloc (Nat.le_refl _) _
  have hG := specGoodL W a n c f (w.alloc (celO W a n c 25)) hn (hf.alloc _)
  have b0 := bx_new (w := w) (celL W a n c) 25 rfl
  cases hs : celB W n f with
  | false =>
    have hr : gtB W n f m g = false := by simp [gtB, hs]
    rw [hr]
    rw [hs] at hG
    go_enter Tryd.func39, Tryd.ntmps39
    go_wp2_with fail
    refine hG.mono ?_
    rintro e w1 ⟨rfl, hb1⟩
    have hB1 := stepA hb0 hb1
    clear hG hf hg b0 hb0 hb1
    go_wp2
    go_ret
    exact ⟨rfl, hB1⟩
  | true =>
    rw [hs] at hG
    by_cases h5 : m ≤ 5
    · have h5' : ¬ (5 : Int) < (m : Int) := by omega
      have hR0 : gtB W n f m g = trB n f g m := by simp [gtB, hs, h5]
      have HR : Hid (gtB W n f m g = trB n f g m) := hR0
      clear hR0
      go_enter Tryd.func39, Tryd.ntmps39
      go_wp2_with fail
      refine hG.mono ?_
      rintro e w1 ⟨rfl, hb1⟩
      have hB1 := stepA hb0 hb1
      have b1 := b0.on hb1
      have hf1 := hf.below hB1
      have hg1 := hg.below hB1
      clear hG hf hg b0 hb0 hb1 hs
      go_wp2
      go_loopw [18] (fun i wr => ∃ k : Nat, k ≤ m ∧ i = .int .i64 k ∧ trB n f g k = true ∧ Below w1.heap.size w1 wr) (fun i _ => m - (intOf i).toNat)
      case atStart => exact ⟨0, Nat.zero_le _, rfl, rfl, Below.refl _ _⟩
      case round =>
        obtain ⟨k, hk, rfl, hT, hB⟩ := hrel
        by_cases hlt : k < m
        · have hBw := stepA hB1 hB
          have b2 := b1.on hB
          have hf2 := hf1.below hB
          have hg2 := hg1.below hB
          obtain ⟨gb, go_, rfl, gl_, y0, y1⟩ := il_two hg2 hlt
          have j0 : (0 : Int) ≤ (k : Int) := by omega
          have j1 : (k : Int) < (m : Int) := by omega
          have x0 := b2.c0
          have x1 := b2.c1
          have hbt : Below wr.heap.size wr (wr.alloc (.cells #[.int .i64 (g (k * 2)), .int .i64 (g (k * 2 + 1))] 34)) := (Below.refl _ _).alloc (Nat.le_refl _) _
          have b3 := bx_new (w := wr) [.int .i64 (g (k * 2)), .int .i64 (g (k * 2 + 1))] 34 rfl
          have b4 := b2.on hbt
          have hf3 := hf2.below hbt
          have hB3 := stepA hBw hbt
          have kF := sfree_any W a n c f (g (k * 2)) (wr.alloc (.cells #[.int .i64 (g (k * 2)), .int .i64 (g (k * 2 + 1))] 34)) hf3 hn
          have Hfa := @gtB_false W n f m g k hlt
          have HFA : Hid (¬ (frB n f (g (k * 2)) = true ∧ frB n f (g (k * 2 + 1)) = true ∧ apB g k k = true) → gtB W n f m g = false) := Hfa
          clear Hfa
          cases q0 : frB n f (g (k * 2)) with
          | false =>
            have hr := HFA.out (by rw [q0]; simp)
            rw [q0] at kF
            have z0 := b4.c0
            have z1 := b4.c1
            have z2 := b3.c0
            have z3 := b3.c1
            go_wp2_with fail
            refine kF.mono ?_
            rintro e w4 ⟨rfl, hb4⟩
            have hB4 := stepA hB3 hb4
            clear kF
            go_wp2
            go_ret
            exact ⟨ret_bool hr.symm, hB4⟩
          | true =>
            rw [q0] at kF
            have z0 := b4.c0
            have z1 := b4.c1
            have z2 := b3.c0
            have z3 := b3.c1
            go_wp2_with fail
            refine kF.mono ?_
            rintro e w4 ⟨rfl, hb4⟩
            have hB4 := stepA hB3 hb4
            have b5 := b4.on hb4
            have b6 := b3.on hb4
            have hf4 := hf3.below hb4
            have kG := sfree_any W a n c f (g (k * 2 + 1)) w4 hf4 hn
            clear kF x0 x1 z0 z1 z2 z3
            have z0 := b5.c0
            have z1 := b5.c1
            have z2 := b6.c0
            have z3 := b6.c1
            cases q1 : frB n f (g (k * 2 + 1)) with
            | false =>
              have hr := HFA.out (by rw [q1]; simp)
              rw [q1] at kG
              go_wp2_with fail
              refine kG.mono ?_
              rintro e w5 ⟨rfl, hb5⟩
              have hB5 := stepA hB4 hb5
              clear kG
              go_wp2
              go_ret
              exact ⟨ret_bool hr.symm, hB5⟩
            | true =>
              rw [q1] at kG
              go_wp2_with fail
              refine kG.mono ?_
              rintro e w5 ⟨rfl, hb5⟩
              have hB5 := stepA hB4 hb5
              have b7 := b6.on hb5
              have hg5 := ((hg2.below hbt).below hb4).below hb5
              have hstep : Below w1.heap.size w1 w5 := ((hB.trans (hbt.mono hB.size)).trans (hb4.mono (Nat.le_trans hB.size hbt.size))).trans (hb5.mono (Nat.le_trans hB.size (Nat.le_trans hbt.size hb4.size)))
              clear kG hf4 b5 b6 b4 b3 hf3 hf2 hB4 hB3 hBw hbt hb4 hb5 z0 z1 z2 z3 y0 y1 hg2 b2 hB
              obtain ⟨w8, hw8⟩ : ∃ w8, w8 = wr := ⟨wr, rfl⟩
              subst hw8
              go_wp2
              go_loopw [7] (fun i wx => ∃ j : Nat, j ≤ k ∧ i = .int .i64 j ∧ apB g k j = true ∧ Below w5.heap.size w5 wx) (fun i _ => k - (intOf i).toNat)
              case atStart => exact ⟨0, Nat.zero_le _, rfl, rfl, Below.refl _ _⟩
              case round =>
                obtain ⟨j, hj, rfl, hA, hBx⟩ := hrel
                by_cases hlt2 : j < k
                · obtain ⟨gb', go', e', -, y0, y1⟩ := il_two (hg5.below hBx) (show j < m by omega)
                  cases e'
                  have b8 := b7.on hBx
                  have z2 := b8.c0
                  have z3 := b8.c1
                  have i0 : (0 : Int) ≤ (j : Int) := by omega
                  have i1 : (j : Int) < (k : Int) := by omega
                  have i2 : (j : Int) < (m : Int) := by omega
                  have HAF : Hid (g (j * 2) = g (k * 2) ∨ g (j * 2 + 1) = g (k * 2 + 1) → gtB W n f m g = false) := fun h => HFA.out fun h' => apB_false hlt2 h h'.2.2
                  have HAN : Hid (apB g k (j + 1) = (apB g k j && !(g (j * 2) == g (k * 2) || g (j * 2 + 1) == g (k * 2 + 1)))) := rfl
                  generalize g (j * 2) = A at *
                  generalize g (j * 2 + 1) = B at *
                  generalize g (k * 2) = C at *
                  generalize g (k * 2 + 1) = D at *
                  cases r0 : (A == C) with
                  | true =>
                    have hr := HAF.out (.inl (by simpa using r0))
                    clear hg5 b7 b8 HAF HAN HFA hf1 hg1 b1
                    go_wp2
                    go_quiet (fail)
                    go_wp2
                    go_ret
                    exact ⟨ret_bool hr.symm, hB5.trans ((below_dr hBx _).mono hB5.size)⟩
                  | false =>
                    cases r1 : (B == D) with
                    | true =>
                      have hr := HAF.out (.inr (by simpa using r1))
                      clear hg5 b7 b8 HAF HAN HFA hf1 hg1 b1
                      go_wp2
                      go_quiet (fail)
                      go_wp2
                      go_ret
                      exact ⟨ret_bool hr.symm, hB5.trans ((below_dr hBx _).mono hB5.size)⟩
                    | false =>
                      have hr : apB g k (j + 1) = true := by rw [HAN.out, hA, r0, r1]; rfl
                      have HAp : Hid (apB g k (j + 1) = true) := hr
                      clear hg5 b7 b8 HAF HAN HFA hf1 hg1 b1 hr
                      go_wp2
                      go_quiet (fail)
                      go_wp2
                      exact ⟨⟨j + 1, by omega, by go_num, HAp.out, below_dr hBx _⟩, by simp [intOf]; omega⟩
                · have hjk : j = k := by omega
                  subst hjk
                  have hTT : trB n f g (j + 1) = true := by simp [trB, hT, q0, q1, hA]
                  have HTT : Hid (trB n f g (j + 1) = true) := hTT
                  clear hTT hg5 b7 HFA hf1 hg1 b1
                  go_wp2
                  exact ⟨⟨j + 1, by omega, by go_num, HTT.out, hstep.trans (hBx.mono hstep.size)⟩, by simp [intOf]; omega⟩
        · have hke : k = m := by omega
          subst hke
          have hr : gtB W n f k g = true := by rw [HR.out]; exact hT
          clear hf1 hg1 b1
          go_wp2
          go_ret
          exact ⟨ret_bool hr.symm, stepA hB1 hB⟩
    · have h5' : (5 : Int) < (m : Int) := by omega
      have hr : gtB W n f m g = false := by simp [gtB, h5]
      rw [hr]
      go_enter Tryd.func39, Tryd.ntmps39
      go_wp2_with fail
      refine hG.mono ?_
      rintro e w1 ⟨rfl, hb1⟩
      have hB1 := stepA hb0 hb1
      clear hG hf hg b0 hb0 hb1
      go_wp2
      go_ret
      exact ⟨rfl, hB1⟩
end Go.Proofs.YtbndhhjgjalecaaDoor
