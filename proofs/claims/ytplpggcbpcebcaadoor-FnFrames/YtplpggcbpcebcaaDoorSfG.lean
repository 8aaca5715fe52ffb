/- Stuffing as the model goes. -/
import Derived.Test.YtplpggcbpcebcaaDoorSfI
import Derived.Deep.Cut
namespace Go.Proofs.YtplpggcbpcebcaaDoor
open Go.RowKit
/-- what stands while the model stuffs: the row alone -/
structure Sg (w wr : World) (v : Value) (o : List Int) : Prop where
  own : OwY wr w.heap.size v o
  bel : Below w.heap.size w wr
theorem Sg.app {w wr w3 : World} {v v' : Value} {o : List Int} {x : Int} {ob : Obj} (h : Sg w wr v o) (ho : w3.ownsRow w.heap.size 5 1 v' (o.length + 1) (o.map (Value.int .u8) ++ [.int .u8 x])) (hg : (wr.alloc ob).grownBy w3 v.ownBlock)
    (_ht : v'.ownBlock = v.ownBlock ∨ v'.ownBlock = some (wr.alloc ob).heap.size) : Sg w w3 v' (o ++ [x]) :=
  ⟨h.own.app ho, h.bel.trans (((Below.refl w.heap.size wr).alloc h.bel.size ob).grown hg (by simp; have := h.bel.size; omega) (fun q hq => (World.ownsRow.lt h.own q hq).1))⟩
theorem sg_make (w : World) (n : Nat) (hn : n ≤ 1048576) : ∃ wm, (Instr.makeSlice 22 (.int .i64 0) (.int .i64 (n : Int))).run Tryd.prog w = .ok (.slice (some ⟨w.heap.size, 0, none⟩) 0 n) wm ∧ Sg w wm (.slice (some ⟨w.heap.size, 0, none⟩) 0 n) [] := by
  obtain ⟨i0, hi, hzz⟩ := Option.map_eq_some_iff.1 infoB8
  simp only [Prod.mk.injEq] at hzz
  obtain ⟨hz0, hz1, hz2⟩ := hzz
  obtain ⟨wm, hrun, hown, hgrow⟩ := run_make_own (P := Tryd.prog) w w.heap.size 22 5 i0 _ 1 Tryd.underlying22 hi hz0 hz1 .i64 .i64 n (by rw [hz2]; omega) (by unfold maxLen; omega) (Nat.le_refl _)
  exact ⟨wm, hrun, hown, (Below.refl w.heap.size w).grown hgrow (Nat.le_refl _) (fun q hq => by cases hq)⟩
set_option maxRecDepth 20000 in
set_option maxHeartbeats 4000000 in
theorem sStuffB (s : ByteArray) (w : World) (h300 : s.size ≤ 300) (hbits : ∀ i, i < s.size → bt s i = 48 ∨ bt s i = 49) :
    Calls Tryd.prog 27 #[.string s] w fun e w' => e = .returned (.string (strOfNums (sfK (bt s) s.size).1)) ∧ Below w.heap.size w w' := by
  have HB : Hid (∀ i, i < s.size → bt s i = 48 ∨ bt s i = 49) := hbits
  have hix := fun i hi w => ix_bt (P := Tryd.prog) Tryd.underlying9 s i hi w
  clear hbits
  obtain ⟨i0, hi, hzz⟩ := Option.map_eq_some_iff.1 infoB8
  simp only [Prod.mk.injEq] at hzz
  obtain ⟨hz0, hz1, hz2⟩ := hzz
  obtain ⟨wm, hmk, hst⟩ := sg_make w (s.size + s.size / 4 + 1) (by omega)
  have hq0 : (s.size : Int).tdiv 4 = ((s.size / 4 : Nat) : Int) := by
    rw [Int.tdiv_eq_ediv_of_nonneg (by omega)]; omega
  have hmk2 : (Instr.makeSlice 22 (.int .i64 0) (.int .i64 ((s.size : Int) + (s.size : Int) / 4 + 1))).run Tryd.prog w = .ok (.slice (some ⟨w.heap.size, 0, none⟩) 0 (s.size + s.size / 4 + 1)) wm := by
    rw [← hmk]; congr 3
  clear hmk hq0
  go_enter Tryd.func27, Tryd.ntmps27
  go_wp2
  go_loopw [3, 4, 5, 6] (fun v rr ll i wr => ∃ k : Nat, k ≤ s.size ∧ i = .int .i64 (k : Int) ∧ rr = .int .i64 (sfK (bt s) k).2.2 ∧ ll = .int .u8 (sfK (bt s) k).2.1 ∧ Hid (Sg w wr v (sfK (bt s) k).1)) (fun _ _ _ i _ => s.size - (intOf i).toNat)
  case atStart => exact ⟨0, Nat.zero_le _, rfl, rfl, rfl, hst⟩
  case round =>
    obtain ⟨k, hk, rfl, rfl, rfl, HS⟩ := hrel
    clear hst hmk2
    by_cases hlt : k < s.size
    · have x0 := hix k hlt
      have i0' : (0 : Int) ≤ (k : Int) := by omega
      have i1' : (k : Int) < (s.size : Int) := by omega
      have hbd := sfK_bd (bt s) k
      have hln := sfK_len (bt s) k
      have HG : Hid ((rnN (sfK (bt s) k).2.1 (sfK (bt s) k).2.2 (bt s k) == 5) = false → sfK (bt s) (k + 1) = ((sfK (bt s) k).1 ++ [bt s k], bt s k, rnN (sfK (bt s) k).2.1 (sfK (bt s) k).2.2 (bt s k))) := sfK_go (bt s) k
      have HP : Hid ((rnN (sfK (bt s) k).2.1 (sfK (bt s) k).2.2 (bt s k) == 5) = true → sfK (bt s) (k + 1) = ((sfK (bt s) k).1 ++ [bt s k] ++ [97 - bt s k], 97 - bt s k, 1)) := sfK_put (bt s) k
      have hx := HB.out k hlt
      have hwr : IntKind.u8.wrap (97 - bt s k) = 97 - bt s k := by rcases hx with h | h <;> rw [h] <;> decide
      clear hix
      generalize (sfK (bt s) k).1 = O at *
      generalize (sfK (bt s) k).2.1 = L at *
      generalize (sfK (bt s) k).2.2 = Rr at *
      generalize bt s k = X at *
      have h0 := hbd.1
      have h1 := hbd.2
      have h48 : 48 ≤ X := by omega
      have h49 : X ≤ 49 := by omega
      clear hbd hx
      by_cases e : X = L
      · subst e
        have hN : rnN X Rr X = Rr + 1 := by unfold rnN; rw [if_pos rfl]
        rw [hN] at HG HP
        clear hN
        cases hf : (Rr + 1 == 5) with
        | false =>
          have HE : Hid (sfK (bt s) (k + 1) = (O ++ [X], X, Rr + 1)) := HG.out hf
          clear HG HP
          have hbase : w.heap.size ≤ wr.heap.size := HS.out.bel.size
          have hown8 := HS.out.own
          unfold OwY at hown8
          go_wp2_with (at_builtin; refine wpList_append_own_at _ rfl _ _ 22 rfl w.heap.size 5 i0 (.int .u8 0) 1 1 Tryd.underlying22 hi hz0 hz1 hz2 rfl (by decide) _ _ _ rfl (World.ownsRow.alloc hown8 _) ⟨wr.heap.size, 0, none⟩ 1 1 [.int .u8 X] rfl rfl (cell_one_new _ _ _) (fun y hy => by simp at hy; subst hy; rfl) (by unfold maxLen; omega) (by omega) (by simp; omega) ?_; intro v2 w9 hown' hgrow' _ hat')
          have hs9 := HS.out.app hown' hgrow' hat'
          clear hown' hgrow' hat' hown8 hbase HS
          exact ⟨⟨k + 1, by omega, by go_num, by rw [HE.out], by rw [HE.out], (by rw [HE.out]; exact hs9 : Sg w w9 v2 (sfK (bt s) (k + 1)).1)⟩, by simp [intOf]; omega⟩
        | true =>
          have HE : Hid (sfK (bt s) (k + 1) = (O ++ [X] ++ [97 - X], 97 - X, 1)) := HP.out hf
          clear HG HP
          have hbase : w.heap.size ≤ wr.heap.size := HS.out.bel.size
          have hown8 := HS.out.own
          unfold OwY at hown8
          go_upto_region 12 with (at_builtin; refine wpList_append_own_at _ rfl _ _ 22 rfl w.heap.size 5 i0 (.int .u8 0) 1 1 Tryd.underlying22 hi hz0 hz1 hz2 rfl (by decide) _ _ _ rfl (World.ownsRow.alloc hown8 _) ⟨wr.heap.size, 0, none⟩ 1 1 [.int .u8 X] rfl rfl (cell_one_new _ _ _) (fun y hy => by simp at hy; subst hy; rfl) (by unfold maxLen; omega) (by omega) (by simp; omega) ?_; intro v2 w9 hown' hgrow' _ hat')
          have hs9 := HS.out.app hown' hgrow' hat'
          clear hown' hgrow' hat' hown8 hbase HS
          have hlen : (O ++ [X]).length ≤ 2 * k + 1 := by simp; omega
          have HS9 : Hid (Sg w w9 v2 (O ++ [X])) := hs9
          clear hs9
          have hbase : w.heap.size ≤ w9.heap.size := HS9.out.bel.size
          have hown8 := HS9.out.own
          unfold OwY at hown8
          go_wp2_with (at_builtin; refine wpList_append_own_at _ rfl _ _ 22 rfl w.heap.size 5 i0 (.int .u8 0) 1 1 Tryd.underlying22 hi hz0 hz1 hz2 rfl (by decide) _ _ _ rfl (World.ownsRow.alloc hown8 _) ⟨w9.heap.size, 0, none⟩ 1 1 [.int .u8 (97 - X)] rfl rfl (cell_one_new _ _ _) (fun y hy => by simp at hy; subst hy; rfl) (by unfold maxLen; omega) (by omega) (by simp; omega) ?_; intro v3 w13 hown' hgrow' _ hat')
          have hs13 := HS9.out.app hown' hgrow' hat'
          clear hown' hgrow' hat' hown8 hbase HS9
          exact ⟨⟨k + 1, by omega, by go_num, by rw [HE.out], by rw [HE.out], (by rw [HE.out]; exact hs13 : Sg w w13 v3 (sfK (bt s) (k + 1)).1)⟩, by simp [intOf]; omega⟩
      · have hN : rnN L Rr X = 1 := by unfold rnN; rw [if_neg e]
        rw [hN] at HG HP
        have e' : (X == L) = false := by simpa using e
        clear hN e
        have hbase : w.heap.size ≤ wr.heap.size := HS.out.bel.size
        have hown8 := HS.out.own
        unfold OwY at hown8
        go_wp2_with (at_builtin; refine wpList_append_own_at _ rfl _ _ 22 rfl w.heap.size 5 i0 (.int .u8 0) 1 1 Tryd.underlying22 hi hz0 hz1 hz2 rfl (by decide) _ _ _ rfl (World.ownsRow.alloc hown8 _) ⟨wr.heap.size, 0, none⟩ 1 1 [.int .u8 X] rfl rfl (cell_one_new _ _ _) (fun y hy => by simp at hy; subst hy; rfl) (by unfold maxLen; omega) (by omega) (by simp; omega) ?_; intro v2 w9 hown' hgrow' _ hat')
        have hs9 := HS.out.app hown' hgrow' hat'
        clear hown' hgrow' hat' hown8 hbase HS
        have HE : Hid (sfK (bt s) (k + 1) = (O ++ [X], X, 1)) := HG.out (by decide)
        clear HG HP
        exact ⟨⟨k + 1, by omega, by go_num, by rw [HE.out], by rw [HE.out], (by rw [HE.out]; exact hs9 : Sg w w9 v2 (sfK (bt s) (k + 1)).1)⟩, by simp [intOf]; omega⟩
    · have hke : k = s.size := by omega
      subst hke
      have i1' : ¬ (s.size : Int) < (s.size : Int) := by omega
      obtain ⟨a9, c9, rfl⟩ := HS.out.own.shape
      have htx := HS.out.own.text
      have hbl := HS.out.bel
      clear HS hix
      generalize hO : (sfK (bt s) s.size).1 = O at *
      have HO : Hid ((sfK (bt s) s.size).1 = O) := hO
      clear hO
      go_wp2
      go_ret
      exact ⟨by rw [HO.out]; rfl, hbl⟩
end Go.Proofs.YtplpggcbpcebcaaDoor
