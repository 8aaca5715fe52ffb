/- Who is next (tools/gen_bun.py). -/
import Derived.Test.YtldagjgpapnfpaaQBuN
namespace Go.Proofs.Ytldagjgpapnfpaa
open Go.RowKit
def gN (l : List Nat) (j : Nat) : Int := ((l.getD j 0 : Nat) : Int)
theorem gN_put (l : List Nat) (k i : Nat) (hi : i < l.length + 1) : put (gN l) l.length (k : Int) i = gN (l ++ [k]) i := by
  unfold put gN
  by_cases c : i = l.length
  · subst c; simp
  · rw [if_neg c]
    simp [List.getD, List.getElem?_append_left (show i < l.length by omega)]
theorem ctF_put (t : Tks) (LF : Nat → Nat) (l : List Nat) (k i : Nat) (hi : i < l.length + 1) : put (ctF t LF l) l.length (t.I k (LF k)) i = ctF t LF (l ++ [k]) i := by
  unfold put ctF
  by_cases c : i = l.length
  · subst c; simp
  · rw [if_neg c]
    simp [List.getD, List.getElem?_append_left (show i < l.length by omega)]
theorem Tw.congr {w wr : World} {v1 v2 : Value} {k1 k2 : Nat} {F G F' G' : Nat → Int} (h : Tw w wr v1 k1 F v2 k2 G) (e1 : ∀ i, i < k1 → F i = F' i) (e2 : ∀ i, i < k2 → G i = G' i) : Tw w wr v1 k1 F' v2 k2 G' := ⟨h.o1.congr e1, h.o2.congr e2, h.d, h.bel⟩
/-- who is next, -1 where none may -/
def NxIs (t : Tks) (LF : Nat → Nat) (l : List Nat) (d : Int) : Prop := (l = [] ∧ d = -1) ∨ (l ≠ [] ∧ ∃ K, Fst (lv l.length (ctF t LF l) 11) l.length K ∧ d = gN l K)
theorem NxIs.uniq {t : Tks} {LF : Nat → Nat} {l : List Nat} {d d' : Int} (h : NxIs t LF l d) (h' : NxIs t LF l d') : d = d' := by
  rcases h with ⟨h1, rfl⟩ | ⟨h1, K, h2, rfl⟩ <;> rcases h' with ⟨g1, rfl⟩ | ⟨g1, K', g2, rfl⟩
  · rfl
  · exact absurd h1 g1
  · exact absurd g1 h1
  · rw [h2.uniq g2]
def AnsNx (w w' : World) (e : Ending) (t : Tks) (LF : Nat → Nat) (l : List Nat) : Prop := ∃ d : Int, e = .returned (.int .i64 d) ∧ NxIs t LF l d ∧ Below w.heap.size w w'
set_option maxRecDepth 20000 in
set_option maxHeartbeats 8000000 in
theorem next_bus (base : Nat) (x : Option Addr) (n c : Nat) (Pt : Nat → Nat) (t : Tks) (LF : Nat → Nat) (SE EC : Nat → Int) (w : World) (hn : n ≤ 6) (h : Bus base w (.slice x n c) n Pt t LF SE EC) (hF : ∀ i, i < n → FrH w (t.qa i) (t.qm i) (t.I i) (t.A i) (t.N i) (t.C i)) (hq : ∀ i, i < n → t.qm i ≤ 8) (hid : ∀ i j, i < n → j < t.qm i → 0 ≤ t.I i j ∧ t.I i j ≤ 2047) :
    Calls Try.prog 28 #[.slice x n c] w fun e w' => AnsNx w w' e t LF (ctL t LF SE EC n) := by
  obtain ⟨i0, hi, hzz⟩ := Option.map_eq_some_iff.1 infoI
  simp only [Prod.mk.injEq] at hzz
  obtain ⟨hz0, hz1, hz2⟩ := hzz
  have HB : Hid (Bus base w (.slice x n c) n Pt t LF SE EC) := h
  have HF : Hid (∀ i, i < n → FrH w (t.qa i) (t.qm i) (t.I i) (t.A i) (t.N i) (t.C i)) := hF
  have HQ : Hid (∀ i, i < n → t.qm i ≤ 8) := hq
  have HD : Hid (∀ i j, i < n → j < t.qm i → 0 ≤ t.I i j ∧ t.I i j ≤ 2047) := hid
  have HM : Hid (∀ i ∈ ctL t LF SE EC n, i < n ∧ myB (t.qm i) (t.sh i) (LF i) (SE i) (EC i) = true) := ctL_mem t LF SE EC n
  have hT0 : Tw w ((w.alloc (.cells #[] 3)).alloc (.cells #[] 3)) (.slice (some ⟨w.heap.size, 0, none⟩) 0 0) 0 (gN []) (.slice (some ⟨w.heap.size + 1, 0, none⟩) 0 0) 0 (ctF t LF []) := by
    refine ⟨(own_lit0 w w.heap.size _ (Nat.le_refl _)).below ((Below.refl _ _).alloc (Nat.le_refl _) _), ?_, fun q hq e => ?_, ((Below.refl _ _).alloc (Nat.le_refl _) _).alloc (by simp) _⟩
    · have := own_lit0 (w.alloc (.cells #[] 3)) w.heap.size (ctF t LF []) (by simp)
      simpa using this
    · simp [Value.ownBlock] at hq e
      omega
  have HT0 : Hid (Tw w ((w.alloc (.cells #[] 3)).alloc (.cells #[] 3)) (.slice (some ⟨w.heap.size, 0, none⟩) 0 0) 0 (gN []) (.slice (some ⟨w.heap.size + 1, 0, none⟩) 0 0) 0 (ctF t LF [])) := hT0
  clear h hF hq hid hT0
  go_enter Try.func28, Try.ntmps28
  go_wp2
  go_loopw [3, 4, 14] (fun v1 v2 i wr => ∃ (k : Nat) (l : List Nat), k ≤ n ∧ i = .int .i64 (k : Int) ∧ l.length ≤ k ∧ (∃ a c, v1 = .slice a l.length c) ∧ (∃ a c, v2 = .slice a l.length c) ∧ Hid (l = ctL t LF SE EC k) ∧ Hid (Tw w wr v1 l.length (gN l) v2 l.length (ctF t LF l))) (fun _ _ i _ => n - (intOf i).toNat)
  case atStart => exact ⟨0, [], Nat.zero_le _, rfl, Nat.le_refl _, ⟨_, _, rfl⟩, ⟨_, _, rfl⟩, (rfl : [] = ctL t LF SE EC 0), HT0⟩
  case round =>
    obtain ⟨k, l, hk, rfl, hlk, ⟨a1, c1, rfl⟩, ⟨a2, c2, rfl⟩, HL, HT⟩ := hrel
    clear HT0
    by_cases hlt : k < n
    · have hBw := HT.out.bel
      have hbus := HB.out.on hBw
      obtain ⟨g, c9, e9, hgl, hgc⟩ := hbus.at hlt
      cases e9
      have hS := hbus.sp k hlt
      have j0 : (0 : Int) ≤ (k : Int) := by omega
      have j1 : (k : Int) < (n : Int) := by omega
      have kM := may_any (Pt k) (t.qa k) (t.qm k) (t.qc k) (t.sh k) (t.er k) (t.of k) (LF k) (SE k) (EC k) wr hS
      have HN : Hid (myB (t.qm k) (t.sh k) (LF k) (SE k) (EC k) = false → l = ctL t LF SE EC (k + 1)) := fun hh => by rw [ctL, if_neg (by rw [hh]; simp)]; exact HL.out
      have HY : Hid (myB (t.qm k) (t.sh k) (LF k) (SE k) (EC k) = true → l ++ [k] = ctL t LF SE EC (k + 1)) := fun hh => by rw [ctL, if_pos hh, ← HL.out]
      have HLT : Hid (myB (t.qm k) (t.sh k) (LF k) (SE k) (EC k) = true → LF k < t.qm k) := fun hh => by unfold myB at hh; simp at hh; exact hh.2.1
      clear hS hbus HL
      cases hg : myB (t.qm k) (t.sh k) (LF k) (SE k) (EC k) with
      | false =>
        rw [hg] at kM
        have HR : Hid (l = ctL t LF SE EC (k + 1)) := HN.out hg
        clear HN HY HLT hg
        go_wp2_with fail
        refine kM.mono ?_
        rintro e w6 ⟨rfl, q, hw6⟩
        have HT6 : Hid (Tw w w6 (.slice a1 l.length c1) l.length (gN l) (.slice a2 l.length c2) l.length (ctF t LF l)) := HT.out.on (below_of hw6)
        clear kM HT hw6
        go_wp2
        exact ⟨⟨k + 1, l, by omega, by go_num, by omega, ⟨_, _, rfl⟩, ⟨_, _, rfl⟩, HR, HT6⟩, by simp [intOf]; omega⟩
      | true =>
        rw [hg] at kM
        have HR : Hid (l ++ [k] = ctL t LF SE EC (k + 1)) := HY.out hg
        have hlf : LF k < t.qm k := HLT.out hg
        clear HN HY HLT hg
        go_wp2_with fail
        refine kM.mono ?_
        rintro e w6 ⟨rfl, q, hw6⟩
        have HT6 : Hid (Tw w w6 (.slice a1 l.length c1) l.length (gN l) (.slice a2 l.length c2) l.length (ctF t LF l)) := HT.out.on (below_of hw6)
        have hz6 := HT6.out.bel.size
        clear kM HT hw6 hgl hgc
        have ho6 := HT6.out.o1
        unfold Own at ho6
        go_wp2_with (at_builtin; refine wpList_append_own_at _ rfl _ _ 24 rfl w.heap.size 3 i0 (.int .i64 0) 1 8 Try.underlying24 hi hz0 hz1 hz2 rfl (by decide) _ _ _ rfl (World.ownsRow.alloc ho6 _) ⟨w6.heap.size, 0, none⟩ 1 1 [.int .i64 (k : Int)] rfl rfl (cell_one_new _ _ _) (fun y hy => by simp at hy; subst hy; rfl) (by unfold maxLen; omega) (by omega) (by simp; omega) ?_; intro v' w7 ho' hg' _ hat')
        have HT7 : Hid (Tw w w7 v' (l.length + 1) (put (gN l) l.length (k : Int)) (.slice a2 l.length c2) l.length (ctF t LF l)) := HT6.out.app1 ho' hg' hat'
        obtain ⟨y1, d1, rfl⟩ := HT7.out.o1.shape
        have kF := first_any (Pt k) (t.qa k) (t.qm k) (t.qc k) (t.sh k) (t.er k) (t.of k) (LF k) (SE k) (EC k) (t.I k) (t.A k) (t.N k) (t.C k) w7 hlf (HQ.out k hlt) ((HB.out.on HT7.out.bel).sp k hlt) ((HF.out k hlt).below HT7.out.bel)
        clear ho' hg' hat' ho6 HT6 hz6
        refine kF.mono ?_
        rintro e w8 ⟨rfl, hb8⟩
        have HT8 : Hid (Tw w w8 (.slice y1 (l.length + 1) d1) (l.length + 1) (put (gN l) l.length (k : Int)) (.slice a2 l.length c2) l.length (ctF t LF l)) := HT7.out.on hb8
        have hz8 := HT8.out.bel.size
        have HC : Hid (∀ i, i < l.length + 1 → put (ctF t LF l) l.length (t.I k (LF k)) i = ctF t LF (l ++ [k]) i) := fun i hi => ctF_put t LF l k i hi
        clear kF HT7 hb8 hlf
        generalize t.I k (LF k) = X at *
        generalize t.A k (LF k) = X2 at *
        generalize t.N k (LF k) = X3 at *
        generalize t.C k (LF k) = X4 at *
        have hfd : ∀ w : World, (Instr.field 54 (frv X X2 X3 X4) 0).run Try.prog w = .ok (.int .i64 X) w := fun _ => by kernel_rfl
        have ho8 := HT8.out.o2
        unfold Own at ho8
        go_wp2_with (at_builtin; refine wpList_append_own_at _ rfl _ _ 24 rfl w.heap.size 3 i0 (.int .i64 0) 1 8 Try.underlying24 hi hz0 hz1 hz2 rfl (by decide) _ _ _ rfl (World.ownsRow.alloc ho8 _) ⟨w8.heap.size, 0, none⟩ 1 1 [.int .i64 X] rfl rfl (cell_one_new _ _ _) (fun y hy => by simp at hy; subst hy; rfl) (by unfold maxLen; omega) (by omega) (by simp; omega) ?_; intro v2' w9 ho' hg' _ hat')
        have HT9 := HT8.out.app2 ho' hg' hat'
        obtain ⟨y2, d2, rfl⟩ := HT9.o2.shape
        have HT10 : Tw w w9 (.slice y1 (l.length + 1) d1) (l ++ [k]).length (gN (l ++ [k])) (.slice y2 (l.length + 1) d2) (l ++ [k]).length (ctF t LF (l ++ [k])) := by
          rw [List.length_append]
          exact HT9.congr (fun i hi => gN_put l k i hi) (fun i hi => HC.out i hi)
        exact ⟨⟨k + 1, l ++ [k], by omega, by go_num, by simp; omega, ⟨y1, d1, by simp⟩, ⟨y2, d2, by simp⟩, HR, HT10⟩, by simp [intOf]; omega⟩
    · have hke : k = n := by omega
      subst hke
      have i1 : ¬ (k : Int) < (k : Int) := by omega
      have hbl := HT.out.bel
      by_cases hl0 : l.length = 0
      · have HZ : Hid (l = []) := List.eq_nil_of_length_eq_zero hl0
        have hlz : (l.length : Int) = 0 := by omega
        clear HT
        generalize l.length = Lz at *
        subst hl0
        go_wp2
        go_ret
        exact ⟨-1, rfl, .inl ⟨HL.out.symm.trans HZ.out, rfl⟩, hbl⟩
      · have hln : ((l.length : Int) == 0) = false := by simpa using hl0
        have hne : l ≠ [] := fun e => hl0 (by rw [e]; rfl)
        obtain ⟨K, hK⟩ := Fst.some (lv_alive l.length (ctF t LF l) (by omega) 11)
        have hok : ∀ j, j < l.length → 0 ≤ ctF t LF l j ∧ ctF t LF l j ≤ 2047 := fun j hj => by
          have hm : l.getD j 0 ∈ l := by simp [List.getD, List.getElem?_eq_getElem hj]
          obtain ⟨m1, m2⟩ := HM.out (l.getD j 0) (by rw [← HL.out]; exact hm)
          unfold myB at m2
          simp only [Bool.and_eq_true, decide_eq_true_eq] at m2
          exact HD.out _ _ m1 m2.2.1
        have kA := iArb a2 l.length c2 (ctF t LF l) K l.length (lv l.length (ctF t LF l) 11) true wr (by omega) (.inl ⟨⟨by omega, by omega, hok⟩, hK, rfl, rfl, rfl⟩) HT.out.o2.il
        have HZ : Hid (NxIs t LF (ctL t LF SE EC k) (gN l K)) := by
          show NxIs _ _ _ _
          rw [← HL.out]
          exact .inr ⟨hne, K, hK, rfl⟩
        have hKl := hK.1
        have HO : Hid (Own wr w.heap.size (.slice a1 l.length c1) l.length (gN l)) := HT.out.o1
        clear hok hK HL HM HT hne hl0
        generalize lv l.length (ctF t LF l) 11 = GG at *
        go_wp2_with fail
        refine kA.mono ?_
        rintro e w4 ⟨⟨p4, q4, rfl, -⟩, hb4⟩
        have hO4 := HO.out.below hb4
        have hbl4 := stepA hbl hb4
        obtain ⟨g1, cap1, e1, hg1, hP1⟩ := hO4.some (by omega)
        cases e1
        have y0 := hP1.c K hKl
        have yl := hP1.lt
        have jK : (0 : Int) ≤ (K : Int) := by omega
        have jK2 : (K : Int) < (l.length : Int) := by omega
        clear hP1 hO4 HO kA hb4
        generalize hgk : gN l K = Y at *
        clear hgk
        go_wp2
        go_ret
        exact ⟨Y, rfl, HZ.out, hbl4⟩
end Go.Proofs.Ytldagjgpapnfpaa
