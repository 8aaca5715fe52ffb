/- The speakers that are made of talkers (tools/gen_buo.py). -/
import Derived.Test.YtldagjgpapnfpaaQBuB
namespace Go.Proofs.Ytldagjgpapnfpaa
open Go.RowKit
theorem infoPt : (Try.prog.info? 63).map (fun i => (i.zero, i.size, i.bytes)) = some (some (.pointer none), 1, 8) := by kernel_rfl
def ptV (Pt : Nat → Nat) (i : Nat) : Value := .pointer (some ⟨Pt i, 0, none⟩)
def ptL (Pt : Nat → Nat) (k : Nat) : List Value := (List.range k).map (ptV Pt)
theorem ptL_len (Pt : Nat → Nat) (k : Nat) : (ptL Pt k).length = k := by simp [ptL]
theorem ptL_put (Pt : Nat → Nat) (k x : Nat) : ptL (fun i => if i = k then x else Pt i) (k + 1) = ptL Pt k ++ [.pointer (some ⟨x, 0, none⟩)] := by
  unfold ptL
  rw [List.range_succ, List.map_append]
  congr 1
  · refine List.map_congr_left fun i hi => ?_
    have : i ≠ k := by have := List.mem_range.1 hi; omega
    show Value.pointer (some ⟨if i = k then x else Pt i, 0, none⟩) = Value.pointer (some ⟨Pt i, 0, none⟩)
    rw [if_neg this]
  · simp [ptV]
/-- the speakers of the first k talkers; v: their pointers, a row of the call's own -/
structure Bus (base : Nat) (w : World) (v : Value) (k : Nat) (Pt : Nat → Nat) (t : Tks) (LF : Nat → Nat) (SE EC : Nat → Int) : Prop where
  own : w.ownsRow base 63 1 v k (ptL Pt k)
  sp : ∀ i, i < k → Spk w (Pt i) (t.qa i) (t.qm i) (t.qc i) (t.sh i) (t.er i) (t.of i) (LF i) (SE i) (EC i)
  ge : ∀ i, i < k → base ≤ Pt i
  nb : ∀ i, i < k → v.ownBlock ≠ some (Pt i)
  inj : ∀ i j, i < k → j < k → i ≠ j → Pt i ≠ Pt j
section
variable {base : Nat} {w w' w3 : World} {v v' : Value} {k : Nat} {Pt : Nat → Nat} {t : Tks} {LF : Nat → Nat} {SE EC : Nat → Int}
theorem owns_on {e : TypeId} {sz n : Nat} {xs : List Value} (h : w.ownsRow base e sz v n xs) (b : Below w.heap.size w w') : w'.ownsRow base e sz v n xs := by
  obtain ⟨hl, h⟩ := h
  refine ⟨hl, ?_⟩
  rcases h with h | ⟨g, cap, cur, h1, h2, h3, h4⟩
  · exact .inl h
  · have hg : g < w.heap.size := (Array.getElem?_eq_some_iff.1 h3).1
    exact .inr ⟨g, cap, cur, h1, h2, (b.block g hg).trans h3, h4⟩
theorem Bus.on (h : Bus base w v k Pt t LF SE EC) (b : Below w.heap.size w w') : Bus base w' v k Pt t LF SE EC :=
  ⟨owns_on h.own b, fun i hi => Bx.on (h.sp i hi) b, h.ge, h.nb, h.inj⟩
/-- a speaker more: its own block has been made, its pointer is appended -/
theorem Bus.app {o : Obj} {P : Nat} (h : Bus base w v k Pt t LF SE EC) (hP : Spk w P (t.qa k) (t.qm k) (t.qc k) (t.sh k) (t.er k) (t.of k) (LF k) (SE k) (EC k)) (hge : base ≤ P) (hnb : v.ownBlock ≠ some P) (hne : ∀ i, i < k → Pt i ≠ P)
    (ho : w3.ownsRow base 63 1 v' (k + 1) (ptL Pt k ++ [.pointer (some ⟨P, 0, none⟩)])) (hg : (w.alloc o).grownBy w3 v.ownBlock) (hat : v'.ownBlock = v.ownBlock ∨ v'.ownBlock = some (w.alloc o).heap.size) :
    Bus base w3 v' (k + 1) (fun i => if i = k then P else Pt i) t LF SE EC := by
  have keep : ∀ (Q : Nat) (vs : List Value), Bx w Q vs → v.ownBlock ≠ some Q → Bx w3 Q vs := fun Q vs hb hq => by
    have h1 := hb.alloc o
    have e := hg.block Q h1.lt (fun e => hq e.symm)
    exact ⟨Nat.lt_of_lt_of_le h1.lt hg.size, fun i hi => (cell_same e i).trans (h1.c i hi), fun j => (frozen_same e j).trans (h1.fz j)⟩
  have fresh : ∀ Q, Q < w.heap.size → v.ownBlock ≠ some Q → v'.ownBlock ≠ some Q := fun Q hQ hq e => by
    rcases hat with h1 | h1
    · exact hq (h1.symm.trans e)
    · rw [h1] at e
      have := Option.some.inj e
      simp at this
      omega
  refine ⟨by rw [ptL_put]; exact ho, fun i hi => ?_, fun i hi => ?_, fun i hi => ?_, fun i j hi hj hij => ?_⟩
  · by_cases c : i = k
    · subst c; rw [if_pos rfl]; exact keep P _ hP hnb
    · rw [if_neg c]; exact keep _ _ (h.sp i (by omega)) (h.nb i (by omega))
  · by_cases c : i = k
    · rw [if_pos c]; exact hge
    · rw [if_neg c]; exact h.ge i (by omega)
  · by_cases c : i = k
    · rw [if_pos c]; exact fresh P (Bx.lt hP) hnb
    · rw [if_neg c]; exact fresh _ (Bx.lt (h.sp i (by omega))) (h.nb i (by omega))
  · by_cases c : i = k
    · rw [if_pos c, if_neg (by omega)]; exact fun e => hne j (by omega) e.symm
    · by_cases d : j = k
      · rw [if_neg c, if_pos d]; exact hne i (by omega)
      · rw [if_neg c, if_neg d]; exact h.inj i j (by omega) (by omega) hij
end
def AnsBu (w w' : World) (e : Ending) (n : Nat) (t : Tks) : Prop := ∃ (x : Option Addr) (c : Nat) (Pt : Nat → Nat), e = .returned (.slice x n c) ∧ Bus w.heap.size w' (.slice x n c) n Pt t (fun _ => 0) (fun _ => 0) t.er ∧ Below w.heap.size w w'
set_option maxRecDepth 20000 in
set_option maxHeartbeats 4000000 in
theorem busOf_any (a : Option Addr) (n c : Nat) (t : Tks) (w : World) (hn : n ≤ 6) (hT : TkH w a n t) :
    Calls Try.prog 26 #[.slice a n c] w fun e w' => AnsBu w w' e n t := by
  obtain ⟨i0, hi, hzz⟩ := Option.map_eq_some_iff.1 infoPt
  simp only [Prod.mk.injEq] at hzz
  obtain ⟨hz0, hz1, hz2⟩ := hzz
  have HT : Hid (TkH w a n t) := hT
  have hb0 : Below w.heap.size w (w.alloc (.cells #[] 63)) := (Below.refl _ _).alloc (Nat.le_refl _) _
  have HS0 : Hid (Bus w.heap.size (w.alloc (.cells #[] 63)) (.slice (some ⟨w.heap.size, 0, none⟩) 0 0) 0 (fun _ => 0) t (fun _ => 0) (fun _ => 0) t.er) :=
    ⟨World.ownsRow_made w #[] 0 (Nat.le_refl _) (by unfold maxLen; omega) rfl, fun i hi => absurd hi (Nat.not_lt_zero _), fun i hi => absurd hi (Nat.not_lt_zero _), fun i hi => absurd hi (Nat.not_lt_zero _), fun i j hi => absurd hi (Nat.not_lt_zero _)⟩
  clear hT
  go_enter Try.func26, Try.ntmps26
  go_wp2
  go_loopw [3, 10] (fun v i wr => ∃ (k : Nat) (Pt : Nat → Nat), k ≤ n ∧ i = .int .i64 (k : Int) ∧ (∃ x c, v = .slice x k c) ∧ Hid (Bus w.heap.size wr v k Pt t (fun _ => 0) (fun _ => 0) t.er) ∧ Below w.heap.size w wr) (fun _ i _ => n - (intOf i).toNat)
  case atStart => exact ⟨0, _, Nat.zero_le _, rfl, ⟨_, _, rfl⟩, HS0, hb0⟩
  case round =>
    obtain ⟨k, Pt, hk, rfl, ⟨x, cx, rfl⟩, HS, hB⟩ := hrel
    clear HS0 hb0
    by_cases hlt : k < n
    · have hT2 := HT.out.below hB
      obtain ⟨b1, o1, rfl, l1, hc1⟩ := hT2.out (by omega)
      obtain ⟨y0, y1, y2, y3⟩ := hc1 k hlt
      have j0 : (0 : Int) ≤ (k : Int) := by omega
      have j1 : (k : Int) < (n : Int) := by omega
      have hsz := hB.size
      clear hc1 hT2
      obtain ⟨X0, e0⟩ : ∃ X, X = t.qa k := ⟨_, rfl⟩
      obtain ⟨X1, e1⟩ : ∃ X, X = t.qm k := ⟨_, rfl⟩
      obtain ⟨X2, e2⟩ : ∃ X, X = t.qc k := ⟨_, rfl⟩
      obtain ⟨X3, e3⟩ : ∃ X, X = t.sh k := ⟨_, rfl⟩
      obtain ⟨X4, e4⟩ : ∃ X, X = t.er k := ⟨_, rfl⟩
      obtain ⟨X5, e5⟩ : ∃ X, X = t.of k := ⟨_, rfl⟩
      rw [← e0, ← e1, ← e2] at y0
      rw [← e3] at y1
      rw [← e4] at y2
      rw [← e5] at y3
      have HX : Hid (X0 = t.qa k ∧ X1 = t.qm k ∧ X2 = t.qc k ∧ X3 = t.sh k ∧ X4 = t.er k ∧ X5 = t.of k) := ⟨e0, e1, e2, e3, e4, e5⟩
      clear e0 e1 e2 e3 e4 e5
      have h1 : Below wr.heap.size wr (wr.alloc (tkO X0 X1 X2 X3 X4 X5 51)) := (Below.refl _ _).alloc (Nat.le_refl _) _
      have bT := bx_new (w := wr) (tkL X0 X1 X2 X3 X4 X5) 51 rfl
      have z0 := bT.c0
      have z1 := bT.c1
      have z2 := bT.c2
      have z3 := bT.c3
      have bS : Bx ((wr.alloc (tkO X0 X1 X2 X3 X4 X5 51)).alloc (.cells #[.slice X0 X1 X2, .int .i64 X3, .int .i64 X4, .bool X5, .int .i64 0, .int .i64 0, .int .i64 0] 87)) (wr.heap.size + 1) [.slice X0 X1 X2, .int .i64 X3, .int .i64 X4, .bool X5, .int .i64 0, .int .i64 0, .int .i64 0] := bx_new (w := wr.alloc (tkO X0 X1 X2 X3 X4 X5 51)) [.slice X0 X1 X2, .int .i64 X3, .int .i64 X4, .bool X5, .int .i64 0, .int .i64 0, .int .i64 0] 87 (by simp)
      have bT2 := bT.alloc (.cells #[.slice X0 X1 X2, .int .i64 X3, .int .i64 X4, .bool X5, .int .i64 0, .int .i64 0, .int .i64 0] 87)
      have h2 : Below wr.heap.size wr ((wr.alloc (tkO X0 X1 X2 X3 X4 X5 51)).alloc (.cells #[.slice X0 X1 X2, .int .i64 X3, .int .i64 X4, .bool X5, .int .i64 0, .int .i64 0, .int .i64 0] 87)) := h1.alloc (by simp) _
      go_upto_region 6 with fail
      generalize hW : (wr.alloc (tkO X0 X1 X2 X3 X4 X5 51)).alloc (.cells #[.slice X0 X1 X2, .int .i64 X3, .int .i64 X4, .bool X5, .int .i64 0, .int .i64 0, .int .i64 0] 87) = W2 at *
      clear hW bT h1 z0 z1 z2 z3
      have bTd : Bx W2.drew wr.heap.size (tkL X0 X1 X2 X3 X4 X5) := bT2.on (Below.refl _ _).drew
      have bSd : Spk W2.drew (wr.heap.size + 1) X0 X1 X2 X3 X4 X5 0 0 0 := Bx.on bS (Below.refl _ _).drew
      have hSl := Bx.lt bS
      refine wp_region_held (S := (fun w' => w'.cell? ⟨wr.heap.size, 2, none⟩ = some (.int .i64 X4) ∧ w'.cell? ⟨wr.heap.size + 1, 0, none⟩ = some (.slice X0 X1 X2))) (by kernel_rfl) ?_
      change wpAnyH _ _ _ _ _ _ _ _ (World.drew _)
      have hSw := (⟨bTd.c2, bSd.c0⟩ : _ ∧ _)
      refine wpAnyH_take (i := 0) (v := .pointer (some ⟨wr.heap.size + 1, 0, none⟩)) rfl (by kernel_rfl) (by kernel_rfl) (by kernel_rfl) (fun _ _ _ h => h) (Or.inl ⟨by rfl, ?_⟩) hSw ?_
      · intro wz hsz
        obtain ⟨hc8, hc9⟩ := hsz
        go_simp
      try simp [Act.put]
      refine wpAnyH_take (i := 1) (v := .pointer (some ⟨wr.heap.size + 1, 0, none⟩)) rfl (by kernel_rfl) (by kernel_rfl) (by kernel_rfl) (fun _ _ _ h => h) (Or.inl ⟨by rfl, ?_⟩) hSw ?_
      · intro wz hsz
        obtain ⟨hc8, hc9⟩ := hsz
        go_simp
      try simp [Act.put]
      refine wpAnyH_take (i := 2) (v := .pointer (some ⟨wr.heap.size + 1, 6, none⟩)) rfl (by kernel_rfl) (by kernel_rfl) (by kernel_rfl) (fun _ _ _ h => h) (Or.inl ⟨by rfl, ?_⟩) hSw ?_
      · intro wz hsz
        obtain ⟨hc8, hc9⟩ := hsz
        go_simp
      try simp [Act.put]
      refine wpAnyH_take (i := 3) (v := .pointer (some ⟨wr.heap.size, 2, none⟩)) rfl (by kernel_rfl) (by kernel_rfl) (by kernel_rfl) (fun _ _ _ h => h) (Or.inl ⟨by rfl, ?_⟩) hSw ?_
      · intro wz hsz
        obtain ⟨hc8, hc9⟩ := hsz
        go_simp
      try simp [Act.put]
      refine wpAnyH_take (i := 4) (v := .int .i64 X4) rfl (by kernel_rfl) (by kernel_rfl) (by kernel_rfl) (fun _ _ _ h => h) (Or.inl ⟨by rfl, ?_⟩) hSw ?_
      · intro wz hsz
        obtain ⟨hc8, hc9⟩ := hsz
        go_simp
      try simp [Act.put]
      refine wpAnyH_ready (rs := [5]) (by kernel_rfl) (by simp) ?_
      refine AllReadyH.cons rfl (fun K9 hK => ?_) AllReadyH.nil
      go_simp
      go_at_call 45
      refine (atStore (wr.heap.size + 1) 6 _ X4 _ bSd.c6 (Bx.fz bSd 6)).mono ?_
      rintro e9 w4 ⟨rfl, hw4⟩
      have hs4 := hw4.symm
      clear hw4
      subst hs4
      have bS5 := bSd.s6 X4
      have bT5 : Bx _ wr.heap.size (tkL X0 X1 X2 X3 X4 X5) := bTd.far (b' := wr.heap.size + 1) (k := 6) (.int .i64 X4) (by omega)
      refine hK.out _ _ (⟨bT5.c2, bS5.c0⟩) (fun hSn => ?_)
      clear hK K9 hSw
      have hSw := hSn
      clear hSn
      try simp [Act.put]
      refine wpAnyH_done (by kernel_rfl) ?_ _
      have h5 : Below wr.heap.size wr (W2.drew.setCell ⟨wr.heap.size + 1, 6, none⟩ (.int .i64 X4)) := h2.drew.setCell (p := ⟨wr.heap.size + 1, 6, none⟩) (Nat.le_succ _) _
      have HS5 := HS.out.on h5
      have hB5 := stepA hB h5
      have hnb : (Value.slice x k cx).ownBlock ≠ some (wr.heap.size + 1) := fun e9 => by
        have := (World.ownsRow.lt HS.out.own _ e9).2
        omega
      have hne : ∀ i, i < k → Pt i ≠ wr.heap.size + 1 := fun i hi => by
        have := Bx.lt (HS.out.sp i hi)
        omega
      obtain ⟨q0, q1, q2, q3, q4, q5⟩ := HX.out
      have HP5 : Hid (Spk (W2.drew.setCell ⟨wr.heap.size + 1, 6, none⟩ (.int .i64 X4)) (wr.heap.size + 1) (t.qa k) (t.qm k) (t.qc k) (t.sh k) (t.er k) (t.of k) 0 0 (t.er k)) := by
        rw [← q0, ← q1, ← q2, ← q3, ← q4, ← q5]; exact bS5
      have HNE : Hid (∀ i, i < k → Pt i ≠ wr.heap.size + 1) := hne
      clear q0 q1 q2 q3 q4 q5 hne bS5 bT5 bSd bTd bS bT2 h5 h2 hSw HS
      generalize W2.drew.setCell ⟨wr.heap.size + 1, 6, none⟩ (.int .i64 X4) = w5 at *
      have hz5 := hB5.size
      have HS6 : Hid (Bus w.heap.size w5 (.slice x k cx) k Pt t (fun _ => 0) (fun _ => 0) t.er) := HS5
      clear HS5
      go_wp2_with (at_builtin; refine wpList_append_own_at _ rfl _ _ 59 rfl w.heap.size 63 i0 (.pointer none) 1 8 Try.underlying59 hi hz0 hz1 hz2 rfl (by decide) _ _ _ rfl (World.ownsRow.alloc HS6.out.own _) ⟨w5.heap.size, 0, none⟩ 1 1 [.pointer (some ⟨wr.heap.size + 1, 0, none⟩)] rfl rfl (cell_one_new _ _ _) (fun y hy => by simp at hy; subst hy; rfl) (by unfold maxLen; omega) (by omega) (by simp; omega) ?_; intro v' w7 ho' hg' _ hat')
      have HS7 := HS6.out.app HP5.out (by omega) hnb HNE.out ho' hg' hat'
      have hB7 := hB5.trans (((Below.refl w.heap.size w5).alloc hB5.size _).grown hg' (by simp; omega) (fun q hq => (World.ownsRow.lt HS6.out.own q hq).1))
      obtain ⟨y, cy, rfl⟩ : ∃ y cy, v' = .slice y (k + 1) cy := by
        obtain ⟨_, ⟨_, h9⟩ | ⟨g, cap, cur, e9, _⟩⟩ := ho'
        · omega
        · exact ⟨_, _, e9⟩
      exact ⟨⟨k + 1, _, by omega, by go_num, ⟨_, _, rfl⟩, HS7, hB7⟩, by simp [intOf]; omega⟩
    · have hke : k = n := by omega
      subst hke
      go_wp2
      go_ret
      exact ⟨x, cx, Pt, rfl, HS.out, hB⟩
end Go.Proofs.Ytldagjgpapnfpaa
