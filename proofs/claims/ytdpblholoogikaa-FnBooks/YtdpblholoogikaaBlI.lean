/- BookLane, as the program goes (tools/gen_bli.py). -/
import Derived.Test.YtdpblholoogikaaBlO
import Derived.Test.YtdpblholoogikaaBlB
import Derived.Test.YtdpblholoogikaaBkGoodI
namespace Go.Proofs.Ytdpblholoogikaa
open Go.RowKit
/-- is it booked -/
def bkR (F : Nat → Int) (n : Nat) (bl bf bt bw : Int) : Bool := bsB n F && bsB (n + 1) (insF F (plB F bl bf n) bl bf bt bw)
set_option maxHeartbeats 4000000 in
set_option maxRecDepth 20000 in
theorem insNil (F : Nat → Int) (a f t u : Int) (vb base : Nat) (w : World) (hb0 : base ≤ w.heap.size) (hvh : w.heap[vb]? = some (.cells #[.int .i64 a, .int .i64 f, .int .i64 t, .int .i64 u] 25 (0, 0))) :
    Calls Try.prog 20 #[.slice none 0 0, .int .i64 0, .slice (some ⟨vb, 0, none⟩) 1 1] w fun e w' => AnsIn w w' e base (0 + 1) (insF F 0 a f t u) := by
  obtain ⟨ib, hib, hz0, hz1, hz2⟩ := infoBkB
  have hvs2 : ∀ j v, ([.int .i64 a, .int .i64 f, .int .i64 t, .int .i64 u] : List Value)[j]? = some v → w.cell? ((⟨vb, 0, none⟩ : Addr).add j) = some v := fun j v hj => by
    rw [bk_add, Nat.zero_add]
    unfold World.cell?
    simp only [hvh]
    simpa using hj
  have h1v : ∀ v ∈ ([.int .i64 a, .int .i64 f, .int .i64 t, .int .i64 u] : List Value), v.oneCell' = true := fun v hv => by
    simp at hv
    rcases hv with rfl | rfl | rfl | rfl <;> rfl
  have hbO : w.ownsRow base 25 4 (.slice none 0 0) 0 (vL F (0 * 4)) := World.ownsRow_nil _ _ _ _
  go_enter Try.func20, Try.ntmps20
  go_wp2_with (at_builtin; refine wpList_append_own _ rfl _ _ 23 rfl base 25 ib (bkv 0 0 0 0) 4 32 Try.underlying23 hib hz0 hz1 hz2 rfl (by decide) (.slice none 0 0) 0 (vL F (0 * 4)) rfl hbO ⟨vb, 0, none⟩ 1 1 [.int .i64 a, .int .i64 f, .int .i64 t, .int .i64 u] rfl rfl hvs2 h1v (by unfold maxLen; omega) (by omega) (by omega) ?_; intro vN w6 hown6 hgrow6 hnil6)
  rw [ins_end] at hown6
  have hsome : ∃ g9 c9, vN = .slice (some ⟨g9, 0, none⟩) (0 + 1) c9 ∧ base ≤ g9 ∧ 0 + 1 ≤ c9 := by
    obtain ⟨_, ⟨h1, h2⟩ | ⟨g9, cap, cur, h1, h2, _, h3, _⟩⟩ := hown6
    · omega
    · exact ⟨g9, cap, h1, h2, h3⟩
  obtain ⟨g9, c9, rfl, hb9, hc9⟩ := hsome
  have HP : Hid (IP w6 g9 ((0 + 1) * 4) (insF F 0 a f t u)) := ⟨(World.ownsRow.lt hown6 g9 rfl).2, fun i hi => by rw [World.ownsRow.cellAt hown6 i (by omega)]; exact vL_get hi, fun j => World.ownsRow.frozenAt hown6 j⟩
  have HB : Hid (Below base w w6) := ⟨hgrow6.os, hgrow6.tape, hgrow6.output, hgrow6.size, fun x hx => hgrow6.block x (by omega) (by intro e; cases e)⟩
  clear hown6 hgrow6 hnil6 hbO
  go_ret
  exact ⟨g9, c9, rfl, hb9, hc9, HP.out, HB.out⟩
set_option maxHeartbeats 2000000 in
theorem cloneNil (w : World) : Calls Try.prog 21 #[.slice none 0 0] w fun e w' => e = .returned (.slice none 0 0) ∧ w' = w := by
  have hnil : ∀ w, (binOp .eql 23 (.slice none 0 0) (.slice none 0 0)).run Try.prog w = .ok (.bool true) w := fun w => by
    have := run_equal_slice_nil w 23 25 none 0 0 Try.underlying23
    simp [binOp, this]
  go_enter Try.func21, Try.ntmps21
  go_wp2
  go_ret
  exact ⟨rfl, rfl⟩
/-- a list that came in: none, or some -/
def InB (w : World) (a : Option Addr) (n c : Nat) (F : Nat → Int) : Prop := IL w a (n * 4) F ∧ n ≤ c ∧ ((a = none ∧ n = 0 ∧ c = 0) ∨ ∃ b o, a = some ⟨b, o, none⟩)
theorem InB.below {w w' : World} {a : Option Addr} {n c : Nat} {F : Nat → Int} (h : InB w a n c F) (b : Below w.heap.size w w') : InB w' a n c F := ⟨h.1.below b, h.2⟩
/-- a clone: a row of the call's own, none or some -/
def AnsCx (w w' : World) (e : Ending) (n : Nat) (F : Nat → Int) : Prop := ∃ v, e = .returned v ∧ ((v = .slice none 0 0 ∧ n = 0) ∨ ∃ g cc, v = .slice (some ⟨g, 0, none⟩) n cc ∧ OwF w' w.heap.size v n F)
theorem cloneX (a : Option Addr) (n c : Nat) (F : Nat → Int) (w : World) (hn : n ≤ 1000) (h : InB w a n c F) : Calls Try.prog 21 #[.slice a n c] w fun e w' => AnsCx w w' e n F ∧ Below w.heap.size w w' := by
  obtain ⟨hA, hc, ⟨rfl, rfl, rfl⟩ | ⟨b, o, rfl⟩⟩ := h
  · refine (cloneNil w).mono ?_
    rintro e w' ⟨rfl, rfl⟩
    exact ⟨⟨_, rfl, .inl ⟨rfl, rfl⟩⟩, Below.refl _ _⟩
  · refine (cloneBk b o n c F w hn hA).mono ?_
    rintro e w' ⟨⟨g, cc, rfl, hO⟩, hb⟩
    exact ⟨⟨_, rfl, .inr ⟨g, cc, rfl, hO⟩⟩, hb⟩
/-- .. and one more is laid in -/
theorem insX (v : Value) (n k : Nat) (F : Nat → Int) (a f t u : Int) (vb base : Nat) (w : World) (hn : n ≤ 40) (hk : k ≤ n) (hb0 : base ≤ w.heap.size) (hv : (v = .slice none 0 0 ∧ n = 0) ∨ ∃ g cc, v = .slice (some ⟨g, 0, none⟩) n cc ∧ OwF w base v n F)
    (hvh : w.heap[vb]? = some (.cells #[.int .i64 a, .int .i64 f, .int .i64 t, .int .i64 u] 25 (0, 0))) (hvg : ∀ g n c, v = .slice (some ⟨g, 0, none⟩) n c → vb ≠ g) :
    Calls Try.prog 20 #[v, .int .i64 (k : Int), .slice (some ⟨vb, 0, none⟩) 1 1] w fun e w' => AnsIn w w' e base (n + 1) (insF F k a f t u) := by
  rcases hv with ⟨rfl, rfl⟩ | ⟨g, cc, rfl, hO⟩
  · have hk0 : k = 0 := by omega
    subst hk0
    exact insNil F a f t u vb base w hb0 hvh
  · exact insBk g cc n k F a f t u vb base w hn hk hb0 hO hvh (hvg g n cc rfl)
theorem bkR_no {F : Nat → Int} {n : Nat} {bl bf bt bw : Int} (h : bkR F n bl bf bt bw = false) (e : bsB n F = true) : bsB (n + 1) (insF F (plB F bl bf n) bl bf bt bw) = false := by
  unfold bkR at h; rw [e] at h; simpa using h
theorem OwF.below {w w' : World} {base : Nat} {v : Value} {m : Nat} {F : Nat → Int} (h : OwF w base v m F) (b : Below w.heap.size w w') : OwF w' base v m F := by
  obtain ⟨hl, h⟩ := h
  refine ⟨hl, ?_⟩
  rcases h with h | ⟨g, cap, cur, h1, h2, h3, h4⟩
  · exact .inl h
  · exact .inr ⟨g, cap, cur, h1, h2, (b.block g (Array.getElem?_eq_some_iff.1 h3).1).trans h3, h4⟩
theorem OwF.lower {w : World} {b0 base : Nat} {v : Value} {m : Nat} {F : Nat → Int} (h : OwF w base v m F) (hb : b0 ≤ base) : OwF w b0 v m F := by
  obtain ⟨hl, h⟩ := h
  refine ⟨hl, ?_⟩
  rcases h with h | ⟨g, cap, cur, h1, h2, h3, h4⟩
  · exact .inl h
  · exact .inr ⟨g, cap, cur, h1, Nat.le_trans hb h2, h3, h4⟩
def AnsBx (w w' : World) (e : Ending) (F : Nat → Int) (n : Nat) (bl bf bt bw : Int) : Prop := AnsBk w w' e (if bkR F n bl bf bt bw = true then n + 1 else 0) (insF F (plB F bl bf n) bl bf bt bw) (bkR F n bl bf bt bw)
def bxS (B : Nat) (bl bf bt bw : Int) (w : World) : Prop := Bx w B [.int .i64 bl, .int .i64 bf, .int .i64 bt, .int .i64 bw]
set_option maxHeartbeats 8000000 in
set_option maxRecDepth 20000 in
theorem iBook (a : Option Addr) (n c : Nat) (F : Nat → Int) (bl bf bt bw : Int) (w : World) (hn : n ≤ 1048576) (hA : InB w a n c F) :
    Calls Try.prog 5 #[.slice a n c, bkv bl bf bt bw] w fun e w' => AnsBx w w' e F n bl bf bt bw ∧ Below w.heap.size w w' := by
  have hb0 : Below w.heap.size w (w.alloc (.cells #[.int .i64 bl, .int .i64 bf, .int .i64 bt, .int .i64 bw] 25)) := (Below.refl _ _).alloc (Nat.le_refl _) _
  have b0 := bx_new (w := w) (b := w.heap.size) [.int .i64 bl, .int .i64 bf, .int .i64 bt, .int .i64 bw] 25 rfl
  have kG := iBooks a n c F _ hn (hA.below hb0).1
  cases e : bsB n F with
  | false =>
    have HR : Hid (bkR F n bl bf bt bw = false) := by show bkR F n bl bf bt bw = false; unfold bkR; rw [e]; rfl
    rw [e] at kG
    clear e
    go_enter Try.func5, Try.ntmps5
    go_wp2_with fail
    refine kG.mono ?_
    rintro e w1 ⟨rfl, hb1⟩
    have hB1 := stepA hb0 hb1
    clear kG b0 hb0 hb1
    go_wp2
    go_ret2
    exact ⟨by unfold AnsBx; rw [HR.out]; exact ansBk_nil _ _ _ _, hB1⟩
  | true =>
    rw [e] at kG
    have h40 := (bsB_t e).1
    have kG2 := fun (b : Option Addr) (c2 : Nat) (w : World) (h : IL w b ((n + 1) * 4) (insF F (plB F bl bf n) bl bf bt bw)) => iBooks b (n + 1) c2 _ w (by omega) h
    have HN : Hid (bsB (n + 1) (insF F (plB F bl bf n) bl bf bt bw) = bkR F n bl bf bt bw) := by show _ = bkR F n bl bf bt bw; unfold bkR; rw [e]; rfl
    have hple := plB_le F bl bf n
    have kS := fun w h => iSearch a n c F bl bf bt bw w h40 h (bsB_t e).2
    have HE : Hid (∀ (w1 w' : World) (r : Ending), AnsBk w1 w' r (if bkR F n bl bf bt bw = true then n + 1 else 0) (insF F (plB F bl bf n) bl bf bt bw) (bkR F n bl bf bt bw) → AnsBx w1 w' r F n bl bf bt bw) := fun _ _ _ h => h
    rw [HN.out] at kG2
    generalize plB F bl bf n = k at *
    generalize bkR F n bl bf bt bw = R at *
    clear HN e
    go_enter Try.func5, Try.ntmps5
    go_wp2_with fail
    refine kG.mono ?_
    rintro e w1 ⟨rfl, hb1⟩
    have hB1 := stepA hb0 hb1
    have b1 := b0.on hb1
    clear kG b0 hb0 hb1
    have x0 := b1.c0
    have x1 := b1.c1
    have x2 := b1.c2
    have x3 := b1.c 3 (by simp)
    go_wp2_with fail
    refine (kS _ (hA.below hB1).1).mono ?_
    rintro e w2 ⟨q, rfl, hb2⟩
    have hB2 := stepA hB1 hb2
    have b2 := b1.on hb2
    clear b1 hB1 hb2 kS x0 x1 x2 x3
    have x0 := b2.c0
    have x1 := b2.c1
    have x2 := b2.c2
    have x3 : w2.cell? ⟨w.heap.size, 3, none⟩ = some (.int .i64 bw) := b2.c 3 (by simp)
    have zl := b2.lt
    have hs2 := hB2.size
    have hA2 := hA.below hB2
    have hBd : Below w2.heap.size w2 w2.drew := (Below.refl _ _).drew
    go_upto_region 4 with fail
    refine wp_region_held (S := (bxS w.heap.size bl bf bt bw)) (by kernel_rfl) ?_
    change wpAnyH _ _ _ _ _ _ _ _ (World.drew _)
    have hSw := (b2.on hBd : bxS w.heap.size bl bf bt bw w2.drew)
    refine wpAnyH_take (i := 0) (v := .slice a n c) rfl (by kernel_rfl) (by kernel_rfl) (by kernel_rfl) (fun _ _ _ h => h) (Or.inl ⟨by rfl, ?_⟩) hSw ?_
    · intro wz hsz
      have hc8 : Bx wz w.heap.size [.int .i64 bl, .int .i64 bf, .int .i64 bt, .int .i64 bw] := hsz
      clear hsz
      go_simp
    try simp [Act.put]
    refine wpAnyH_take (i := 2) (v := .int .i64 (k : Int)) rfl (by kernel_rfl) (by kernel_rfl) (by kernel_rfl) (fun _ _ _ h => h) (Or.inl ⟨by rfl, ?_⟩) hSw ?_
    · intro wz hsz
      have hc8 : Bx wz w.heap.size [.int .i64 bl, .int .i64 bf, .int .i64 bt, .int .i64 bw] := hsz
      clear hsz
      go_simp
    try simp [Act.put]
    refine wpAnyH_take (i := 3) (v := bkv bl bf bt bw) rfl (by kernel_rfl) (by kernel_rfl) (by kernel_rfl) (fun _ _ _ h => h) (Or.inl ⟨by rfl, ?_⟩) hSw ?_
    · intro wz hsz
      have hc8 : Bx wz w.heap.size [.int .i64 bl, .int .i64 bf, .int .i64 bt, .int .i64 bw] := hsz
      have q0 := hc8.c0
      have q1 := hc8.c1
      have q2 := hc8.c2
      have q3 : wz.cell? ⟨w.heap.size, 3, none⟩ = some (.int .i64 bw) := hc8.c 3 (by simp)
      clear hsz
      go_simp
    try simp [Act.put]
    refine wpAnyH_ready (rs := [1, 4]) (by kernel_rfl) (by simp) ?_
    refine AllReadyH.cons rfl (fun K9 hK => ?_) (AllReadyH.cons rfl (fun K9 hK => ?_) AllReadyH.nil)
    · go_simp
      go_at_call 21
      refine (cloneX a n c F _ (by omega) (hA2.below (hBd))).mono ?_
      rintro e9 w4 ⟨⟨v4, rfl, hv4⟩, hb4⟩
      have hB4 := stepA hBd hb4
      refine hK.out _ _ (b2.on hB4) (fun hSn => ?_)
      clear hK K9 hSw
      have hSw := hSn
      clear hSn
      try simp [Act.put]
      refine wpAnyH_ready (rs := [4]) (by kernel_rfl) (by simp) ?_
      refine AllReadyH.cons rfl (fun K9 hK => ?_) AllReadyH.nil
      go_simp
      have hlb : Below w4.heap.size w4 (w4.alloc (.cells #[.int .i64 bl, .int .i64 bf, .int .i64 bt, .int .i64 bw] 25)) := (Below.refl _ _).alloc (Nat.le_refl _) _
      have hB5 := stepA hB4 hlb
      have hvh : (w4.alloc (.cells #[.int .i64 bl, .int .i64 bf, .int .i64 bt, .int .i64 bw] 25)).heap[w4.heap.size]? = some (.cells #[.int .i64 bl, .int .i64 bf, .int .i64 bt, .int .i64 bw] 25 (0, 0)) := (by show (w4.heap.push _)[w4.heap.size]? = _; simp)
      refine hK.out _ _ (b2.on hB5) (fun hSn => ?_)
      clear hK K9 hSw
      have hSw := hSn
      clear hSn
      try simp [Act.put]
      have hv5 : (v4 = .slice none 0 0 ∧ n = 0) ∨ ∃ g cc, v4 = .slice (some ⟨g, 0, none⟩) n cc ∧ OwF (w4.alloc (.cells #[.int .i64 bl, .int .i64 bf, .int .i64 bt, .int .i64 bw] 25)) w2.heap.size v4 n F := by
        rcases hv4 with h9 | ⟨g, cc, e9, hO⟩
        · exact .inl h9
        · exact .inr ⟨g, cc, e9, (hO.lower hBd.size).below hlb⟩
      have hne : ∀ g n c, v4 = .slice (some ⟨g, 0, none⟩) n c → w4.heap.size ≠ g := fun g n9 c9 e9 e8 => by
        rcases hv4 with ⟨h9, _⟩ | ⟨g2, cc, e7, hO⟩
        · rw [h9] at e9; cases e9
        · have := (World.ownsRow.lt hO g (by rw [e9]; rfl)).2; omega
      refine wpAnyH_ready (rs := [5]) (by kernel_rfl) (by simp) ?_
      refine AllReadyH.cons rfl (fun K9 hK => ?_) AllReadyH.nil
      go_simp
      go_at_call 20
      refine (insX v4 n k F bl bf bt bw w4.heap.size w2.heap.size _ h40 hple hB5.size hv5 hvh hne).mono ?_
      rintro e9 w7 ⟨g7, c7, rfl, hg7, hc7, hP7, hb7⟩
      have hB7 := hB5.trans hb7
      refine hK.out _ _ (b2.on hB7) (fun hSn => ?_)
      clear hK K9 hSw
      have hSw := hSn
      clear hSn
      try simp [Act.put]
      refine wpAnyH_take (i := 6) (v := .slice (some ⟨g7, 0, none⟩) (n + 1) c7) rfl (by kernel_rfl) (by kernel_rfl) (by kernel_rfl) (fun _ _ _ h => h) (Or.inl ⟨by rfl, ?_⟩) hSw ?_
      · intro wz hsz
        have hc8 : Bx wz w.heap.size [.int .i64 bl, .int .i64 bf, .int .i64 bt, .int .i64 bw] := hsz
        clear hsz
        go_simp
      try simp [Act.put]
      refine wpAnyH_done (by kernel_rfl) ?_ _
      have hB8 := stepA hB2 hB7
      have hLQ : Hid (LQ w7 w.heap.size w7.heap.size (some ⟨g7, 0, none⟩) ((n + 1) * 4) (insF F k bl bf bt bw)) := lq_of hP7 (by omega) hP7.lt
      clear hSw x0 x1 x2 x3 hv4 hv5 hvh hne b2
      go_wp2_with fail
      refine (kG2 _ _ _ hLQ.out.il).mono ?_
      rintro e w8 ⟨rfl, hb8⟩
      have hB9 := stepA hB8 hb8
      have hLQ8 := hLQ.out.on hb8
      cases R with
      | false =>
        go_wp2
        go_ret2
        exact ⟨HE.out _ _ _ (ansBk_nil _ _ _ _), hB9⟩
      | true =>
        go_wp2
        go_ret2
        exact ⟨HE.out _ _ _ ⟨_, _, rfl, hLQ8.wide (Nat.le_refl _) hb8.size⟩, hB9⟩
    · go_simp
      have hlb : Below w2.heap.size w2 (w2.drew.alloc (.cells #[.int .i64 bl, .int .i64 bf, .int .i64 bt, .int .i64 bw] 25)) := hBd.alloc (Nat.le_refl _) _
      have hvh0 : (w2.drew.alloc (.cells #[.int .i64 bl, .int .i64 bf, .int .i64 bt, .int .i64 bw] 25)).heap[w2.heap.size]? = some (.cells #[.int .i64 bl, .int .i64 bf, .int .i64 bt, .int .i64 bw] 25 (0, 0)) := (by show (w2.heap.push _)[w2.heap.size]? = _; simp)
      have hls : w2.heap.size < (w2.drew.alloc (.cells #[.int .i64 bl, .int .i64 bf, .int .i64 bt, .int .i64 bw] 25)).heap.size := (by show w2.heap.size < (w2.heap.push _).size; simp)
      refine hK.out _ _ (b2.on hlb) (fun hSn => ?_)
      clear hK K9 hSw
      have hSw := hSn
      clear hSn
      try simp [Act.put]
      refine wpAnyH_ready (rs := [1]) (by kernel_rfl) (by simp) ?_
      refine AllReadyH.cons rfl (fun K9 hK => ?_) AllReadyH.nil
      go_simp
      go_at_call 21
      refine (cloneX a n c F _ (by omega) (hA2.below (hlb))).mono ?_
      rintro e9 w4 ⟨⟨v4, rfl, hv4⟩, hb4⟩
      have hB5 := stepA hlb hb4
      have hvh := (hb4.block w2.heap.size hls).trans hvh0
      refine hK.out _ _ (b2.on hB5) (fun hSn => ?_)
      clear hK K9 hSw
      have hSw := hSn
      clear hSn
      try simp [Act.put]
      have hv5 : (v4 = .slice none 0 0 ∧ n = 0) ∨ ∃ g cc, v4 = .slice (some ⟨g, 0, none⟩) n cc ∧ OwF w4 w2.heap.size v4 n F := by
        rcases hv4 with h9 | ⟨g, cc, e9, hO⟩
        · exact .inl h9
        · exact .inr ⟨g, cc, e9, hO.lower (Nat.le_of_lt hls)⟩
      have hne : ∀ g n c, v4 = .slice (some ⟨g, 0, none⟩) n c → w2.heap.size ≠ g := fun g n9 c9 e9 e8 => by
        rcases hv4 with ⟨h9, _⟩ | ⟨g2, cc, e7, hO⟩
        · rw [h9] at e9; cases e9
        · have := (World.ownsRow.lt hO g (by rw [e9]; rfl)).1; omega
      refine wpAnyH_ready (rs := [5]) (by kernel_rfl) (by simp) ?_
      refine AllReadyH.cons rfl (fun K9 hK => ?_) AllReadyH.nil
      go_simp
      go_at_call 20
      refine (insX v4 n k F bl bf bt bw w2.heap.size w2.heap.size _ h40 hple hB5.size hv5 hvh hne).mono ?_
      rintro e9 w7 ⟨g7, c7, rfl, hg7, hc7, hP7, hb7⟩
      have hB7 := hB5.trans hb7
      refine hK.out _ _ (b2.on hB7) (fun hSn => ?_)
      clear hK K9 hSw
      have hSw := hSn
      clear hSn
      try simp [Act.put]
      refine wpAnyH_take (i := 6) (v := .slice (some ⟨g7, 0, none⟩) (n + 1) c7) rfl (by kernel_rfl) (by kernel_rfl) (by kernel_rfl) (fun _ _ _ h => h) (Or.inl ⟨by rfl, ?_⟩) hSw ?_
      · intro wz hsz
        have hc8 : Bx wz w.heap.size [.int .i64 bl, .int .i64 bf, .int .i64 bt, .int .i64 bw] := hsz
        clear hsz
        go_simp
      try simp [Act.put]
      refine wpAnyH_done (by kernel_rfl) ?_ _
      have hB8 := stepA hB2 hB7
      have hLQ : Hid (LQ w7 w.heap.size w7.heap.size (some ⟨g7, 0, none⟩) ((n + 1) * 4) (insF F k bl bf bt bw)) := lq_of hP7 (by omega) hP7.lt
      clear hSw x0 x1 x2 x3 hv4 hv5 hvh hne b2
      go_wp2_with fail
      refine (kG2 _ _ _ hLQ.out.il).mono ?_
      rintro e w8 ⟨rfl, hb8⟩
      have hB9 := stepA hB8 hb8
      have hLQ8 := hLQ.out.on hb8
      cases R with
      | false =>
        go_wp2
        go_ret2
        exact ⟨HE.out _ _ _ (ansBk_nil _ _ _ _), hB9⟩
      | true =>
        go_wp2
        go_ret2
        exact ⟨HE.out _ _ _ ⟨_, _, rfl, hLQ8.wide (Nat.le_refl _) hb8.size⟩, hB9⟩
end Go.Proofs.Ytdpblholoogikaa
