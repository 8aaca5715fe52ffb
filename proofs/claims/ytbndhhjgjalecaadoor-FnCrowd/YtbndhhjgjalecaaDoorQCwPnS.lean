/- A list of lists of the call's own: it grows by rows that are new; each row a block of its own. -/
import Derived.Test.YtbndhhjgjalecaaDoorQCwRows
import Derived.Test.YtbndhhjgjalecaaDoorQClVal
import Derived.Test.YtbndhhjgjalecaaDoorQCwPtS
import Derived.Test.YtbndhhjgjalecaaDoorQCwPnM
import Derived.Test.YtbndhhjgjalecaaDoorQCwGtS
namespace Go.Proofs.YtbndhhjgjalecaaDoor
open Go.RowKit

/-- the first k rows as cells -/
def vR (B C : Nat → Nat) (L k : Nat) : List Value := (List.range k).map fun i => .slice (some ⟨B i, 0, none⟩) L (C i)
theorem vR_len (B C : Nat → Nat) (L k : Nat) : (vR B C L k).length = k := by simp [vR]
theorem vR_get {B C : Nat → Nat} {L k i : Nat} (h : i < k) : (vR B C L k)[i]? = some (.slice (some ⟨B i, 0, none⟩) L (C i)) := by simp [vR, h]
theorem vR_put (B C : Nat → Nat) (L k b c : Nat) : vR (fun i => if i = k then b else B i) (fun i => if i = k then c else C i) L (k + 1) = vR B C L k ++ [.slice (some ⟨b, 0, none⟩) L c] := by
  unfold vR
  rw [List.range_succ, List.map_append]
  congr 1
  · refine List.map_congr_left fun i hi => ?_
    have : i ≠ k := by have := List.mem_range.1 hi; omega
    simp [this]
  · simp
/-- k rows of L ints each, all of the call's own -/
structure Ow (w : World) (base : Nat) (v : Value) (k L : Nat) (R : Nat → Nat → Int) (B C : Nat → Nat) : Prop where
  own : w.ownsRow base 23 1 v k (vR B C L k)
  low : ∀ j, j < k → base ≤ B j
  row : ∀ j, j < k → IP w (B j) L (R j)
  inj : ∀ i j, i < k → j < k → B i = B j → i = j
section
variable {w w' : World} {base : Nat} {v : Value} {k L : Nat} {R : Nat → Nat → Int} {B C : Nat → Nat}
theorem ow_nil (w : World) (base L : Nat) (R : Nat → Nat → Int) (B C : Nat → Nat) : Ow w base (.slice none 0 0) 0 L R B C :=
  ⟨World.ownsRow_nil _ _ _ _, fun _ h => absurd h (Nat.not_lt_zero _), fun _ h => absurd h (Nat.not_lt_zero _), fun _ _ h => absurd h (Nat.not_lt_zero _)⟩
theorem Ow.on (h : Ow w base v k L R B C) (b : Below w.heap.size w w') : Ow w' base v k L R B C := by
  refine ⟨?_, h.low, fun j hj => (h.row j hj).below b (h.row j hj).lt, h.inj⟩
  obtain ⟨hl, h⟩ := h.own
  refine ⟨hl, ?_⟩
  rcases h with h | ⟨g, cap, cur, h1, h2, h3, h4⟩
  · exact .inl h
  · have hg : g < w.heap.size := (Array.getElem?_eq_some_iff.1 h3).1
    exact .inr ⟨g, cap, cur, h1, h2, (b.block g hg).trans h3, h4⟩
theorem Ow.shape (h : Ow w base v k L R B C) : ∃ a cap, v = .slice a k cap := by
  obtain ⟨_, ⟨rfl, rfl⟩ | ⟨g, cap, cur, rfl, _⟩⟩ := h.own
  · exact ⟨_, _, rfl⟩
  · exact ⟨_, _, rfl⟩
theorem Ow.some (h : Ow w base v k L R B C) (hk : 0 < k) : ∃ g cap, v = .slice (some ⟨g, 0, none⟩) k cap ∧ base ≤ g ∧ g < w.heap.size ∧ ∀ i, i < k → w.cell? ⟨g, i, none⟩ = some (.slice (some ⟨B i, 0, none⟩) L (C i)) := by
  have h' := h.own
  obtain ⟨_, h0 | ⟨g, cap, cur, rfl, h2, h3, _⟩⟩ := h.own
  · omega
  · have hlt : g < w.heap.size := (Array.getElem?_eq_some_iff.1 h3).1
    refine ⟨g, cap, rfl, h2, hlt, fun i hi => ?_⟩
    rw [World.ownsRow.cellAt h' i (by omega)]; exact vR_get hi
theorem Ow.rr {a : Option Addr} {c : Nat} (h : Ow w base (.slice a k c) k L R B C) : RR w a k (fun _ => L) R :=
  ⟨fun i => .some ⟨B i, 0, none⟩, C, fun h0 => by
    obtain ⟨g, cap, e, _, hg, hc⟩ := h.some h0
    cases e
    exact ⟨g, 0, rfl, hg, fun i hi => by rw [Nat.zero_add]; exact hc i hi⟩, fun i hi => (h.row i hi).il⟩
theorem Ow.wide {base' : Nat} (h : Ow w base v k L R B C) (hb : base' ≤ base) : Ow w base' v k L R B C := by
  refine ⟨?_, fun j hj => Nat.le_trans hb (h.low j hj), h.row, h.inj⟩
  obtain ⟨hl, h⟩ := h.own
  refine ⟨hl, ?_⟩
  rcases h with h | ⟨g, cap, cur, h1, h2, h3, h4⟩
  · exact .inl h
  · exact .inr ⟨g, cap, cur, h1, Nat.le_trans hb h2, h3, h4⟩
/-- no row lies where the list of rows lies -/
theorem Ow.apart (h : Ow w base v k L R B C) (hL : 0 < L) {q : Nat} (hq : v.ownBlock = .some q) {j : Nat} (hj : j < k) : B j ≠ q := fun e => by
  obtain ⟨g, cap, rfl, _, _, hc⟩ := h.some (by omega)
  have : g = q := by simpa [Value.ownBlock] using hq
  subst this
  have h0 := hc 0 (by omega)
  have h1 := (h.row j hj).c 0 hL
  rw [e, h0] at h1
  cases h1
theorem Ow.app (h : Ow w base v k L R B C) (hL : 0 < L) {b c : Nat} {P : Nat → Int} {o : Obj} {v' : Value} {w3 : World} (hb : base ≤ b) (hP : IP w b L P) (hn : ∀ j, j < k → B j ≠ b) (hq : ∀ q, v.ownBlock = .some q → b ≠ q)
    (ho : w3.ownsRow base 23 1 v' (k + 1) (vR B C L k ++ [.slice (.some ⟨b, 0, none⟩) L c])) (hg : (w.alloc o).grownBy w3 v.ownBlock) : Ow w3 base v' (k + 1) L (fun i => if i = k then P else R i) (fun i => if i = k then b else B i) (fun i => if i = k then c else C i) := by
  have keep : ∀ {x : Nat} {F : Nat → Int}, IP w x L F → (∀ q, v.ownBlock = .some q → x ≠ q) → IP w3 x L F := fun {x F} hx hxq => by
    have h1 := hx.below ((Below.refl w.heap.size w).alloc (Nat.le_refl _) o) hx.lt
    have e := hg.block x h1.lt (fun e => hxq x e.symm rfl)
    exact ⟨Nat.lt_of_lt_of_le h1.lt hg.size, fun i hi => (cell_same e _).trans (h1.c i hi), fun j => (frozen_same e j).trans (h1.fz j)⟩
  refine ⟨by rw [vR_put]; exact ho, fun j hj => ?_, fun j hj => ?_, fun i j hi hj hij => ?_⟩
  · by_cases e : j = k
    · simp [e, hb]
    · simp only [e, if_false]; exact h.low j (by omega)
  · by_cases e : j = k
    · subst e; simp only [if_true]; exact keep hP hq
    · simp only [e, if_false]; exact keep (h.row j (by omega)) fun q hq' => h.apart hL hq' (by omega)
  · by_cases e : i = k
    · by_cases e2 : j = k
      · omega
      · simp only [e, e2, if_true, if_false] at hij
        exact absurd hij.symm (hn j (by omega))
    · by_cases e2 : j = k
      · simp only [e, e2, if_true, if_false] at hij
        exact absurd hij (hn i (by omega))
      · simp only [e, e2, if_false] at hij
        exact h.inj i j (by omega) (by omega) hij
end
end Go.Proofs.YtbndhhjgjalecaaDoor

/- The paths of a crowd, as the model plans them. -/
namespace Go.Proofs.YtbndhhjgjalecaaDoor
open Go.RowKit

theorem Bests.snoc {W : Int} {n : Nat} {f g : Nat → Int} {R : Nat → Nat → Int} {T k : Nat} {P : Nat → Int} (h : Bests W n f g R T k) (hb : Bp W n f R k (g (k * 2)) (g (k * 2 + 1)) T P) : Bests W n f g (fun i => if i = k then P else R i) T (k + 1) := by
  intro j hj
  by_cases e : j = k
  · subst e
    simp only [if_true]
    exact hb.congr (fun j' hj' i _ => by rw [if_neg (by omega)])
  · simp only [e, if_false]
    exact (h j (by omega)).congr (fun j' hj' i _ => by rw [if_neg (by omega)])
/-- what PlanCrowd answers: rows of the call's own -/
def AnsPn (W : Int) (n : Nat) (f : Nat → Int) (m : Nat) (g : Nat → Int) (tk : Int) (w w' : World) (e : Ending) : Prop :=
  ∃ (ok : Bool) (R : Nat → Nat → Int) (k : Nat) (v : Option Addr) (cv : Nat) (B C : Nat → Nat), PlnIs W n f m g tk ok R ∧ e = .returned (.tuple #[.slice v k cv, .bool ok]) ∧ (k = if ok = true then m else 0) ∧ Ow w' w.heap.size (.slice v k cv) k (tk.toNat + 1) R B C
theorem ansPn_no {W : Int} {n : Nat} {f : Nat → Int} {m : Nat} {g : Nat → Int} {tk : Int} (w w' : World) (h : PlnIs W n f m g tk false fun _ _ => 0) : AnsPn W n f m g tk w w' (.returned (.tuple #[.slice none 0 0, .bool false])) :=
  ⟨false, _, 0, none, 0, fun _ => 0, fun _ => 0, h, rfl, rfl, ow_nil _ _ _ _ _ _⟩
set_option maxRecDepth 20000 in
set_option maxHeartbeats 8000000 in
theorem sPlan (W : Int) (a q : Option Addr) (n c m cq : Nat) (f g : Nat → Int) (tk : Int) (w : World) (hn : n ≤ 1048576) (hm : m ≤ 1048576) (hf : IL w a n f) (hg : IL w q (m * 2) g) :
    Calls Tryd.prog 9 #[cel W a n c, .slice q m cq, .int .i64 tk] w fun e w' => AnsPn W n f m g tk w w' e ∧ Below w.heap.size w w' := by
  have b0 := bx_new (w := w) (celL W a n c) 25 rfl
  have hb0 : Below w.heap.size w (w.alloc (celO W a n c 25)) := (Below.refl _ _).alloc (Nat.le_refl _) _
  have kG := sGoodTrips W a q n c m cq f g (w.alloc (celO W a n c 25)) hn hm (hf.below hb0) (hg.below hb0)
  have x0 := b0.c0
  have x1 := b0.c1
  by_cases hgood : gtB W n f m g = true ∧ 0 ≤ tk ∧ tk ≤ 20
  case neg =>
    have HR : Hid (PlnIs W n f m g tk false fun _ _ => 0) := .inr ⟨rfl, .inl hgood⟩
    cases hq : gtB W n f m g with
    | false =>
      rw [hq] at kG
      clear hgood
      go_enter Tryd.func9, Tryd.ntmps9
      go_wp2_with (first | (go_at_call 39; refine kG.mono ?_; rintro e9 w1 ⟨rfl, hb1⟩) | (fail))
      go_ret2
      exact ⟨ansPn_no _ _ HR.out, stepA hb0 hb1⟩
    | true =>
      rw [hq] at kG
      by_cases h0 : tk < 0
      · have h0' : ¬ 0 ≤ tk := by omega
        clear hgood
        go_enter Tryd.func9, Tryd.ntmps9
        go_wp2_with (first | (go_at_call 39; refine kG.mono ?_; rintro e9 w1 ⟨rfl, hb1⟩) | (fail))
        go_ret2
        exact ⟨ansPn_no _ _ HR.out, stepA hb0 hb1⟩
      · have h20 : 20 < tk := by
          rcases Int.lt_or_le 20 tk with h | h
          · exact h
          · exact absurd ⟨hq, by omega, h⟩ hgood
        clear hgood
        go_enter Tryd.func9, Tryd.ntmps9
        go_wp2_with (first | (go_at_call 39; refine kG.mono ?_; rintro e9 w1 ⟨rfl, hb1⟩) | (fail))
        go_ret2
        exact ⟨ansPn_no _ _ HR.out, stepA hb0 hb1⟩
  case pos =>
    obtain ⟨hq, ht0, ht1⟩ := hgood
    rw [hq] at kG
    obtain ⟨T, rfl⟩ : ∃ T : Nat, tk = (T : Int) := ⟨tk.toNat, by omega⟩
    obtain ⟨hcel, hm5, htr⟩ := gtB_t hq
    have hs := (celB_parts hcel).1
    have hN := sized_le hs
    have hT : T ≤ 20 := by omega
    have t0 : ¬ (T : Int) < 0 := by omega
    have t1 : ¬ (20 : Int) < (T : Int) := by omega
    have HYES : Hid (∀ R, Bests W n f g R T m → PlnIs W n f m g (T : Int) true R) := fun R h => .inl ⟨rfl, ⟨hq, ht0, ht1⟩, by simpa using h⟩
    have HNO : Hid (∀ i R, i < m → Bests W n f g R T i → (∀ P, ¬ Vp W n f R i (g (i * 2)) (g (i * 2 + 1)) T P) → PlnIs W n f m g (T : Int) false fun _ _ => 0) := fun i R h1 h2 h3 => .inr ⟨rfl, .inr ⟨i, R, h1, by simpa using h2, by simpa using h3⟩⟩
    have HTR : Hid (∀ i, i < m → ∃ S E : Nat, g (i * 2) = (S : Int) ∧ g (i * 2 + 1) = (E : Int) ∧ S < n ∧ E < n ∧ f S = 0 ∧ f E = 0) := fun i hi => by
      obtain ⟨f1, f2, -⟩ := trB_at htr i hi
      have h1 := frB_t f1
      have h2 := frB_t f2
      exact ⟨(g (i * 2)).toNat, (g (i * 2 + 1)).toNat, by omega, by omega, by omega, by omega, h1.2.2, h2.2.2⟩
    obtain ⟨i0', hi, hzz⟩ := Option.map_eq_some_iff.1 infoII
    simp only [Prod.mk.injEq] at hzz
    obtain ⟨hz0, hz1, hz2⟩ := hzz
    clear hcel htr hq ht0 ht1
    go_enter Tryd.func9, Tryd.ntmps9
    go_wp2_with (first | (go_at_call 39; refine kG.mono ?_; rintro e9 w1 ⟨rfl, hb1⟩) | (fail))
    have hB1 := stepA hb0 hb1
    have b1 := b0.on hb1
    have hf1 := hf.below hB1
    have hg1 := hg.below hB1
    clear kG x0 x1 b0 hb0 hb1 hf hg
    go_loopw [8, 27] (fun v i wr => ∃ (k : Nat) (R : Nat → Nat → Int) (B C : Nat → Nat), i = .int .i64 (k : Int) ∧ k ≤ m ∧ Hid (Bests W n f g R T k) ∧ Hid (Ow wr w1.heap.size v k (T + 1) R B C) ∧ Below w1.heap.size w1 wr) (fun _ i _ => m - (intOf i).toNat)
    case atStart => exact ⟨0, fun _ _ => 0, fun _ => 0, fun _ => 0, rfl, Nat.zero_le _, fun j hj => by omega, ow_nil _ _ _ _ _ _, Below.refl _ _⟩
    case round =>
      obtain ⟨k, R, B, C, rfl, hk, HBs, HO, hB⟩ := hrel
      obtain ⟨sa, sc, rfl⟩ := HO.out.shape
      by_cases hlt : k < m
      case neg =>
        have hkm : k = m := by omega
        subst hkm
        have HR : Hid (PlnIs W n f k g (T : Int) true R) := HYES.out R HBs.out
        have hBw := stepA hB1 hB
        have hlow := hB1.size
        have HO2 : Hid (Ow wr w.heap.size (.slice sa k sc) k (T + 1) R B C) := HO.out.wide hlow
        clear HBs HO HYES HNO HTR
        go_wp2
        go_ret2
        exact ⟨⟨true, R, k, sa, sc, B, C, HR.out, rfl, rfl, by simpa using HO2.out⟩, hBw⟩
      case pos =>
        obtain ⟨S, E, eS, eE, hS, hE, hS0, hE0⟩ := HTR.out k hlt
        obtain ⟨gb, go_, rfl, gl_, y0, y1⟩ := il_two (hg1.below hB) hlt
        have HSN : Hid (∀ P, Bp W n f R k (S : Int) (E : Int) T P → Bests W n f g (fun i => if i = k then P else R i) T (k + 1)) := fun P hP => HBs.out.snoc (by rw [eS, eE]; exact hP)
        have HN2 : Hid ((∀ P, ¬ Vp W n f R k (S : Int) (E : Int) T P) → PlnIs W n f m g (T : Int) false fun _ _ => 0) := fun h => HNO.out k R hlt HBs.out (by rw [eS, eE]; exact h)
        rw [eS] at y0
        rw [eE] at y1
        have hbt : Below wr.heap.size wr (wr.alloc (.cells #[.int .i64 (S : Int), .int .i64 (E : Int)] 34)) := (Below.refl _ _).alloc (Nat.le_refl _) _
        have b2 := (b1.on hB).on hbt
        have b3 := bx_new (w := wr) [.int .i64 (S : Int), .int .i64 (E : Int)] 34 rfl
        have x0 := b2.c0
        have x1 := b2.c1
        have x2 := b3.c0
        have x3 := b3.c1
        have j0 : (0 : Int) ≤ (k : Int) := by omega
        have j1 : (k : Int) < (m : Int) := by omega
        have hO2 := HO.out.on hbt
        have kP := sPath W a sa n c k sc f R S E T (wr.alloc (.cells #[.int .i64 (S : Int), .int .i64 (E : Int)] 34)) hs ((hf1.below hB).below hbt) (by omega) (by omega) hS hE hS0 hE0 hO2.rr
        have HO2 : Hid (Ow (wr.alloc (.cells #[.int .i64 (S : Int), .int .i64 (E : Int)] 34)) w1.heap.size (.slice sa k sc) k (T + 1) R B C) := hO2
        have hB3 := stepA hB hbt
        clear hO2 HO HBs eS eE b2 b3 hbt HYES HNO
        have hcs : wr.heap.size + 1 = (wr.alloc (.cells #[.int .i64 (S : Int), .int .i64 (E : Int)] 34)).heap.size := by simp
        have HCS : Hid (wr.heap.size + 1 = (wr.alloc (.cells #[.int .i64 (S : Int), .int .i64 (E : Int)] 34)).heap.size) := hcs
        clear hcs
        go_wp2_with fail
        refine kP.mono ?_
        rintro e9 w5 ⟨⟨P, v5, c5, hP5, rfl, hL5⟩ | ⟨hno, rfl⟩, hb5⟩
        · obtain ⟨b5, rfl, hlo5, hhi5, hI5⟩ := hL5 (by omega)
          have hB5 := stepA hB3 hb5
          have hO5 := HO2.out.on hb5
          have HB6 : Hid (Bests W n f g (fun i => if i = k then P else R i) T (k + 1)) := HSN.out P hP5
          have hbase : w1.heap.size ≤ w5.heap.size := hB5.size
          have hs3 := hB3.size
          have HNE : Hid (∀ j, j < k → B j ≠ b5) := fun j hj => by
            have := (HO2.out.row j hj).lt
            omega
          have HNQ : Hid (∀ q, (Value.slice sa k sc).ownBlock = some q → b5 ≠ q) := fun q hq => by
            have := (World.ownsRow.lt HO2.out.own q hq).2
            omega
          have hlow5 : w1.heap.size ≤ b5 := by omega
          have HO5 : Hid (Ow w5 w1.heap.size (.slice sa k sc) k (T + 1) R B C) := hO5
          have HI5 : Hid (IP w5 b5 (T + 1) P) := hI5
          clear hL5 hI5 hO5 kP x0 x1 x2 x3 HCS HSN HN2 hP5 y0 y1
          go_wp2_with (at_builtin; refine wpList_append_own _ rfl _ _ 29 rfl w1.heap.size 23 i0' (.slice none 0 0) 1 24 Tryd.underlying29 hi hz0 hz1 hz2 rfl (by decide) _ _ _ rfl (World.ownsRow.alloc HO5.out.own _) ⟨w5.heap.size, 0, none⟩ 1 1 [.slice (some ⟨b5, 0, none⟩) (T + 1) c5] rfl rfl (cell_one_new _ _ _) (fun x hx => by simp at hx; subst hx; rfl) (by unfold maxLen; omega) (by omega) (by simp; omega) ?_; intro v' w3 hown' hgrow3 _)
          have hO6 := HO5.out.app (by omega) hlow5 HI5.out HNE.out HNQ.out hown' hgrow3
          have hB6 : Below w1.heap.size w1 w3 := (hB5.alloc hB5.size _).grown hgrow3 (by simp; omega) (fun q hq => (World.ownsRow.lt HO5.out.own q hq).1)
          exact ⟨⟨k + 1, _, _, _, by go_num, by omega, HB6, hO6, hB6⟩, by simp [intOf]; omega⟩
        · have HR : Hid (PlnIs W n f m g (T : Int) false fun _ _ => 0) := HN2.out hno
          have hBw := stepA hB1 (stepA hB3 hb5)
          go_wp2
          go_ret2
          exact ⟨ansPn_no _ _ HR.out, hBw⟩
end Go.Proofs.YtbndhhjgjalecaaDoor
