/- A search in memory: a map that tells how far each node is, and a queue. -/
import Derived.Test.YtbndhhjgjalecaaDoorQCwQi
import Derived.Test.YtbndhhjgjalecaaDoorQCwBs
import Derived.Test.YtbndhhjgjalecaaDoorQCwDuM
namespace Go.Proofs.YtbndhhjgjalecaaDoor
open Go.RowKit Go.ChangeMaps

/-- behind w0: block Mb is a map, v a queue -/
structure Sst {κ : Type} (Kt : TypeId) (kv : κ → Value) (ok : κ → Prop) (sz : Nat) (w0 wr : World) (Mb cnt : Nat) (M : κ → Option Int) (v : Value) (nq : Nat) (G : Nat → Int) : Prop where
  map : MI Kt kv ok wr Mb cnt M
  q : Qi wr w0.heap.size sz v nq G
  tn : Turns Mb (Mb + 1) w0 wr
  lt : Mb < w0.heap.size
section
variable {κ : Type} {Kt : TypeId} {kv : κ → Value} {ok : κ → Prop} {sz : Nat} {w0 wr w' : World} {Mb cnt : Nat} {M M' : κ → Option Int} {v : Value} {nq : Nat} {G G' : Nat → Int}
theorem Sst.size (h : Sst Kt kv ok sz w0 wr Mb cnt M v nq G) : w0.heap.size ≤ wr.heap.size := h.tn.size
theorem Sst.on (h : Sst Kt kv ok sz w0 wr Mb cnt M v nq G) (k : Below wr.heap.size wr w') : Sst Kt kv ok sz w0 w' Mb cnt M v nq G :=
  ⟨h.map.on k, h.q.on k, tn_below h.tn (k.mono h.tn.size), h.lt⟩
theorem Sst.store {cnt' : Nat} (h : Sst Kt kv ok sz w0 wr Mb cnt M v nq G) (k : wr.mapTurned w' Mb) (m : MI Kt kv ok w' Mb cnt' M') : Sst Kt kv ok sz w0 w' Mb cnt' M' v nq G :=
  ⟨m, h.q.turns (turned_turns k) h.lt, h.tn.trans (turned_turns k), h.lt⟩
theorem Sst.app {o : Obj} {w3 : World} {v' : Value} {nq' : Nat} (h : Sst Kt kv ok sz w0 wr Mb cnt M v nq G) (hg : (wr.alloc o).grownBy w3 v.ownBlock) (hq : Qi w3 w0.heap.size sz v' nq' G') : Sst Kt kv ok sz w0 w3 Mb cnt M v' nq' G' := by
  have hb : Below w0.heap.size wr w3 := ((Below.refl _ _).alloc h.size o).grown hg (by simp; have := h.size; omega) (fun q hq => (h.q.lt q hq).1)
  exact ⟨h.map.below hb h.lt, hq, tn_below h.tn hb, h.lt⟩
theorem Sst.cut {v' : Value} {nq' : Nat} (h : Sst Kt kv ok sz w0 wr Mb cnt M v nq G) (hq : Qi wr w0.heap.size sz v' nq' G') : Sst Kt kv ok sz w0 wr Mb cnt M v' nq' G' := ⟨h.map, hq, h.tn, h.lt⟩
theorem Sst.below (h : Sst Kt kv ok sz w0 wr Mb cnt M v nq G) {B : Nat} (hB : B ≤ Mb) : Below B w0 wr := h.tn.below hB (by have := h.lt; omega)
theorem Sst.congr (h : Sst Kt kv ok sz w0 wr Mb cnt M v nq G) (e : ∀ x, ok x → M x = M' x) (e2 : ∀ j, j < nq * sz → G j = G' j) : Sst Kt kv ok sz w0 wr Mb cnt M' v nq G' := ⟨h.map.congr e, h.q.congr e2, h.tn, h.lt⟩
theorem Sst.bn (h : Sst Kt kv ok sz w0 wr Mb cnt M v nq G) (lo hi : Nat) (hl : wr.heap.size ≤ lo) : Bn lo hi v := fun q hq => .inl (Nat.lt_of_lt_of_le (h.q.lt q hq).2 hl)
end
theorem whr_bn {w : World} {v v' : Value} {lo hi : Nat} (h : Whr w v v') (hb : Bn lo hi v) (hh : hi ≤ w.heap.size) : Bn lo hi v' := fun q hq => by
  rcases h with e | ⟨q', e, hq'⟩
  · exact hb q (by rw [← e]; exact hq)
  · rw [e] at hq
    have : q' = q := by simpa using hq
    omega
/-- the front is cut off -/
theorem run_cut (t e : TypeId) (i : TypeInfo) (sz : Nat) (ht : Tryd.prog.underlying t = some (.slice e)) (hi : Tryd.prog.info? e = some i) (hsz : i.size = sz) (a : Option Addr) (len cap : Nat) (h1 : 1 ≤ len) (hlc : len ≤ cap) (w : World) :
    (Instr.slice t (.slice a len cap) (some (.int .i64 1)) none none).run Tryd.prog w = .ok (.slice (if cap - 1 = 0 then a else a.map (·.add (1 * sz))) (len - 1) (cap - 1)) w := by
  subst hsz
  have h2 : (1 : Int) ≤ (len : Int) := by omega
  by_cases hc : cap - 1 = 0
  · obtain rfl : cap = 1 := by omega
    simp [Instr.slice, Instr.sliceBounds, Instr.sliceBound, run_underlying ht, sizeOf, typeInfo, hi, asIntOf, h2]
  · have hc1 : ¬ cap = 1 := by omega
    simp [Instr.slice, Instr.sliceBounds, Instr.sliceBound, run_underlying ht, sizeOf, typeInfo, hi, asIntOf, h2, hc, hc1]
section
variable {N : Nat} {Nb : Nat → Nat → Prop} {s : Nat} {F T : Nat → Int} {L i : Nat} {M : Nat → Prop}
/-- who is taken out of the queue is come to by the least steps -/
theorem Bf.early (h : Bf N Nb s F T L i M) (hi : i < L) (hN : ∀ u v, u < N → Nb u v → v < N) {t : Nat} (ht : T i = (t : Int)) : DistIs Nb s t (F t) := by
  have key : ∀ k v, Rc Nb s k v → v < N ∧ ((0 ≤ F v ∧ F v ≤ (k : Int)) ∨ F t ≤ (k : Int)) := by
    intro k v hr
    induction hr with
    | start => rw [h.atS]; exact ⟨h.hs, .inl ⟨Int.le_refl _, Int.le_refl _⟩⟩
    | @step k u v _ hb ih =>
      obtain ⟨h1, h2⟩ := ih
      refine ⟨hN u v h1 hb, ?_⟩
      have e2 : ((k + 1 : Nat) : Int) = (k : Int) + 1 := by omega
      rcases h2 with ⟨h2, h3⟩ | h2
      · obtain ⟨j, hj, e⟩ := h.ofT u h1 h2
        by_cases hji : j < i
        · have := h.done j hji v (by rw [e]; simpa using hb)
          rw [e, Int.toNat_natCast] at this
          exact .inl ⟨this.1, by omega⟩
        · have := h.mono i j (by omega) hj
          rw [ht, e, Int.toNat_natCast, Int.toNat_natCast] at this
          exact .inr (by omega)
      · exact .inr (by omega)
  have h0 := (h.inT i hi).2
  rw [ht, Int.toNat_natCast] at h0
  refine .inr ⟨(F t).toNat, by omega, h.way t (by omega) h0.2, fun j hj => ?_⟩
  rcases (key j t hj).2 with h9 | h9 <;> omega
/-- nobody is left, and the end was never there -/
theorem Bf.never (h : Bf N Nb s F T L L M) (hN : ∀ u v, u < N → Nb u v → v < N) {t : Nat} (ht : t < N) (hn : ∀ j, j < L → T j ≠ (t : Int)) : DistIs Nb s t (-1) := by
  have e : F t = -1 := by
    rcases h.neg t ht with h0 | h0
    · exact h0
    · obtain ⟨j, hj, e⟩ := h.ofT t ht h0
      exact absurd e (hn j hj)
  rw [← e]; exact h.dist hN ht
end
def AnsDi (Nb : Nat → Nat → Prop) (s t : Nat) (e : Ending) : Prop := ∃ d, e = .returned (.int .i64 d) ∧ DistIs Nb s t d
end Go.Proofs.YtbndhhjgjalecaaDoor

/- Spots that are taken, as the program keeps them. -/
namespace Go.Proofs.YtbndhhjgjalecaaDoor
open Go.RowKit Go.ChangeMaps

abbrev stv (k c : Int) : Value := .agg #[.int .i64 k, .int .i64 c]
abbrev MS (w : World) (Mb cnt : Nat) (M : Int × Int → Option Int) : Prop := MI (κ := Int × Int) 105 kvP okP w Mb cnt M
/-- the map's type by its name -/
theorem kkS2 : KK (κ := Int × Int) 72 105 kvP okP := ⟨kkS.law, Tryd.underlying72, kkS.key, kkS.inj⟩
theorem okP_of {x y : Int} (hx : -1000000 ≤ x ∧ x ≤ 1000000) (hy : -1000000 ≤ y ∧ y ≤ 1000000) : okP (x, y) := ⟨WalkArith.wf_i64 (by omega), WalkArith.wf_i64 (by omega)⟩
theorem MI.lookS {w : World} {Mb cnt : Nat} {M : Int × Int → Option Int} (h : MS w Mb cnt M) {x y : Int} (hx : -1000000 ≤ x ∧ x ≤ 1000000) (hy : -1000000 ≤ y ∧ y ≤ 1000000) :
    (Instr.lookup 72 (.map (some Mb)) (stv x y) true).run Tryd.prog w = .ok (.tuple #[.int .i64 ((M (x, y)).getD 0), .bool (M (x, y)).isSome]) w := h.look kkS2 (x := (x, y)) (okP_of hx hy)
set_option maxHeartbeats 1000000 in
theorem have_spot (Mb cnt : Nat) (M : Int × Int → Option Int) (x y : Int) (w : World) (h : MS w Mb cnt M) (hx : -1000000 ≤ x ∧ x ≤ 1000000) (hy : -1000000 ≤ y ∧ y ≤ 1000000) :
    Calls Tryd.prog 84 #[.map (some Mb), stv x y] w fun e w' => e = .returned (.bool (M (x, y)).isSome) ∧ Below w.heap.size w w' := by
  have hB : Below w.heap.size w (w.alloc (.cells #[.int .i64 x, .int .i64 y] 105)) := (Below.refl _ _).alloc (Nat.le_refl _) _
  have hl := (h.on hB).lookS hx hy
  generalize (M (x, y)).getD 0 = v at hl
  generalize (M (x, y)).isSome = q at hl ⊢
  go_enter Tryd.func84, Tryd.ntmps84
  go_wp2
  go_ret
  exact ⟨rfl, hB⟩
set_option maxHeartbeats 1000000 in
theorem swap_any (Mb cnt : Nat) (R : Nat → Nat → Int) (T J k : Nat) (a b : Int) (w : World) (h : MS w Mb cnt (mR R T J)) (hk : k ≤ 2000) (ha : -1000000 ≤ a ∧ a ≤ 1000000) (hb : -1000000 ≤ b ∧ b ≤ 1000000) :
    Calls Tryd.prog 85 #[.map (some Mb), .int .i64 (k : Int), .int .i64 a, .int .i64 b] w fun e w' => e = .returned (.bool (swB R T J k a b)) ∧ w' = w := by
  have h1 := h.lookS (x := (k : Int) - 1) (y := b) (by omega) hb
  have h2 := h.lookS (x := (k : Int)) (y := a) (by omega) ha
  have hs : swB R T J k a b = ((mR R T J ((k : Int) - 1, b)).isSome && (mR R T J ((k : Int), a)).isSome && ((mR R T J ((k : Int) - 1, b)).getD 0 == (mR R T J ((k : Int), a)).getD 0)) := rfl
  rw [hs]
  clear hs
  generalize (mR R T J ((k : Int) - 1, b)).getD 0 = v1 at *
  generalize (mR R T J ((k : Int) - 1, b)).isSome = q1 at *
  generalize (mR R T J ((k : Int), a)).getD 0 = v2 at *
  generalize (mR R T J ((k : Int), a)).isSome = q2 at *
  cases q1 with
  | false =>
    simp only [Bool.false_and]
    go_enter Tryd.func85, Tryd.ntmps85
    go_wp2
    go_ret
    exact ⟨rfl, rfl⟩
  | true =>
    cases q2 with
    | false =>
      simp only [Bool.and_false, Bool.false_and]
      go_enter Tryd.func85, Tryd.ntmps85
      go_wp2
      go_ret
      exact ⟨rfl, rfl⟩
    | true =>
      simp only [Bool.and_true, Bool.true_and]
      go_enter Tryd.func85, Tryd.ntmps85
      go_wp2
      go_ret
      exact ⟨rfl, rfl⟩
theorem mT_step {R : Nat → Nat → Int} {T J : Nat} {P : Nat → Int} {q : Nat} : mT R T J P (q + 1) ((q : Int), P q) = some (J : Int) ∧ ∀ y : Int × Int, y ≠ ((q : Int), P q) → mT R T J P (q + 1) y = mT R T J P q y := by
  refine ⟨?_, fun y hy => ?_⟩
  · unfold mT; simp only [Int.toNat_natCast]; exact if_pos ⟨by omega, by omega, by first | trivial | rfl⟩
  · unfold mT
    by_cases h : 0 ≤ y.1 ∧ y.1 < (q : Int) ∧ P y.1.toNat = y.2
    · rw [if_pos h, if_pos ⟨h.1, by omega, h.2.2⟩]
    · rw [if_neg h, if_neg (fun e => ?_)]
      by_cases e2 : y.1 = (q : Int)
      · apply hy
        have e3 := e.2.2
        rw [e2, Int.toNat_natCast] at e3
        exact Prod.ext e2 e3.symm
      · exact h ⟨e.1, by omega, e.2.2⟩
theorem mT_all {R : Nat → Nat → Int} {T J : Nat} {P : Nat → Int} (x : Int × Int) : mT R T J P (T + 1) x = mR (fun i => if i = J then P else R i) T (J + 1) x := by
  have hc : ∀ J', J' ≤ J → mR (fun i => if i = J then P else R i) T J' x = mR R T J' x := by
    intro J' hJ
    induction J' with
    | zero => rfl
    | succ J' ih =>
      unfold mR
      rw [ih (by omega)]
      have e : (if J' = J then P else R J') = R J' := if_neg (by omega)
      rw [e]
  unfold mT
  rw [mR]
  simp only [if_true]
  rw [hc J (Nat.le_refl _)]
  by_cases h : 0 ≤ x.1 ∧ x.1 ≤ (T : Int) ∧ P x.1.toNat = x.2
  · rw [if_pos h, if_pos ⟨h.1, by omega, h.2.2⟩]
  · rw [if_neg h, if_neg (fun e => h ⟨e.1, by omega, e.2.2⟩)]
set_option maxRecDepth 20000 in
set_option maxHeartbeats 1000000 in
theorem take_any (Mb cnt : Nat) (R : Nat → Nat → Int) (T J : Nat) (a : Option Addr) (c : Nat) (P : Nat → Int) (w : World) (hm : MS w Mb cnt (mR R T J)) (hT : T ≤ 1000) (hJ : J ≤ 1000) (hcnt : cnt ≤ 100000) (hP : IL w a (T + 1) P) (hb : ∀ i, i ≤ T → 0 ≤ P i ∧ P i ≤ 1000000) (ha : ∀ b o, a = some ⟨b, o, none⟩ → b ≠ Mb) :
    Calls Tryd.prog 38 #[.map (some Mb), .slice a (T + 1) c, .int .i64 (J : Int)] w fun e w' => e = .returned (.tuple #[]) ∧ MS w' Mb (cnt + T + 1) (mR (fun i => if i = J then P else R i) T (J + 1)) ∧ Turns Mb (Mb + 1) w w' := by
  obtain ⟨pb, po, rfl, hpb, hpc⟩ := hP (by omega)
  have hne := ha pb po rfl
  have HPC : Hid (∀ i, i < T + 1 → w.cell? ⟨pb, po + i, none⟩ = some (.int .i64 (P i))) := hpc
  have HB : Hid (∀ i, i ≤ T → 0 ≤ P i ∧ P i ≤ 1000000) := hb
  have HM0 : Hid (MS w Mb (cnt + 0) (mT R T J P 0)) := MI.congr hm (fun x _ => by unfold mT; rw [if_neg (fun e => by omega)])
  have HR : Hid (∀ x, mT R T J P (T + 1) x = mR (fun i => if i = J then P else R i) T (J + 1) x) := fun x => mT_all x
  clear hpc hb hm ha
  go_enter Tryd.func38, Tryd.ntmps38
  go_wp2
  go_loopw [10] (fun i wr => ∃ q : Nat, q ≤ T + 1 ∧ i = .int .i64 (q : Int) ∧ MS wr Mb (cnt + q) (mT R T J P q) ∧ Turns Mb (Mb + 1) w wr) (fun i _ => T + 1 - (intOf i).toNat)
  case atStart => exact ⟨0, Nat.zero_le _, rfl, HM0.out, OnlyIn.turns (OnlyIn.refl _ _ _)⟩
  case round =>
    obtain ⟨q, hq, rfl, hM, hTn⟩ := hrel
    clear HM0
    by_cases hlt : q < T + 1
    · have x0 : wr.cell? ⟨pb, po + q, none⟩ = some (.int .i64 (P q)) := (cell_same (hTn.block pb hpb (by omega)) _).trans (HPC.out q hlt)
      obtain ⟨b0, b1⟩ := HB.out q (by omega)
      obtain ⟨w3, hrun, hM3, ht3⟩ := hM.store kkS2 (by omega) (x := ((q : Int), P q)) (okP_of ⟨by omega, by omega⟩ ⟨by omega, by omega⟩) (v := (J : Int)) (WalkArith.wf_i64 (by omega)) (M' := mT R T J P (q + 1)) mT_step.1 mT_step.2
      have hrun : (Instr.mapUpdate 72 (.map (some Mb)) (stv (q : Int) (P q)) (.int .i64 (J : Int))).run Tryd.prog wr = .ok () w3 := hrun
      have j0 : (0 : Int) ≤ (q : Int) := by omega
      have j1 : (q : Int) < ((T + 1 : Nat) : Int) := by omega
      have hT3 := hTn.trans (turned_turns ht3)
      have HM3 : Hid (MS w3 Mb (cnt + q + 1) (mT R T J P (q + 1))) := hM3
      clear hM hM3 ht3 hTn b0 b1
      generalize P q = X at *
      go_wp2
      exact ⟨⟨q + 1, by omega, by go_num, HM3.out, hT3⟩, by simp [intOf]; omega⟩
    · have hqe : q = T + 1 := by omega
      subst hqe
      have HM3 : Hid (MS wr Mb (cnt + T + 1) (mR (fun i => if i = J then P else R i) T (J + 1))) := MI.congr hM (fun x _ => HR.out x)
      clear hM HR
      go_wp2
      first | go_end0 | refine bodyPost_ret (results_none rfl _ _ _) rfl ?_
      exact ⟨rfl, HM3.out, hTn⟩
/-- an outlook as a value, and its cells -/
abbrev olL (W H : Int) (a : Option Addr) (n c Mb : Nat) (t : Int) (Db L : Nat) : List Value := [.int .i64 W, .int .i64 H, .slice a n c, .map (some Mb), .int .i64 t, .slice (some ⟨Db, 0, none⟩) L L]
abbrev olv (W H : Int) (a : Option Addr) (n c Mb : Nat) (t : Int) (Db L : Nat) : Value := .agg #[.int .i64 W, .int .i64 H, .slice a n c, .map (some Mb), .int .i64 t, .slice (some ⟨Db, 0, none⟩) L L]
theorem Bx.c3 {w : World} {b : Nat} {t u v x : Value} {l : List Value} (h : Bx w b (t :: u :: v :: x :: l)) : w.cell? ⟨b, 3, none⟩ = some x := h.c 3 (by simp)
theorem Bx.c4 {w : World} {b : Nat} {t u v x y : Value} {l : List Value} (h : Bx w b (t :: u :: v :: x :: y :: l)) : w.cell? ⟨b, 4, none⟩ = some y := h.c 4 (by simp)
theorem Bx.c5 {w : World} {b : Nat} {t u v x y z : Value} {l : List Value} (h : Bx w b (t :: u :: v :: x :: y :: z :: l)) : w.cell? ⟨b, 5, none⟩ = some z := h.c 5 (by simp)
set_option maxHeartbeats 1000000 in
theorem never_any (W H : Int) (a : Option Addr) (n c Mb : Nat) (t : Int) (Db T : Nat) (w : World) (hT : T ≤ 1000) :
    Calls Tryd.prog 65 #[olv W H a n c Mb t Db (T + 2)] w fun e w' => e = .returned (.int .i64 ((T : Int) + 1)) ∧ Below w.heap.size w w' := by
  have hB : Below w.heap.size w (w.alloc (.cells (olL W H a n c Mb t Db (T + 2)).toArray 75)) := (Below.refl _ _).alloc (Nat.le_refl _) _
  have b := bx_new (w := w) (olL W H a n c Mb t Db (T + 2)) 75 rfl
  have x5 := b.c5
  have HE : Hid (((T + 2 : Nat) : Int) - 1 = (T : Int) + 1) := by show ((T + 2 : Nat) : Int) - 1 = (T : Int) + 1; omega
  have i1 : -9223372036854775808 ≤ ((T + 2 : Nat) : Int) - 1 := by omega
  have i2 : ((T + 2 : Nat) : Int) - 1 ≤ 9223372036854775807 := by omega
  generalize hL : T + 2 = L at *
  clear hL b
  go_enter Tryd.func65, Tryd.ntmps65
  go_wp2
  go_ret
  exact ⟨ret_int HE.out, hB⟩
end Go.Proofs.YtbndhhjgjalecaaDoor
