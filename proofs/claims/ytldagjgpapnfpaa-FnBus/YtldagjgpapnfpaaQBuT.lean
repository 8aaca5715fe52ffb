/- The talkers behind the rounds: what the speakers are now. -/
import Derived.Test.YtldagjgpapnfpaaQBuW
import Derived.Test.YtldagjgpapnfpaaQBuG
namespace Go.Proofs.Ytldagjgpapnfpaa
open Go.RowKit
theorem infoTk : (Try.prog.info? 51).map (fun i => (i.zero, i.size, i.bytes)) = some (some (tkv none 0 0 0 0 false), 4, 48) := by kernel_rfl
theorem run_make0_tk (n : Nat) (hn : n ≤ 1048576) (w : World) :
    (Instr.makeSlice 23 (.int .i64 0) (.int .i64 (n : Int))).run Try.prog w = .ok (.slice (some ⟨w.heap.size, 0, none⟩) 0 n) (w.alloc (.cells (madeCells #[.slice none 0 0, .int .i64 0, .int .i64 0, .bool false] (n * 4)) 51)) := by
  obtain ⟨i, hi, hzz⟩ := Option.map_eq_some_iff.1 infoTk
  simp only [Prod.mk.injEq] at hzz
  obtain ⟨hz, hs, hb⟩ := hzz
  have hr := run_make (P := Try.prog) w 23 51 i _ Try.underlying23 hi hz .i64 .i64 (0 : Int) (n : Int) (by omega) (by omega) (by rw [hb]; omega) (by omega)
  simp only [Int.toNat_natCast, hs] at hr
  exact hr
/-- talkers as cells -/
def tkC (t : Tks) (QA : Nat → Option Addr) (QC : Nat → Nat) : Nat → List Value
  | 0 => []
  | k + 1 => tkC t QA QC k ++ [.slice (QA k) (t.qm k) (QC k), .int .i64 (t.sh k), .int .i64 (t.er k), .bool (t.of k)]
section
variable {t : Tks} {QA QA' : Nat → Option Addr} {QC QC' : Nat → Nat}
theorem tkC_len (k : Nat) : (tkC t QA QC k).length = k * 4 := by
  induction k with
  | zero => rfl
  | succ k ih => rw [tkC, List.length_append, ih]; simp; omega
theorem tkC_congr {k : Nat} (h1 : ∀ i, i < k → QA i = QA' i) (h2 : ∀ i, i < k → QC i = QC' i) : tkC t QA QC k = tkC t QA' QC' k := by
  induction k with
  | zero => rfl
  | succ k ih => rw [tkC, tkC, ih (fun i hi => h1 i (by omega)) (fun i hi => h2 i (by omega)), h1 k (by omega), h2 k (by omega)]
theorem tkC_get {k j : Nat} (h : j < k) : (tkC t QA QC k)[j * 4]? = some (.slice (QA j) (t.qm j) (QC j)) ∧ (tkC t QA QC k)[j * 4 + 1]? = some (.int .i64 (t.sh j)) ∧ (tkC t QA QC k)[j * 4 + 2]? = some (.int .i64 (t.er j)) ∧ (tkC t QA QC k)[j * 4 + 3]? = some (.bool (t.of j)) := by
  induction k with
  | zero => omega
  | succ k ih =>
    have hl := tkC_len (t := t) (QA := QA) (QC := QC) k
    rw [tkC]
    by_cases e : j = k
    · subst e
      rw [List.getElem?_append_right (by omega), List.getElem?_append_right (by omega), List.getElem?_append_right (by omega), List.getElem?_append_right (by omega), hl]
      simp [show j * 4 + 1 - j * 4 = 1 by omega, show j * 4 + 2 - j * 4 = 2 by omega, show j * 4 + 3 - j * 4 = 3 by omega]
    · rw [List.getElem?_append_left (by omega), List.getElem?_append_left (by omega), List.getElem?_append_left (by omega), List.getElem?_append_left (by omega)]
      exact ih (by omega)
end
/-- the first k talkers, so far -/
structure CtP (g : Nat) (wr : World) (n k : Nat) (t : Tks) (S : Nat → Nat → Nat → Int) (QA : Nat → Option Addr) (QC D : Nat → Nat) : Prop where
  own : wr.ownsRow g 51 4 (.slice (some ⟨g, 0, none⟩) k n) k (tkC t QA QC k)
  d0 : D 0 = g + 1
  mon : ∀ j, j < k → D j ≤ D (j + 1)
  dk : D k ≤ wr.heap.size
  f : ∀ i, i < k → FrQ wr (D i) (D (i + 1)) (QA i) (t.qm i) (t.I i) (t.N i) (S i)
  s : ∀ i, i < k → Shp (QA i) (t.qm i) (QC i)
section
variable {g : Nat} {w w' : World} {n k : Nat} {t : Tks} {S : Nat → Nat → Nat → Int} {QA : Nat → Option Addr} {QC D : Nat → Nat}
theorem CtP.on (h : CtP g w n k t S QA QC D) (b : Below w.heap.size w w') : CtP g w' n k t S QA QC D :=
  ⟨owns_on h.own b, h.d0, h.mon, Nat.le_trans h.dk b.size, fun j hj => (h.f j hj).on b, h.s⟩
theorem CtP.glt (h : CtP g w n k t S QA QC D) : g < w.heap.size := (World.ownsRow.lt h.own g rfl).2
theorem CtP.dj (h : CtP g w n k t S QA QC D) {j : Nat} (hj : j ≤ k) : g < D j ∧ D j ≤ w.heap.size := by
  have h1 := mono_le h.mon j (Nat.zero_le _) hj
  have h2 := mono_le h.mon k hj (Nat.le_refl _)
  have := h.d0
  have := h.dk
  omega
theorem CtP.end (h : CtP g w n k t S QA QC D) : TkP w g w.heap.size g k t S QA QC D :=
  ⟨Nat.le_refl _, by have := h.d0; omega, h.dk, h.mon, h.glt, fun j hj => by
    have hl := tkC_len (t := t) (QA := QA) (QC := QC) k
    have hc := tkC_get (t := t) (QA := QA) (QC := QC) hj
    exact ⟨(World.ownsRow.cellAt h.own _ (by omega)).trans hc.1, (World.ownsRow.cellAt h.own _ (by omega)).trans hc.2.1, (World.ownsRow.cellAt h.own _ (by omega)).trans hc.2.2.1, (World.ownsRow.cellAt h.own _ (by omega)).trans hc.2.2.2⟩, fun i => World.ownsRow.frozenAt h.own i, h.f, h.s⟩
theorem CtP.app {w5 w6 : World} {o : Obj} {a' : Option Addr} {c' : Nat} (h : CtP g w n k t S QA QC D) (b5 : Below w.heap.size w w5) (hy : FrQ w5 w.heap.size w5.heap.size a' (t.qm k) (t.I k) (t.N k) (S k)) (hs : Shp a' (t.qm k) c')
    (ho : w6.ownsRow g 51 4 (.slice (some ⟨g, 0, none⟩) (k + 1) n) (k + 1) (tkC t QA QC k ++ [.slice a' (t.qm k) c', .int .i64 (t.sh k), .int .i64 (t.er k), .bool (t.of k)])) (hg : (w5.alloc o).grownBy w6 (some g)) :
    CtP g w6 n (k + 1) t S (fun i => if i = k then a' else QA i) (fun i => if i = k then c' else QC i) (fun i => if i = k + 1 then w5.heap.size else D i) := by
  have hgl := h.glt
  have h5 := h.on b5
  have kept : ∀ {lo' hi' : Nat} {a : Option Addr} {m : Nat} {I : Nat → Int} {N : Nat → Nat} {S : Nat → Nat → Int}, g < lo' → FrQ w5 lo' hi' a m I N S → FrQ w6 lo' hi' a m I N S := fun hlo' hq =>
    (hq.on ((Below.refl _ _).alloc (Nat.le_refl _) o)).of hg.size fun x hx h1 _ => hg.block x hx (fun e => by have := Option.some.inj e; omega)
  refine ⟨?_, by simp only [Ne.symm (Nat.succ_ne_zero k), if_false]; exact h.d0, fun j hj => ?_, ?_, fun j hj => ?_, fun j hj => ?_⟩
  · rw [tkC, if_pos rfl, if_pos rfl, ← tkC_congr (QA := QA) (QC := QC) (fun i hi => by rw [if_neg (by omega)]) (fun i hi => by rw [if_neg (by omega)])]
    exact ho
  · rw [if_neg (by omega)]
    by_cases e : j = k
    · subst e; rw [if_pos rfl]; exact h5.dk
    · rw [if_neg (by omega)]; exact h.mon j (by omega)
  · rw [if_pos rfl]
    have := hg.size
    simp at this
    omega
  · by_cases e : j = k
    · subst e
      rw [if_neg (by omega), if_pos rfl, if_pos rfl]
      have hd := (h.dj (Nat.le_refl _))
      exact kept hd.1 (hy.wide hd.2 (Nat.le_refl _))
    · rw [if_neg (by omega), if_neg (by omega), if_neg e]
      exact kept (h5.dj (Nat.le_of_lt (show j < k by omega))).1 (h5.f j (by omega))
  · by_cases e : j = k
    · subst e; rw [if_pos rfl, if_pos rfl]; exact hs
    · rw [if_neg e, if_neg e]; exact h.s j (by omega)
end
/-- talkers behind some rounds -/
def nwT (t : Tks) (LF : Nat → Nat) (EC : Nat → Int) : Tks := { t with qm := fun i => t.qm i - LF i, er := EC, of := fun i => EC i == 255, I := fun i j => t.I i (LF i + j), N := fun i j => t.N i (LF i + j) }
def nwS (S : Nat → Nat → Nat → Int) (LF : Nat → Nat) (i j : Nat) : Nat → Int := S i (LF i + j)
def AnsTk (w w' : World) (v : Value) (n : Nat) (t : Tks) (S : Nat → Nat → Nat → Int) : Prop := ∃ (a : Option Addr) (c : Nat), v = .slice a n c ∧ TkQ w' w.heap.size w'.heap.size a n t S ∧ Shp a n c
set_option maxRecDepth 20000 in
set_option maxHeartbeats 4000000 in
theorem talkers_any (base : Nat) (x : Option Addr) (n c : Nat) (Pt : Nat → Nat) (t : Tks) (LF : Nat → Nat) (SE EC : Nat → Int) (S : Nat → Nat → Nat → Int) (a : Option Addr) (w : World) (hn : n ≤ 6) (h : Bus base w (.slice x n c) n Pt t LF SE EC) (hT : TkF w a n t S) (hq : ∀ i, i < n → t.qm i ≤ 8) (hL : ∀ i, i < n → LF i ≤ t.qm i) (hN : ∀ i, i < n → ∀ j, j < t.qm i → t.N i j ≤ 1048576) :
    Calls Try.prog 32 #[.slice x n c] w fun e w' => ∃ v, e = .returned v ∧ AnsTk w w' v n (nwT t LF EC) (nwS S LF) ∧ Below w.heap.size w w' := by
  obtain ⟨i0, hi, hzz⟩ := Option.map_eq_some_iff.1 infoTk
  simp only [Prod.mk.injEq] at hzz
  obtain ⟨hz0, hz1, hz2⟩ := hzz
  have hmk := run_make0_tk n (by omega)
  have HB : Hid (Bus base w (.slice x n c) n Pt t LF SE EC) := h
  have HT : Hid (TkF w a n t S) := hT
  have HQ : Hid (∀ i, i < n → t.qm i ≤ 8) := hq
  have HL : Hid (∀ i, i < n → LF i ≤ t.qm i) := hL
  have HN : Hid (∀ i, i < n → ∀ j, j < t.qm i → t.N i j ≤ 1048576) := hN
  have hb0 : Below w.heap.size w (w.alloc (.cells (madeCells #[.slice none 0 0, .int .i64 0, .int .i64 0, .bool false] (n * 4)) 51)) := (Below.refl _ _).alloc (Nat.le_refl _) _
  have HS0 : Hid (CtP w.heap.size (w.alloc (.cells (madeCells #[.slice none 0 0, .int .i64 0, .int .i64 0, .bool false] (n * 4)) 51)) n 0 (nwT t LF EC) (nwS S LF) (fun _ => none) (fun _ => 0) (fun _ => w.heap.size + 1)) :=
    ⟨World.ownsRow_made w _ n (Nat.le_refl _) (by unfold maxLen; omega) (size_madeCells _ _), rfl, fun j hj => absurd hj (Nat.not_lt_zero _), by simp, fun j hj => absurd hj (Nat.not_lt_zero _), fun j hj => absurd hj (Nat.not_lt_zero _)⟩
  clear h hT hq hL hN
  go_enter Try.func32, Try.ntmps32
  go_wp2
  clear hmk
  go_loopw [3, 11] (fun v i wr => ∃ (k : Nat), k ≤ n ∧ i = .int .i64 (k : Int) ∧ v = .slice (some ⟨w.heap.size, 0, none⟩) k n ∧ Hid (∃ QA QC D, CtP w.heap.size wr n k (nwT t LF EC) (nwS S LF) QA QC D) ∧ Below w.heap.size w wr) (fun _ i _ => n - (intOf i).toNat)
  case atStart => exact ⟨0, Nat.zero_le _, rfl, rfl, ⟨_, _, _, HS0.out⟩, hb0⟩
  case round =>
    obtain ⟨k, hk, rfl, rfl, HS, hB⟩ := hrel
    clear HS0 hb0
    by_cases hlt : k < n
    · have hbus := HB.out.on hB
      obtain ⟨gq, c9, e9, hgl, hgc⟩ := hbus.at hlt
      cases e9
      have j0 : (0 : Int) ≤ (k : Int) := by omega
      have j1 : (k : Int) < (n : Int) := by omega
      obtain ⟨A1, C1, D1, hCf⟩ := HS.out
      have HC : Hid (CtP w.heap.size wr n k (nwT t LF EC) (nwS S LF) A1 C1 D1) := hCf
      have hTk := HT.out.below hB
      have kN := now_any (Pt k) (t.qa k) (t.qm k) (t.qc k) (t.sh k) (t.er k) (t.of k) (LF k) (SE k) (EC k) (t.I k) (t.A k) (t.N k) (t.C k) (S k) wr (by have := HQ.out k hlt; omega) (HL.out k hlt) (HN.out k hlt) (hbus.sp k hlt) (hTk.fr hlt) (hTk.q k hlt)
      clear HS hCf hTk hbus
      obtain ⟨X, hX⟩ : ∃ X, X = t.qm k - LF k := ⟨_, rfl⟩
      rw [← hX] at kN
      have HX : Hid (X = (nwT t LF EC).qm k) := hX
      clear hX
      obtain ⟨Y, hY⟩ : ∃ Y, Y = t.sh k := ⟨_, rfl⟩
      rw [← hY] at kN
      have HY : Hid (Y = (nwT t LF EC).sh k) := hY
      clear hY
      obtain ⟨Z, hZ⟩ : ∃ Z, Z = EC k := ⟨_, rfl⟩
      rw [← hZ] at kN
      have HZ : Hid (Z = (nwT t LF EC).er k) := hZ
      have HZ2 : Hid ((Z == 255) = (nwT t LF EC).of k) := by show (Z == 255) = (EC k == 255); rw [hZ]
      clear hZ
      go_wp2_with fail
      refine kN.mono ?_
      rintro e w5 ⟨a', c', rfl, hq5, hs5, hb5⟩
      clear kN
      have hC5 := HC.out.on hb5
      have hgsz := hC5.glt
      have HB5 : Hid (Below wr.heap.size wr w5) := hb5
      clear hb5
      go_wp2_with (at_builtin; go_loud (refine wpList_append_fits (P := Try.prog) _ rfl _ _ 23 rfl w.heap.size 51 i0 4 Try.underlying23 hi hz1 w.heap.size k n (tkC (nwT t LF EC) A1 C1 k) rfl (World.ownsRow.alloc hC5.own _) ⟨w5.heap.size, 0, none⟩ 1 1 [.slice a' X c', .int .i64 Y, .int .i64 Z, .bool (Z == 255)] rfl rfl (four_new _ _ _ _ _ _) (fun u hu => by simp at hu; rcases hu with rfl | rfl | rfl | rfl <;> rfl) (by omega) ?_); intro w6 hown6 hgr6)
      have hC6 := HC.out.app HB5.out (by rw [← HX.out]; exact hq5) (by rw [← HX.out]; exact hs5) (by rw [← HX.out, ← HY.out, ← HZ.out, ← HZ2.out]; exact hown6) hgr6
      have hB6 : Below w.heap.size w w6 := (stepA hB HB5.out).trans ((((Below.refl w5.heap.size w5).alloc (Nat.le_refl _) (tkO a' X c' Y Z (Z == 255) 51)).mono (Nat.le_of_lt hgsz)).grown hgr6 (by simp; omega) (fun q hq => by cases hq; exact Nat.le_refl _))
      exact ⟨⟨k + 1, by omega, by go_num, rfl, ⟨_, _, _, hC6⟩, hB6⟩, by simp [intOf]; omega⟩
    · have hke : k = n := by omega
      subst hke
      obtain ⟨A1, C1, D1, hCf⟩ := HS.out
      have HC : Hid (CtP w.heap.size wr k k (nwT t LF EC) (nwS S LF) A1 C1 D1) := hCf
      clear hCf HS
      go_wp2
      go_ret
      exact ⟨_, rfl, ⟨_, _, rfl, fun _ => ⟨_, _, _, _, rfl, HC.out.end⟩, shp_at _ _ (Nat.le_refl _)⟩, hB⟩
end Go.Proofs.Ytldagjgpapnfpaa
