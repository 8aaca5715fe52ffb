/- slices.Clone and slices.Insert of bookings (tools/gen_bln.py). -/
import Derived.Test.YtdpblholoogikaaBlM
import Derived.Test.YtdpblholoogikaaBkOw
import Derived.Test.YtdpblholoogikaaFkFour
import Derived.Shelf.Spec.SlicesInsert
import Derived.Lib.AppendZerosOnto
import Derived.Lib.Overlaps
import Derived.Laws.IdiomCopy
import Derived.Laws.Cover3
import Derived.Deep.RegionLaw
import Derived.Deep.Cut
namespace Go.Proofs.Ytdpblholoogikaa
open Go.RowKit
theorem sc_heap (b : Nat) : ∀ (vs : List Value) (o : Nat) (w : World) (k : Nat), k ≠ b → (w.setCells b o vs).heap[k]? = w.heap[k]? ∧ (w.setCells b o vs).heap.size = w.heap.size
  | [], o, w, k, _ => ⟨rfl, rfl⟩
  | x :: vs, o, w, k, hk => by
    have ih := sc_heap b vs (o + 1) (w.setCell ⟨b, o, none⟩ x) k hk
    simp only [World.setCells]
    refine ⟨ih.1.trans ?_, ih.2.trans (by simp)⟩
    exact ((Only.refl b w).set o x).block k hk
theorem sc_env (b : Nat) : ∀ (vs : List Value) (o : Nat) (w : World), (w.setCells b o vs).os = w.os ∧ (w.setCells b o vs).tape = w.tape ∧ (w.setCells b o vs).output = w.output
  | [], o, w => ⟨rfl, rfl, rfl⟩
  | x :: vs, o, w => by
    have ih := sc_env b vs (o + 1) (w.setCell ⟨b, o, none⟩ x)
    simp only [World.setCells]
    exact ih
theorem sc_grown (b o : Nat) (vs : List Value) (w : World) : w.grownBy (w.setCells b o vs) (some b) :=
  ⟨(sc_env b vs o w).1, (sc_env b vs o w).2.1, (sc_env b vs o w).2.2, Nat.le_of_eq (sc_heap b vs o w (b + 1) (by omega)).2.symm, fun k _ hk => (sc_heap b vs o w k (fun e => hk (by rw [e]))).1⟩

/-- a row of bookings of a call's own, by a function -/
def OwF (w : World) (base : Nat) (v : Value) (m : Nat) (F : Nat → Int) : Prop := w.ownsRow base 25 4 v m (vL F (m * 4))
theorem run_copy_sz {P : Program} (w : World) (dT sT ty elem : TypeId) (b o dLen dCap : Nat) (a : Addr) (sLen sCap sz : Nat) (cs : List Value)
    (hu : P.underlying dT = some (.slice elem)) (hs : (P.info? elem).map (·.size) = some sz) (hn : Nat.min sLen dLen * sz = cs.length)
    (hsrc : ∀ j v, cs[j]? = some v → w.cell? (a.add j) = some v) (hc : ∀ j, j < cs.length → (w.cell? ⟨b, o + j, none⟩).isSome = true) (hf : ∀ j, j < cs.length → w.frozen? ⟨b, o + j, none⟩ = false) (h1 : ∀ v ∈ cs, v.oneCell' = true) :
    (Builtin.copy_ #[dT, sT] ty #[.slice (some ⟨b, o, none⟩) dLen dCap, .slice (some a) sLen sCap]).run P w = .ok (goInt (Nat.min sLen dLen)) (w.setCells b o cs) := by
  have hl := run_loadCells_list (P := P) w a cs hsrc
  have hst := run_storeCells_cells (P := P) b o cs 0 w (by simpa using hc) (by simpa using hf) h1
  cases hq : P.info? elem with
  | none => simp [hq] at hs
  | some i =>
    have hi : i.size = sz := by simpa [hq] using hs
    simp [Builtin.copy_, run_underlying hu, Builtin.lenOf, Builtin.firstCells, sizeOf, typeInfo, hq, hi, hn, hl, hst]
theorem vL_one (F : Nat → Int) (k : Nat) : ∀ v ∈ vL F k, v.oneCell' = true := fun v hv => by
  unfold vL at hv
  obtain ⟨i, _, rfl⟩ := List.mem_map.1 hv
  rfl
theorem vL_at {F : Nat → Int} {k j : Nat} {u : Value} (h : (vL F k)[j]? = some u) : j < k ∧ u = .int .i64 (F j) := by
  have hj : j < k := by
    have := (List.getElem?_eq_some_iff.1 h).1
    rw [vL_len] at this; exact this
  rw [vL_get hj] at h
  exact ⟨hj, by injection h with h; exact h.symm⟩
theorem bk_add (b off j : Nat) : (⟨b, off, none⟩ : Addr).add j = ⟨b, off + j, none⟩ := by
  unfold Addr.add
  cases j <;> simp
def AnsCl (w w' : World) (e : Ending) (n : Nat) (F : Nat → Int) : Prop := ∃ g cc, e = .returned (.slice (some ⟨g, 0, none⟩) n cc) ∧ OwF w' w.heap.size (.slice (some ⟨g, 0, none⟩) n cc) n F
theorem infoBkB : ∃ i, Try.prog.info? 25 = some i ∧ i.zero = some (bkv 0 0 0 0) ∧ i.size = 4 ∧ i.bytes = 32 := infoBkd
set_option maxHeartbeats 4000000 in
set_option maxRecDepth 20000 in
theorem cloneBk (b o n c : Nat) (F : Nat → Int) (w : World) (hn : n ≤ 1000) (hA : IL w (some ⟨b, o, none⟩) (n * 4) F) :
    Calls Try.prog 21 #[.slice (some ⟨b, o, none⟩) n c] w fun e w' => AnsCl w w' e n F ∧ Below w.heap.size w w' := by
  obtain ⟨ib, hib, hz0, hz1, hz2⟩ := infoBkB
  have h0 : (w.alloc (.cells #[] 25)).ownsRow w.heap.size 25 4 (.slice (some ⟨w.heap.size, 0, none⟩) 0 0) 0 [] :=
    ⟨rfl, .inr ⟨w.heap.size, 0, #[], rfl, Nat.le_refl _, (by show (w.heap.push _)[w.heap.size]? = _; simp), Nat.le_refl _, Nat.zero_le _, rfl, rfl⟩⟩
  have hb0 : Below w.heap.size w (w.alloc (.cells #[] 25)) := (Below.refl _ _).alloc (Nat.le_refl _) _
  have hsrc : ∀ j u, (vL F (n * 4))[j]? = some u → (w.alloc (.cells #[] 25)).cell? ((⟨b, o, none⟩ : Addr).add j) = some u := fun j u hj => by
    obtain ⟨hjk, rfl⟩ := vL_at hj
    obtain ⟨b2, o2, e, hb, hc⟩ := hA (by omega)
    injection e with e1
    injection e1 with e2 e3
    subst e2; subst e3
    rw [bk_add]
    exact (hb0.cell (p := ⟨b, o + j, none⟩) hb).trans (hc j hjk)
  clear hA
  have hnil : ∀ w, (binOp .eql 23 (.slice (some ⟨b, o, none⟩) n c) (.slice none 0 0)).run Try.prog w = .ok (.bool false) w := fun w => by
    have := run_equal_slice_nil w 23 25 (some ⟨b, o, none⟩) n c Try.underlying23
    simp [binOp, this]
  go_enter Try.func21, Try.ntmps21
  go_wp2_with (at_builtin; refine wpList_append_own _ rfl _ _ 23 rfl w.heap.size 25 ib (bkv 0 0 0 0) 4 32 Try.underlying23 hib hz0 hz1 hz2 rfl (by decide) _ _ _ rfl h0 ⟨b, o, none⟩ n _ (vL F (n * 4)) rfl (vL_len _ _) hsrc (vL_one _ _) (by unfold maxLen; omega) (by omega) (by simp) ?_; intro vN w6 hown6 hgrow6 hnil6)
  have hB6 : Below w.heap.size w w6 := hb0.grown hgrow6 (by simp) (fun q hq => by have hq2 : some w.heap.size = some q := hq; injection hq2 with e9; omega)
  rw [List.nil_append, Nat.zero_add] at hown6
  have hsome : ∃ g cc, vN = .slice (some ⟨g, 0, none⟩) n cc := by
    obtain ⟨_, ⟨h1, h2⟩ | ⟨g, cap, cur, h1, _⟩⟩ := hown6
    · have := (hnil6.1 h1).1; cases this
    · exact ⟨g, cap, h1⟩
  obtain ⟨g, cc, rfl⟩ := hsome
  have HO : Hid (OwF w6 w.heap.size (.slice (some ⟨g, 0, none⟩) n cc) n F) := hown6
  clear hown6 hgrow6 hnil6
  go_wp2
  go_ret
  exact ⟨⟨g, cc, rfl, HO.out⟩, hB6⟩

def AnsIn (w w' : World) (e : Ending) (base m : Nat) (G : Nat → Int) : Prop := ∃ g c, e = .returned (.slice (some ⟨g, 0, none⟩) m c) ∧ base ≤ g ∧ m ≤ c ∧ IP w' g (m * 4) G ∧ Below base w w'
theorem four_len (a f t u : Int) : ([.int .i64 a, .int .i64 f, .int .i64 t, .int .i64 u] : List Value).length = 4 := rfl
theorem ins_end (F : Nat → Int) (n : Nat) (a f t u : Int) : vL F (n * 4) ++ [.int .i64 a, .int .i64 f, .int .i64 t, .int .i64 u] = vL (insF F n a f t u) ((n + 1) * 4) := by
  have e0 : vL F (n * 4) = vL (insF F n a f t u) (n * 4) := List.map_congr_left fun i hi => by rw [insF_lo _ _ _ _ _ _ (List.mem_range.1 hi)]
  rw [e0, show (n + 1) * 4 = n * 4 + 1 + 1 + 1 + 1 by omega, vL_succ, vL_succ, vL_succ, vL_succ]
  have v0 : insF F n a f t u (n * 4) = a := by unfold insF; rw [if_neg (by omega), if_pos rfl]
  have v1 : insF F n a f t u (n * 4 + 1) = f := by unfold insF; rw [if_neg (by omega), if_neg (by omega), if_pos rfl]
  have v2 : insF F n a f t u (n * 4 + 1 + 1) = t := by unfold insF; rw [if_neg (by omega), if_neg (by omega), if_neg (by omega), if_pos (by omega)]
  have v3 : insF F n a f t u (n * 4 + 1 + 1 + 1) = u := by unfold insF; rw [if_neg (by omega), if_neg (by omega), if_neg (by omega), if_neg (by omega), if_pos (by omega)]
  rw [v0, v1, v2, v3]
  simp
/-- a list of cells, element by element, as bookings -/
def dropL (F : Nat → Int) (k n : Nat) : List Value := vL (fun i => F (k * 4 + i)) ((n - k) * 4)
/-- what is read of a block into which both have been laid -/
theorem ins_read {w : World} {N n k : Nat} {F : Nat → Int} {a f t u : Int} (hk : k ≤ n) (hlo : ∀ j, j < k * 4 → w.cell? ⟨N, j, none⟩ = some (.int .i64 (F j))) (hsp : ∀ j, j < (n + 1) * 4 → (w.cell? ⟨N, j, none⟩).isSome = true) :
    (∀ j, j < (n + 1) * 4 → ((w.setCells N (k * 4) [.int .i64 a, .int .i64 f, .int .i64 t, .int .i64 u]).setCells N (k * 4 + 4) (dropL F k n)).cell? ⟨N, j, none⟩ = some (.int .i64 (insF F k a f t u j))) ∧
    (∀ j, j < (n + 1) * 4 → ((w.setCells N (k * 4 + 4) (dropL F k n)).setCells N (k * 4) [.int .i64 a, .int .i64 f, .int .i64 t, .int .i64 u]).cell? ⟨N, j, none⟩ = some (.int .i64 (insF F k a f t u j))) := by
  have hdl : (dropL F k n).length = (n - k) * 4 := vL_len _ _
  have hsp1 : ∀ (o : Nat) (vs : List Value) (w : World), (∀ j, j < (n + 1) * 4 → (w.cell? ⟨N, j, none⟩).isSome = true) → o + vs.length ≤ (n + 1) * 4 → ∀ j, j < (n + 1) * 4 → ((w.setCells N o vs).cell? ⟨N, j, none⟩).isSome = true := fun o vs w h h1 j hj =>
    Go.Proofs.isSome_setCells N vs o w (fun i hi => h _ (by omega)) j (h j hj)
  have four_at : ∀ (w : World), (∀ j, j < (n + 1) * 4 → (w.cell? ⟨N, j, none⟩).isSome = true) → ∀ j, k * 4 ≤ j → j < k * 4 + 4 → (w.setCells N (k * 4) [.int .i64 a, .int .i64 f, .int .i64 t, .int .i64 u]).cell? ⟨N, j, none⟩ = some (.int .i64 (insF F k a f t u j)) := fun w h j h1 h2 => by
    have hh := World.cell?_setCells_in N [.int .i64 a, .int .i64 f, .int .i64 t, .int .i64 u] (k * 4) w (fun i hi => h _ (by have : i < 4 := hi; omega)) (j - k * 4) (by show j - k * 4 < 4; omega)
    rw [show k * 4 + (j - k * 4) = j by omega] at hh
    rw [hh]
    have : j = k * 4 ∨ j = k * 4 + 1 ∨ j = k * 4 + 2 ∨ j = k * 4 + 3 := by omega
    rcases this with rfl | rfl | rfl | rfl
    · simp [insF]
    · simp [insF]; intro h9; omega
    · simp [insF]; intro h9; omega
    · simp [insF]; intro h9; omega
  have drop_at : ∀ (w : World), (∀ j, j < (n + 1) * 4 → (w.cell? ⟨N, j, none⟩).isSome = true) → ∀ j, k * 4 + 4 ≤ j → j < (n + 1) * 4 → (w.setCells N (k * 4 + 4) (dropL F k n)).cell? ⟨N, j, none⟩ = some (.int .i64 (insF F k a f t u j)) := fun w h j h1 h2 => by
    have hh := World.cell?_setCells_in N (dropL F k n) (k * 4 + 4) w (fun i hi => h _ (by rw [hdl] at hi; omega)) (j - (k * 4 + 4)) (by rw [hdl]; omega)
    rw [show k * 4 + 4 + (j - (k * 4 + 4)) = j by omega] at hh
    rw [hh]
    have e1 : (dropL F k n)[j - (k * 4 + 4)]? = some (.int .i64 (F (k * 4 + (j - (k * 4 + 4))))) := vL_get (by omega)
    rw [List.getElem?_eq_getElem (by rw [hdl]; omega)] at e1
    rw [e1]
    have e2 := insF_hi F k a f t u (j - 4) (by omega)
    rw [show j - 4 + 4 = j by omega] at e2
    rw [e2, show k * 4 + (j - (k * 4 + 4)) = j - 4 by omega]
  refine ⟨fun j hj => ?_, fun j hj => ?_⟩
  · by_cases c : j < k * 4
    · rw [World.cell?_setCells_out N _ _ _ _ (fun _ _ => .inl (by show j < k * 4 + 4; omega)), World.cell?_setCells_out N _ _ _ _ (fun _ _ => .inl c), hlo j c, insF_lo _ _ _ _ _ _ c]
    · by_cases d : j < k * 4 + 4
      · rw [World.cell?_setCells_out N _ _ _ _ (fun _ _ => .inl d)]
        exact four_at w hsp j (by omega) d
      · exact drop_at _ (hsp1 _ _ w hsp (by rw [four_len]; omega)) j (by omega) hj
  · by_cases c : j < k * 4
    · rw [World.cell?_setCells_out N _ _ _ _ (fun _ _ => .inl c), World.cell?_setCells_out N _ _ _ _ (fun _ _ => .inl (by show j < k * 4 + 4; omega)), hlo j c, insF_lo _ _ _ _ _ _ c]
    · by_cases d : j < k * 4 + 4
      · exact four_at _ (hsp1 _ _ w hsp (by rw [hdl]; omega)) j (by omega) d
      · rw [World.cell?_setCells_out N _ _ _ _ (fun _ _ => .inr (by rw [four_len]; show k * 4 + 4 ≤ j; omega))]
        exact drop_at w hsp j (by omega) hj
end Go.Proofs.Ytdpblholoogikaa
