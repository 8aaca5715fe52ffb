/- Stamped words sorted: slices.SortFunc with compareStamps. -/
import Derived.Test.YteknkgfgefhloaaMgD
import Derived.Test.YteknkgfgefhloaaSoShelf
namespace Go.Proofs.Yteknkgfgefhloaa
open Go.RowKit Go.Sort
def cS (x : Sw) (j : Nat) : Int := if j = 0 then x.1 else if j = 1 then x.2.1 else x.2.2
/-- a list of words, number by number -/
def flS (l : List Sw) (t : Nat) : Int := cS (l.getD (t / 3) (0, 0, 0)) (t % 3)
def enS (x : Sw) : List Value := [.int .i64 x.1, .int .i64 x.2.1, .int .i64 x.2.2]
theorem enS_get (x : Sw) (j : Nat) (h : j < 3) : (enS x)[j]! = .int .i64 (cS x j) := by
  have : j = 0 ∨ j = 1 ∨ j = 2 := by omega
  rcases this with rfl | rfl | rfl <;> rfl
theorem sw_fl (l : List Sw) (i : Nat) : swF (flS l) i = l.getD i (0, 0, 0) := by
  unfold swF flS cS
  have e0 : i * 3 / 3 = i := by omega
  have e1 : (i * 3 + 1) / 3 = i := by omega
  have e2 : (i * 3 + 2) / 3 = i := by omega
  have m0 : i * 3 % 3 = 0 := by omega
  have m1 : (i * 3 + 1) % 3 = 1 := by omega
  have m2 : (i * 3 + 2) % 3 = 2 := by omega
  rw [e0, e1, e2, m0, m1, m2]
  simp
theorem flat_get (l : List Sw) (t : Nat) (h : t < l.length * 3) : (flatK enS 3 l.toArray)[t]! = .int .i64 (flS l t) := by
  have hd : t / 3 < l.length := by omega
  rw [get_flatK _ _ _ _ (by simpa using h), enS_get _ _ (by omega), getElem!_pos l.toArray (t / 3) (by simpa using hd)]
  simp [flS, List.getD, hd]
theorem ip_holdsS {w : World} {b : Nat} {l : List Sw} (h : IP w b (l.length * 3) (flS l)) : HoldsK enS 3 w b 0 l.toArray := fun j hj => by
  have hj' : j < l.length * 3 := by simpa using hj
  refine ⟨?_, h.fz _⟩
  rw [Nat.zero_add, flat_get l j hj']; exact h.c j hj'
theorem put_ipS {w : World} {b : Nat} {l : List Sw} (h : IP w b (l.length * 3) (flS l)) (z : List Sw) (hz : z.length = l.length) (q : Nat) (os : Array Obj) :
    IP (sortWorldK enS 3 w b 0 q z.toArray os) b (l.length * 3) (flS z) ∧ Below b w (sortWorldK enS 3 w b 0 q z.toArray os) := by
  have hH := holdsK_putRowK enS 3 (Sort.ahead w q) b 0 l.toArray z.toArray (holds_ahead _ _ _ _ _ _ (ip_holdsS h)) (by simpa using hz)
  have hb : b < (putRowK enS 3 (Sort.ahead w q) b 0 z.toArray).heap.size := by unfold putRowK; rw [size_putRow]; exact h.lt
  have hG : HoldsK enS 3 (grow (putRowK enS 3 (Sort.ahead w q) b 0 z.toArray) os) b 0 z.toArray := holds_grow id _ os b 0 _ hb hH
  unfold sortWorldK
  refine ⟨⟨?_, fun i hi => ?_, fun j => ?_⟩, ⟨rfl, rfl, rfl, ?_, fun k hk => ?_⟩⟩
  · rw [size_grow]; omega
  · have := (hG i (by simpa [hz] using hi)).1
    rw [Nat.zero_add, flat_get z i (by omega)] at this; exact this
  · rw [frozen?_grow _ _ _ hb]; unfold putRowK; rw [frozen?_putRow]; exact h.fz j
  · unfold putRowK; rw [size_grow, size_putRow]; exact Nat.le_add_right _ _
  · rw [heap_grow_old _ _ (Nat.lt_trans hk hb)]
    unfold putRowK putRow mapBlock
    simp only [Array.getElem?_modify]
    rw [if_neg (by omega)]
    rfl
theorem ltS (x y : Sw) : ltOf cmpS x y = decide (kLt x y) := by
  unfold ltOf
  exact decide_eq_decide.2 (cmpS_lt x y)
theorem swoS : SWO (ltOf cmpS) where
  irrefl x := by rw [ltS]; exact decide_eq_false (kLt_irr x)
  trans x y z h1 h2 := by rw [ltS] at *; exact decide_eq_true (kLt_trans (of_decide_eq_true h1) (of_decide_eq_true h2))
  ntrans x y z h1 h2 := by
    rw [ltS] at *
    have a := of_decide_eq_false h1
    have b := of_decide_eq_false h2
    refine decide_eq_false ?_
    unfold kLt at *
    omega
theorem wk_of : ∀ {z : List Sw}, (∀ i j (hj : j < z.length) (hi : i < j), ¬ kLt z[j] (z[i]'(Nat.lt_trans hi hj))) → Wk z
  | [], _ => trivial
  | x :: z, h => by
    refine ⟨fun y hy => ?_, wk_of fun i j hj hi => ?_⟩
    · obtain ⟨j, hj, rfl⟩ := List.getElem_of_mem hy
      exact h 0 (j + 1) (by simpa using hj) (Nat.succ_pos _)
    · exact h (i + 1) (j + 1) (by simpa using hj) (by omega)
theorem cmpLaysS (blk off size : Nat) (w : World) : CmpLays Try.prog 41 #[] enS 3 cmpS blk off size w :=
  fun _ _ _ _ x y => (iCompareG x.1 x.2.1 x.2.2 y.1 y.2.1 y.2.2 _).mono fun _ _ h => ⟨h.1, h.2.grown⟩
theorem iSort (l : List Sw) (b c : Nat) (w : World) (hn : l.length ≤ 1048576) (h : IP w b (l.length * 3) (flS l)) :
    Calls Try.prog 40 #[.slice (some ⟨b, 0, none⟩) l.length c, .func (.func 41) #[] #[]] w fun e w' =>
      e = .returned (.tuple #[]) ∧ ∃ z : List Sw, z.Perm l ∧ Wk z ∧ IP w' b (l.length * 3) (flS z) ∧ Below b w w' := by
  have eg : ∀ args w, (callFunc 41 args).run Try.prog w = .ok (.enter 41 args) w := enters_of Try.func41 (by kernel_rfl) rfl
  have hcon := AnyQ.slices_SortFunc Try.sortSt 3 Try.isAgg29 Try.sizeOf29 enS (fun _ => rfl) (fun x v hv => by simp [enS] at hv; rcases hv with rfl | rfl | rfl <;> rfl) cmpS swoS 41 #[] b 0 c l.toArray w eg (cmpLaysS b 0 _ w) (ip_holdsS h) h.lt (by simp; omega)
  refine hcon.mono ?_
  rintro e w' ⟨he, d', n, os, hp, hs, rfl⟩
  refine ⟨he, d'.toList, ?_, ?_, ?_⟩
  · have h2 := hp.2.2
    have e1 : d'.extract 0 l.toArray.size = d' := by rw [← hp.1]; simp
    have e2 : l.toArray.extract 0 l.toArray.size = l.toArray := by simp
    rw [e1, e2] at h2
    simpa using h2
  · refine wk_of fun i j hj hi => ?_
    have hj' : j < d'.size := by simpa using hj
    have h3 := hs i j (Nat.zero_le _) hi (by rw [← hp.1]; exact hj')
    rw [ltS, getElem!_pos d' j hj', getElem!_pos d' i (by omega)] at h3
    simpa using of_decide_eq_false h3
  · have := put_ipS h d'.toList (by simpa using hp.1) n os
    simpa using this
end Go.Proofs.Yteknkgfgefhloaa
