/- A good name fits itself, and the pattern of any parts; texts alone. -/
import Derived.Test.YthhaemdpnphhoaaDoorTfJ
import Derived.Test.YthhaemdpnphhoaaDoorTpR
namespace Go.Proofs.YthhaemdpnphhoaaDoor
theorem prt_flat : ∀ (l : List UInt8), ((prt l).map (fun x => 47 :: x)).flatten = 47 :: l
  | [] => rfl
  | c :: r => by
    have ih := prt_flat r
    unfold prt
    split
    · next h => subst h; simp [ih]
    · split
      · next p q e =>
        rw [e] at ih
        simp at ih ⊢
        exact ih
      · next e => exact absurd e (prt_ne r)
theorem gp_plain {x : ByteArray} (h : gpB x = true) : st1 x = false ∧ st2 x = false := by
  unfold gpB at h
  simp only [Bool.and_eq_true, decide_eq_true_eq] at h
  have hb : bt x 0 ≠ 42 := by omega
  have h0 : 0 < x.size := by omega
  have key : ∀ l : List UInt8, x.toList = 42 :: l → False := fun l e => by
    apply hb
    have hl : bl x = 42 :: l := by rw [← e, Lib.toList_data]
    rw [bt_of x 0 h0]
    have : x[0] = (bl x)[0]'(by rw [bl_len]; exact h0) := rfl
    rw [this]
    simp [hl]
  constructor
  · cases e : st1 x with
    | false => rfl
    | true => exact (key [] (eq_of_beq e)).elim
  · cases e : st2 x with
    | false => rfl
    | true => exact (key [42] (eq_of_beq e)).elim
theorem fB_self : ∀ (p : List ByteArray), (∀ x ∈ p, gpB x = true) → fB p p = true
  | [], _ => rfl
  | x :: p, h => by
    rw [fB_cons, (gp_plain (h x (by simp))).2]
    have ih := fB_self p (fun y hy => h y (by simp [hy]))
    simp [hd1, ih, eqT]
theorem plT_self (r : ByteArray) (h : gtB r = true) : plT (tpP r) = r := by
  have h' := h
  unfold gtB at h
  simp only [Bool.and_eq_true, Bool.not_eq_true', List.all_eq_true] at h
  apply bl_inj
  rw [bl_plT]
  have hp : (tpP r).map (fun x => 47 :: bl (plx x)) = (tpP r).map (fun x => 47 :: bl x) := List.map_congr_left fun x hx => by
    have := gp_plain (h.2 x hx)
    simp [plx, this.1, this.2]
  rw [hp]
  unfold tpP
  rw [List.map_map]
  have hm : ((fun x => 47 :: bl x) ∘ mkT) = (fun l : List UInt8 => 47 :: l) := by funext l; simp
  rw [hm]
  cases e : bl r with
  | nil =>
    exfalso
    have : (tpP r).isEmpty = true := by unfold tpP; rw [e]; rfl
    rw [this] at h
    simp at h
  | cons c t =>
    rw [tpL_cons]
    split
    · next hc => subst hc; exact prt_flat t
    · next hc =>
      exfalso
      have : (tpP r).isEmpty = true := by unfold tpP; rw [e, tpL_cons, if_neg hc]; rfl
      rw [this] at h
      simp at h
theorem tf_self {r : ByteArray} (h : gtB r = true) : tfB r r = true := by
  unfold tfB
  rw [plT_self r h, h]
  unfold gtB at h
  simp only [Bool.and_eq_true, Bool.not_eq_true', List.all_eq_true] at h
  rw [h.1.2, fB_self _ h.2]
  rfl
theorem tf_any {r : ByteArray} (h : gtB r = true) : tfB ⟨#[47, 42, 42]⟩ r = true := by
  unfold tfB
  have h1 : tpP ⟨#[47, 42, 42]⟩ = [⟨#[42, 42]⟩] := rfl
  have h3 : st2 ⟨#[42, 42]⟩ = true := by unfold st2; rw [Lib.toList_data]; rfl
  have h2 : gtB (plT [⟨#[42, 42]⟩]) = true := by
    have e : plT [⟨#[42, 42]⟩] = ⟨#[47, 97]⟩ := by
      apply bl_inj
      rw [bl_plT]
      simp [plx, h3]
    rw [e]
    decide +kernel
  rw [h1, h2, h]
  have h4 : fB [⟨#[42, 42]⟩] (tpP r) = true := by
    rw [fB_cons, h3, if_pos rfl, List.any_eq_true]
    exact ⟨(tpP r).length, List.mem_range.2 (Nat.lt_succ_self _), by simp [fB]⟩
  rw [h4]
  rfl
theorem rs_good {a b : ByteArray} (h : (rsT a b).toList.isEmpty = false) : gtB (rsT a b) = true := by
  unfold rsT at h ⊢
  split
  · next e =>
    rw [Bool.and_eq_true] at e
    exact e.2
  · next e =>
    exfalso
    rw [if_neg e] at h
    rw [Lib.toList_data] at h
    simp at h
end Go.Proofs.YthhaemdpnphhoaaDoor
