/- Both sides say of a hold whether it is good for a loop. -/
import Derived.Test.YtnoaonflphameaaHdGood
namespace Go.Proofs.Ytnoaonflphameaa
open Go.RowKit

theorem inB_t {n m : Int} (h : inB n m = true) : -m ≤ n ∧ n ≤ m := of_decide_eq_true h
theorem inB_f {n m : Int} (h : inB n m = false) : ¬ (-m ≤ n ∧ n ≤ m) := of_decide_eq_false h
theorem Bx.at {w : World} {b : Nat} {vs : List Value} (h : Bx w b vs) (i : Nat) {v : Value} (e : vs[i]? = some v) : w.cell? ⟨b, i, none⟩ = some v :=
  (h.c i (List.getElem?_eq_some_iff.1 e).1).trans e
/-- the cells of a loop, of a hold, at a place -/
theorem loop_at {w : World} {b : Nat} {l : Lp} (h : Bx w b (lvs l)) : w.cell? ⟨b, 0, none⟩ = some (.int .i64 l.P) ∧ w.cell? ⟨b, 1, none⟩ = some (.int .i64 l.I) ∧ w.cell? ⟨b, 2, none⟩ = some (.int .i64 l.D) ∧ w.cell? ⟨b, 3, none⟩ = some (.int .i64 l.S) ∧ w.cell? ⟨b, 4, none⟩ = some (.int .i64 l.M) ∧ w.cell? ⟨b, 5, none⟩ = some (.int .i64 l.W) ∧ w.cell? ⟨b, 6, none⟩ = some (.int .i64 l.L) :=
  ⟨h.at 0 rfl, h.at 1 rfl, h.at 2 rfl, h.at 3 rfl, h.at 4 rfl, h.at 5 rfl, h.at 6 rfl⟩
theorem hold_at {w : World} {b : Nat} {h : Hd} (k : Bx w b (hvs h)) : w.cell? ⟨b, 0, none⟩ = some (.bool h.on) ∧ w.cell? ⟨b, 1, none⟩ = some (.int .i64 h.sum) ∧ w.cell? ⟨b, 2, none⟩ = some (.int .i64 h.last) ∧ w.cell? ⟨b, 3, none⟩ = some (.int .i64 h.out) :=
  ⟨k.at 0 rfl, k.at 1 rfl, k.at 2 rfl, k.at 3 rfl⟩
/-- the boxes of a loop and a hold, laid one behind the other -/
abbrev lvo (l : Lp) : Obj := .cells (lvs l).toArray 34
abbrev hvo (h : Hd) : Obj := .cells (hvs h).toArray 36
theorem boxes_lh (l : Lp) (h : Hd) (w : World) : Bx ((w.alloc (lvo l)).alloc (hvo h)) w.heap.size (lvs l) ∧ Bx ((w.alloc (lvo l)).alloc (hvo h)) (w.heap.size + 1) (hvs h) ∧ Below w.heap.size w ((w.alloc (lvo l)).alloc (hvo h)) :=
  ⟨(bx_new (w := w) (lvs l) _ rfl).alloc _, bx_new (w := w.alloc (lvo l)) (hvs h) _ (by rw [size_al]), below_al (Below.refl _ _) |>.trans ((below_al (Below.refl _ _)).mono (by rw [size_al]; exact Nat.le_succ _))⟩

set_option maxHeartbeats 1000000 in
theorem eq_hold (h g : Hd) (w : World) : (Op.equalIn 10000 36 (hv h) (hv g)).run Try.prog w = .ok (h.on == g.on && decide (h.sum = g.sum) && decide (h.last = g.last) && decide (h.out = g.out)) w := by
  have hf : Try.prog.underlying 36 = some (.struct (Try.prog.fieldsOf 36)) := by
    have h := Try.underlying36
    unfold Program.fieldsOf
    rw [h]
  rw [run_equalIn_struct w 9999 36 _ _ hf (by kernel_rfl)]
  have hp : ∀ (xs : Array Value) (k : Nat) (v : Int), xs[k]? = some (.int .i64 v) → ∀ w, (part 3 xs k).run Try.prog w = .ok (.int .i64 v) w := by
    intro xs k v h w
    simp [part, go_sem, h]
  have hb : ∀ (xs : Array Value) (k : Nat) (v : Bool), xs[k]? = some (.bool v) → ∀ w, (part 4 xs k).run Try.prog w = .ok (.bool v) w := by
    intro xs k v h w
    simp [part, go_sem, h]
  have he : ∀ (x y : Int) (w : World), (Op.equalIn 9999 3 (.int .i64 x) (.int .i64 y)).run Try.prog w = .ok (x == y) w := fun x y w => run_equalIn_int w 9998 3 .i64 .i64 x y Try.underlying3
  have hc : ∀ (x y : Bool) (w : World), (Op.equalIn 9999 4 (.bool x) (.bool y)).run Try.prog w = .ok (x == y) w := fun x y w => run_equalIn_bool w 9998 4 x y Try.underlying4
  obtain ⟨a0, a1, a2, a3⟩ := h
  obtain ⟨b0, b1, b2, b3⟩ := g
  have q0 := hb #[.bool a0, .int .i64 a1, .int .i64 a2, .int .i64 a3] 0 a0 rfl
  have q1 := hp #[.bool a0, .int .i64 a1, .int .i64 a2, .int .i64 a3] 1 a1 rfl
  have q2 := hp #[.bool a0, .int .i64 a1, .int .i64 a2, .int .i64 a3] 2 a2 rfl
  have q3 := hp #[.bool a0, .int .i64 a1, .int .i64 a2, .int .i64 a3] 3 a3 rfl
  have z0 := hb #[.bool b0, .int .i64 b1, .int .i64 b2, .int .i64 b3] 0 b0 rfl
  have z1 := hp #[.bool b0, .int .i64 b1, .int .i64 b2, .int .i64 b3] 1 b1 rfl
  have z2 := hp #[.bool b0, .int .i64 b1, .int .i64 b2, .int .i64 b3] 2 b2 rfl
  have z3 := hp #[.bool b0, .int .i64 b1, .int .i64 b2, .int .i64 b3] 3 b3 rfl
  unfold Program.fieldsOf
  rw [Try.underlying36]
  simp [Op.eqFields, Sem.run_bind, q0, q1, q2, q3, z0, z1, z2, z3, Result.andThen_ok, he, hc, Sem.run_ite, Sem.run_pure]
  by_cases h0 : a0 = b0
  · by_cases h1 : a1 = b1
    · by_cases h2 : a2 = b2
      · by_cases h3 : a3 = b3 <;> simp [h0, h1, h2, h3]
      · simp [h0, h1, h2]
    · simp [h0, h1]
  · simp [h0]

theorem goodH_bad {l : Lp} (h : Hd) (g : goodL l = false) : goodH l h = false := by unfold goodH; rw [g]; rfl
theorem goodH_off {l : Lp} {h : Hd} (g : goodL l = true) (ho : h.on = false) : (h.on == hd0.on && decide (h.sum = hd0.sum) && decide (h.last = hd0.last) && decide (h.out = hd0.out)) = goodH l h := by
  obtain ⟨hP, hI, hD, hS, hM, hW, hL⟩ := goodL_p g
  unfold goodH
  rw [g, ho]
  by_cases e : h.sum = 0 ∧ h.out = 0 ∧ h.last = 0
  · simp [e.1, e.2.1, e.2.2]; omega
  · rw [decide_eq_false e, Bool.false_or, Bool.and_false]
    by_cases e1 : h.sum = 0
    · by_cases e2 : h.out = 0
      · have e3 : ¬ h.last = 0 := fun e3 => e ⟨e1, e2, e3⟩
        simp [e3]
      · simp [e2]
    · simp [e1]
theorem goodH_on {l : Lp} {h : Hd} (g : goodL l = true) (ho : h.on = true) : goodH l h = (inB h.sum l.W && inB h.out l.M && inB h.last 2000000) := by
  unfold goodH inB
  rw [g, ho, Bool.true_and, Bool.true_or, Bool.and_true, ← Bool.decide_and, ← Bool.decide_and]
  exact decide_eq_decide.2 and_assoc.symm
theorem goodH_any {l : Lp} {h : Hd} (g : goodL l = true) : goodH l h = ((inB h.sum l.W && inB h.out l.M && inB h.last 2000000) && (h.on || (decide (h.sum = 0) && decide (h.out = 0) && decide (h.last = 0)))) := by
  unfold goodH inB
  rw [g, Bool.true_and]
  simp only [Bool.decide_and, Bool.and_assoc]
set_option maxHeartbeats 1000000 in
theorem implGoodH (l : Lp) (h : Hd) (w : World) :
    Calls Try.prog 43 #[lv l, hv h] w fun e w' => e = .returned (.bool (goodH l h)) ∧ Below w.heap.size w w' := by
  obtain ⟨z0, z1, hB0⟩ := boxes_lh l h w
  go_enter Try.func43, Try.ntmps43
  go_wp2_with fail
  refine (implGoodL l _).mono ?_
  rintro e w1 ⟨rfl, hb⟩
  have hB1 := stepA hB0 hb
  obtain ⟨x0, x1, x2, x3, x4, x5, x6⟩ := loop_at (z0.on hb)
  obtain ⟨y0, y1, y2, y3⟩ := hold_at (z1.on hb)
  clear hb z0 z1 hB0
  by_cases g : goodL l = true
  rotate_left
  · have g' : goodL l = false := by simpa using g
    clear g
    go_wp2_with (first | (go_at_call 65; refine (within_any _ _ _ (by omega)).mono ?_; rintro e w' ⟨rfl, hw'⟩; subst hw'))
    go_ret
    exact ⟨ret_bool (by exact (goodH_bad h g').symm), hB1⟩
  by_cases o : h.on = true
  rotate_left
  · obtain ⟨hP, hI, hD, hS, hM, hW, hL⟩ := goodL_p g
    have o' : h.on = false := by simpa using o
    have hq := eq_hold h hd0
    rw [goodH_off g o'] at hq
    generalize hr : goodH l h = r at hq
    clear o
    obtain ⟨on, sm, la, ou⟩ := h
    simp only at o' hq y0 y1 y2 y3
    subst o'
    go_wp2_with (first | (go_at_call 65; refine (within_any _ _ _ (by omega)).mono ?_; rintro e w' ⟨rfl, hw'⟩; subst hw'))
    go_ret
    exact ⟨ret_bool (by exact hr.symm), hB1⟩
  by_cases i1 : inB h.sum l.W = true
  rotate_left
  · obtain ⟨hP, hI, hD, hS, hM, hW, hL⟩ := goodL_p g
    have hr := goodH_on g o
    have q : inB h.sum l.W = false := by simpa using i1
    clear i1
    go_wp2_with (first | (go_at_call 65; refine (within_any _ _ _ (by omega)).mono ?_; rintro e w' ⟨rfl, hw'⟩; subst hw'))
    go_ret
    exact ⟨ret_bool (by rw [hr]; simp [q]), hB1⟩
  by_cases i2 : inB h.out l.M = true
  rotate_left
  · obtain ⟨hP, hI, hD, hS, hM, hW, hL⟩ := goodL_p g
    have hr := goodH_on g o
    have q : inB h.out l.M = false := by simpa using i2
    clear i2
    go_wp2_with (first | (go_at_call 65; refine (within_any _ _ _ (by omega)).mono ?_; rintro e w' ⟨rfl, hw'⟩; subst hw'))
    go_ret
    exact ⟨ret_bool (by rw [hr]; simp [q]), hB1⟩
  by_cases i3 : inB h.last 2000000 = true
  rotate_left
  · obtain ⟨hP, hI, hD, hS, hM, hW, hL⟩ := goodL_p g
    have hr := goodH_on g o
    have q : inB h.last 2000000 = false := by simpa using i3
    clear i3
    go_wp2_with (first | (go_at_call 65; refine (within_any _ _ _ (by omega)).mono ?_; rintro e w' ⟨rfl, hw'⟩; subst hw'))
    go_ret
    exact ⟨ret_bool (by rw [hr]; simp [q]), hB1⟩
  obtain ⟨hP, hI, hD, hS, hM, hW, hL⟩ := goodL_p g
  have hr := goodH_on g o
  go_wp2_with (first | (go_at_call 65; refine (within_any _ _ _ (by omega)).mono ?_; rintro e w' ⟨rfl, hw'⟩; subst hw'))
  go_ret
  exact ⟨ret_bool (by rw [hr]; simp [i1, i2, i3]), hB1⟩

set_option maxHeartbeats 1000000 in
theorem specGoodH (l : Lp) (h : Hd) (w : World) :
    Calls Try.prog 16 #[lv l, hv h] w fun e w' => e = .returned (.bool (goodH l h)) ∧ Below w.heap.size w w' := by
  obtain ⟨z0, z1, hB0⟩ := boxes_lh l h w
  go_enter Try.func16, Try.ntmps16
  go_wp2_with fail
  refine (specGoodL l _).mono ?_
  rintro e w1 ⟨rfl, hb⟩
  have hB1 := stepA hB0 hb
  obtain ⟨x0, x1, x2, x3, x4, x5, x6⟩ := loop_at (z0.on hb)
  obtain ⟨y0, y1, y2, y3⟩ := hold_at (z1.on hb)
  clear hb z0 z1 hB0
  by_cases g : goodL l = true
  rotate_left
  · have g' : goodL l = false := by simpa using g
    clear g
    go_wp2_with (first | (go_at_call 50; refine (l13In_any _ _ _ (by omega)).mono ?_; rintro e w' ⟨rfl, hw'⟩; subst hw'))
    go_ret
    exact ⟨ret_bool (by exact (goodH_bad h g').symm), hB1⟩
  by_cases i1 : inB h.sum l.W = true
  rotate_left
  · obtain ⟨hP, hI, hD, hS, hM, hW, hL⟩ := goodL_p g
    have hr := goodH_any (h := h) g
    have q : inB h.sum l.W = false := by simpa using i1
    clear i1
    go_wp2_with (first | (go_at_call 50; refine (l13In_any _ _ _ (by omega)).mono ?_; rintro e w' ⟨rfl, hw'⟩; subst hw'))
    go_ret
    exact ⟨ret_bool (by rw [hr]; simp [q]), hB1⟩
  by_cases i2 : inB h.out l.M = true
  rotate_left
  · obtain ⟨hP, hI, hD, hS, hM, hW, hL⟩ := goodL_p g
    have hr := goodH_any (h := h) g
    have q : inB h.out l.M = false := by simpa using i2
    clear i2
    go_wp2_with (first | (go_at_call 50; refine (l13In_any _ _ _ (by omega)).mono ?_; rintro e w' ⟨rfl, hw'⟩; subst hw'))
    go_ret
    exact ⟨ret_bool (by rw [hr]; simp [q]), hB1⟩
  by_cases i3 : inB h.last 2000000 = true
  rotate_left
  · obtain ⟨hP, hI, hD, hS, hM, hW, hL⟩ := goodL_p g
    have hr := goodH_any (h := h) g
    have q : inB h.last 2000000 = false := by simpa using i3
    clear i3
    go_wp2_with (first | (go_at_call 50; refine (l13In_any _ _ _ (by omega)).mono ?_; rintro e w' ⟨rfl, hw'⟩; subst hw'))
    go_ret
    exact ⟨ret_bool (by rw [hr]; simp [q]), hB1⟩
  by_cases o : ¬ h.on = true
  rotate_left
  · obtain ⟨hP, hI, hD, hS, hM, hW, hL⟩ := goodL_p g
    have hr := goodH_any (h := h) g
    have o'' : h.on = true := by simpa using o
    clear o
    go_wp2_with (first | (go_at_call 50; refine (l13In_any _ _ _ (by omega)).mono ?_; rintro e w' ⟨rfl, hw'⟩; subst hw'))
    go_ret
    exact ⟨ret_bool (by rw [hr]; simp [i1, i2, i3, o'']), hB1⟩
  by_cases s1 : h.sum = 0
  rotate_left
  · obtain ⟨hP, hI, hD, hS, hM, hW, hL⟩ := goodL_p g
    have hr := goodH_any (h := h) g
    have o' : h.on = false := by simpa using o
    clear o
    go_wp2_with (first | (go_at_call 50; refine (l13In_any _ _ _ (by omega)).mono ?_; rintro e w' ⟨rfl, hw'⟩; subst hw'))
    go_ret
    exact ⟨ret_bool (by rw [hr]; simp [i1, i2, i3, o', s1]), hB1⟩
  by_cases s2 : h.out = 0
  rotate_left
  · obtain ⟨hP, hI, hD, hS, hM, hW, hL⟩ := goodL_p g
    have hr := goodH_any (h := h) g
    have o' : h.on = false := by simpa using o
    clear o
    rw [s1] at i1
    go_wp2_with (first | (go_at_call 50; refine (l13In_any _ _ _ (by omega)).mono ?_; rintro e w' ⟨rfl, hw'⟩; subst hw'))
    go_ret
    exact ⟨ret_bool (by rw [hr]; simp [i1, i2, i3, o', s1, s2]), hB1⟩
  by_cases s3 : h.last = 0
  rotate_left
  · obtain ⟨hP, hI, hD, hS, hM, hW, hL⟩ := goodL_p g
    have hr := goodH_any (h := h) g
    have o' : h.on = false := by simpa using o
    clear o
    rw [s1] at i1
    rw [s2] at i2
    go_wp2_with (first | (go_at_call 50; refine (l13In_any _ _ _ (by omega)).mono ?_; rintro e w' ⟨rfl, hw'⟩; subst hw'))
    go_ret
    exact ⟨ret_bool (by rw [hr]; simp [i1, i2, i3, o', s1, s2, s3]), hB1⟩
  obtain ⟨hP, hI, hD, hS, hM, hW, hL⟩ := goodL_p g
  have hr := goodH_any (h := h) g
  have o' : h.on = false := by simpa using o
  clear o
  rw [s1] at i1
  rw [s2] at i2
  rw [s3] at i3
  go_wp2_with (first | (go_at_call 50; refine (l13In_any _ _ _ (by omega)).mono ?_; rintro e w' ⟨rfl, hw'⟩; subst hw'))
  go_ret
  exact ⟨ret_bool (by rw [hr]; simp [i1, i2, i3, o', s1, s2, s3]), hB1⟩

end Go.Proofs.Ytnoaonflphameaa
