/- What FnChart draws: events. -/
import Derived.Test.YtjefakfongehdaaRCurPick
import Derived.Test.YtjefakfongehdaaRLqBase
namespace Go.Proofs.YtjefakfongehdaaR
open Go.RowKit
theorem tn_only {C : Nat} {w w' : World} (h : Only C w w') : Turns C (C + 1) w w' := (OnlyIn.of h (Nat.le_refl _) (Nat.lt_succ_self _)).turns
theorem tn_below {lo hi B : Nat} {w w' w'' : World} (h : Turns lo hi w w') (k : Below B w' w'') (hB : w.heap.size ≤ B) : Turns lo hi w w'' :=
  ⟨k.os.trans h.os, k.tape.trans h.tape, k.output.trans h.output, Nat.le_trans h.size k.size, fun x hx hn => (k.block x (by omega)).trans (h.block x hx hn)⟩
/-- what stands while events are drawn -/
structure Es (w wx : World) (C : Nat) (a : Option Addr) (len cap n' : Nat) (v : Value) (k : Nat) (F : Nat → Int) : Prop where
  cur : Cur wx C a len cap n'
  own : Own wx w.heap.size v k F
  t : Turns C (C + 1) w wx
section
variable {w wx wy : World} {C : Nat} {a : Option Addr} {len cap n' n2 : Nat} {v v' : Value} {k : Nat} {F : Nat → Int}
theorem Es.step (h : Es w wx C a len cap n' v k F) (hc : Cur wy C a len cap n2) (o : Only C wx wy) (hC : C < w.heap.size) : Es w wy C a len cap n2 v k F :=
  ⟨hc, h.own.only o hC, h.t.trans (tn_only o)⟩
theorem Es.app {x : Int} (h : Es w wx C a len cap n' v k F) (ho : wy.ownsRow w.heap.size 3 1 v' (k + 1) (vL F k ++ [.int .i64 x])) (hg : (wx.alloc (.cells #[.int .i64 x] 3)).grownBy wy v.ownBlock) (hC : C < w.heap.size) : Es w wy C a len cap n' v' (k + 1) (put F k x) := by
  have hb : Below w.heap.size wx wy := ((Below.refl _ _).alloc h.t.size (.cells #[.int .i64 x] 3)).grown hg (by simp; have := h.t.size; omega) (fun q hq => (World.ownsRow.lt h.own q hq).1)
  exact ⟨h.cur.below hb hC, own_put ho, tn_below h.t hb (Nat.le_refl _)⟩
end
/-- the answer: some events -/
def AnsEv (w w' : World) (e : Ending) (C : Nat) (a : Option Addr) (len cap n : Nat) : Prop := ∃ (x : Option Addr) (q r : Nat) (h : Nat → Int) (n' : Nat), e = .returned (.slice x q r) ∧ q ≤ 1000 ∧ LQ w' w.heap.size w'.heap.size x q h ∧ n' ≤ n + 1000 ∧ Cur w' C a len cap n' ∧ Turns C (C + 1) w w'
set_option maxRecDepth 20000 in
set_option maxHeartbeats 4000000 in
theorem events_any (C : Nat) (a : Option Addr) (len cap n : Nat) (w : World) (h : Cur w C a len cap n) (hn : n ≤ 700000) :
    Calls Try.prog 29 #[.pointer (some ⟨C, 0, none⟩)] w fun e w' => AnsEv w w' e C a len cap n := by
  obtain ⟨i0, hi, hzz⟩ := Option.map_eq_some_iff.1 infoI
  simp only [Prod.mk.injEq] at hzz
  obtain ⟨hz0, hz1, hz2⟩ := hzz
  have hC := h.lt
  have hE0 : Es w w C a len cap n (.slice none 0 0) 0 (fun _ => 0) := ⟨h, World.ownsRow_nil _ _ _ _, turns_of (Below.refl _ _)⟩
  go_enter Try.func29, Try.ntmps29
  go_wp2_with fail
  refine (pick_any C a len cap n 12 _ h (by omega)).mono ?_
  rintro e w1 ⟨p1, n1, rfl, h10, h11, -, hn1, hc1, hO1⟩
  have h12 := h11 (by omega)
  have hE1 := hE0.step hc1 hO1 hC
  clear hE0 h hO1 h11
  go_wp2_with fail
  refine (one_any C a len cap n1 20 _ hc1 (by omega)).mono ?_
  rintro e w2 ⟨u, n2, rfl, hn2, hc2, hO2⟩
  have hE2 := hE1.step hc2 hO2 hC
  clear hE1 hc1 hO2
  cases u with
  | true =>
    go_wp2_with fail
    refine (pick_any C a len cap n2 3 _ hc2 (by omega)).mono ?_
    rintro e w3 ⟨p3, n3, rfl, h30, h31, -, hn3, hc3, hO3⟩
    have h32 := h31 (by omega)
    have hE3 := hE2.step hc3 hO3 hC
    clear hE2 hc2 hO3 h31
    go_wp2_with fail
    go_loopw [3, 4] (fun v i wr => ∃ (k R n' : Nat) (F : Nat → Int), i = .int .i64 (R : Int) ∧ k + R ≤ 61 ∧ n' ≤ n + 6 + 4 * k ∧ Hid (Es w wr C a len cap n' v k F)) (fun _ i _ => (intOf i).toNat)
    case atStart => exact ⟨0, (59 + p3).toNat, n3, _, by congr 1; omega, by omega, by omega, hE3⟩
    case round =>
      clear hE3 hc3
      obtain ⟨k, R, n5, F, rfl, hkR, hn5, HE⟩ := hrel
      by_cases hR : 0 < R
      · obtain ⟨R, rfl⟩ : ∃ R', R = R' + 1 := ⟨R - 1, by omega⟩
        have jR : (0 : Int) < ((R + 1 : Nat) : Int) := by omega
        go_wp2_with fail
        refine (pick_any C a len cap n5 6 _ HE.out.cur (by omega)).mono ?_
        rintro e w6 ⟨p6, n6, rfl, h60, h61, -, hn6, hc6, hO6⟩
        have h62 := h61 (by omega)
        have HE6 : Hid (Es w w6 C a len cap n6 _ k F) := HE.out.step hc6 hO6 hC
        clear HE hO6 h61
        go_wp2_with fail
        refine (one_any C a len cap n6 100 _ hc6 (by omega)).mono ?_
        rintro e w7 ⟨u7, n7, rfl, hn7, hc7, hO7⟩
        have HE7 : Hid (Es w w7 C a len cap n7 _ k F) := HE6.out.step hc7 hO7 hC
        have hs7 := HE7.out.t.size
        clear HE6 hc6 hO7 hc7
        cases u7 with
        | true =>
          go_wp2_with (at_builtin; refine wpList_append_own _ rfl _ _ 27 rfl w.heap.size 3 i0 (.int .i64 0) 1 8 Try.underlying27 hi hz0 hz1 hz2 rfl (by decide) _ _ _ rfl (World.ownsRow.alloc HE7.out.own _) ⟨w7.heap.size, 0, none⟩ 1 1 [.int .i64 6] rfl rfl (cell_one_new _ _ _) (fun x hx => by simp at hx; subst hx; rfl) (by unfold maxLen; omega) (by omega) (by simp; omega) ?_; intro v' w8 hown' hgrow8 _)
          have HE8 : Hid (Es w w8 C a len cap n7 v' (k + 1) (put F k (6))) := HE7.out.app hown' hgrow8 hC
          exact ⟨⟨k + 1, R, n7, _, by go_num, by omega, by omega, HE8⟩, by simp [intOf]⟩
        | false =>
          go_wp2_with (at_builtin; refine wpList_append_own _ rfl _ _ 27 rfl w.heap.size 3 i0 (.int .i64 0) 1 8 Try.underlying27 hi hz0 hz1 hz2 rfl (by decide) _ _ _ rfl (World.ownsRow.alloc HE7.out.own _) ⟨w7.heap.size, 0, none⟩ 1 1 [.int .i64 p6] rfl rfl (cell_one_new _ _ _) (fun x hx => by simp at hx; subst hx; rfl) (by unfold maxLen; omega) (by omega) (by simp; omega) ?_; intro v' w8 hown' hgrow8 _)
          have HE8 : Hid (Es w w8 C a len cap n7 v' (k + 1) (put F k (p6))) := HE7.out.app hown' hgrow8 hC
          exact ⟨⟨k + 1, R, n7, _, by go_num, by omega, by omega, HE8⟩, by simp [intOf]⟩
      · have hR0 : R = 0 := by omega
        subst hR0
        obtain ⟨xa, xc, hv⟩ := HE.out.own.shape
        subst hv
        have HA : Hid (AnsEv w wr (.returned (.slice xa k xc)) C a len cap n) := ⟨xa, k, xc, F, n5, rfl, by omega, HE.out.own.lq, by omega, HE.out.cur, HE.out.t⟩
        clear HE
        go_wp2
        go_ret
        exact HA.out
  | false =>
    go_wp2_with fail
    go_loopw [3, 4] (fun v i wr => ∃ (k R n' : Nat) (F : Nat → Int), i = .int .i64 (R : Int) ∧ k + R ≤ 61 ∧ n' ≤ n + 6 + 4 * k ∧ Hid (Es w wr C a len cap n' v k F)) (fun _ i _ => (intOf i).toNat)
    case atStart => exact ⟨0, p1.toNat, n2, _, by congr 1; omega, by omega, by omega, hE2⟩
    case round =>
      clear hE2 hc2
      obtain ⟨k, R, n5, F, rfl, hkR, hn5, HE⟩ := hrel
      by_cases hR : 0 < R
      · obtain ⟨R, rfl⟩ : ∃ R', R = R' + 1 := ⟨R - 1, by omega⟩
        have jR : (0 : Int) < ((R + 1 : Nat) : Int) := by omega
        go_wp2_with fail
        refine (pick_any C a len cap n5 6 _ HE.out.cur (by omega)).mono ?_
        rintro e w6 ⟨p6, n6, rfl, h60, h61, -, hn6, hc6, hO6⟩
        have h62 := h61 (by omega)
        have HE6 : Hid (Es w w6 C a len cap n6 _ k F) := HE.out.step hc6 hO6 hC
        clear HE hO6 h61
        go_wp2_with fail
        refine (one_any C a len cap n6 100 _ hc6 (by omega)).mono ?_
        rintro e w7 ⟨u7, n7, rfl, hn7, hc7, hO7⟩
        have HE7 : Hid (Es w w7 C a len cap n7 _ k F) := HE6.out.step hc7 hO7 hC
        have hs7 := HE7.out.t.size
        clear HE6 hc6 hO7 hc7
        cases u7 with
        | true =>
          go_wp2_with (at_builtin; refine wpList_append_own _ rfl _ _ 27 rfl w.heap.size 3 i0 (.int .i64 0) 1 8 Try.underlying27 hi hz0 hz1 hz2 rfl (by decide) _ _ _ rfl (World.ownsRow.alloc HE7.out.own _) ⟨w7.heap.size, 0, none⟩ 1 1 [.int .i64 6] rfl rfl (cell_one_new _ _ _) (fun x hx => by simp at hx; subst hx; rfl) (by unfold maxLen; omega) (by omega) (by simp; omega) ?_; intro v' w8 hown' hgrow8 _)
          have HE8 : Hid (Es w w8 C a len cap n7 v' (k + 1) (put F k (6))) := HE7.out.app hown' hgrow8 hC
          exact ⟨⟨k + 1, R, n7, _, by go_num, by omega, by omega, HE8⟩, by simp [intOf]⟩
        | false =>
          go_wp2_with (at_builtin; refine wpList_append_own _ rfl _ _ 27 rfl w.heap.size 3 i0 (.int .i64 0) 1 8 Try.underlying27 hi hz0 hz1 hz2 rfl (by decide) _ _ _ rfl (World.ownsRow.alloc HE7.out.own _) ⟨w7.heap.size, 0, none⟩ 1 1 [.int .i64 p6] rfl rfl (cell_one_new _ _ _) (fun x hx => by simp at hx; subst hx; rfl) (by unfold maxLen; omega) (by omega) (by simp; omega) ?_; intro v' w8 hown' hgrow8 _)
          have HE8 : Hid (Es w w8 C a len cap n7 v' (k + 1) (put F k (p6))) := HE7.out.app hown' hgrow8 hC
          exact ⟨⟨k + 1, R, n7, _, by go_num, by omega, by omega, HE8⟩, by simp [intOf]⟩
      · have hR0 : R = 0 := by omega
        subst hR0
        obtain ⟨xa, xc, hv⟩ := HE.out.own.shape
        subst hv
        have HA : Hid (AnsEv w wr (.returned (.slice xa k xc)) C a len cap n) := ⟨xa, k, xc, F, n5, rfl, by omega, HE.out.own.lq, by omega, HE.out.cur, HE.out.t⟩
        clear HE
        go_wp2
        go_ret
        exact HA.out
end Go.Proofs.YtjefakfongehdaaR
