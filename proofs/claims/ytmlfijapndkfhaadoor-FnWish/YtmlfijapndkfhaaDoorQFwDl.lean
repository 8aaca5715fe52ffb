/- What FnWin draws: lists of names. -/
import Derived.Test.YtmlfijapndkfhaaDoorQFwDn
namespace Go.Proofs.YtmlfijapndkfhaaDoor
open Go.RowKit
theorem cells_one (w : World) (s : ByteArray) : ∀ j u, [Value.string s][j]? = some u → (w.alloc (.cells #[.string s] 9)).cell? ((⟨w.heap.size, 0, none⟩ : Addr).add j) = some u := cell_one_new _ _ _
theorem cells_lit (w : World) (xs : List ByteArray) : ∀ j u, (xs.map Value.string)[j]? = some u → (w.alloc (.cells (xs.map Value.string).toArray 9)).cell? ((⟨w.heap.size, 0, none⟩ : Addr).add j) = some u := by
  intro j u hu
  have hj : j < xs.length := by simpa using (List.getElem?_eq_some_iff.1 hu).1
  rw [Addr.add_lit, Nat.zero_add, (lit_tp w xs 9).2 j hj, ← hu]
  simp [hj]
set_option maxRecDepth 20000 in
set_option maxHeartbeats 4000000 in
theorem names_any (C : Nat) (a : Option Addr) (len cap n : Nat) (w : World) (h : Cur w C a len cap n) (hn : n ≤ 800000) :
    Calls Tryd.prog 35 #[.pointer (some ⟨C, 0, none⟩)] w fun e w' => AnsNs w w' e C a len cap n := by
  obtain ⟨i0, hi, hzz⟩ := Option.map_eq_some_iff.1 infoS
  simp only [Prod.mk.injEq] at hzz
  obtain ⟨hz0, hz1, hz2⟩ := hzz
  have hC := h.lt
  have hE0 : Ns w w C a len cap n (.slice none 0 0) [] := ⟨h, ⟨rfl, .inl ⟨rfl, rfl⟩⟩, turns_of (Below.refl _ _), fun s hs => by cases hs⟩
  go_enter Tryd.func35, Tryd.ntmps35
  go_wp2_with fail
  refine (pick_any C a len cap n 4 _ h (by omega)).mono ?_
  rintro e w1 ⟨p1, n1, rfl, h10, h11, -, hn1, hc1, hO1⟩
  have h12 := h11 (by omega)
  have HE1 : Hid (Ns w w1 C a len cap n1 (.slice none 0 0) []) := hE0.step hc1 (tn_only hO1) hC
  clear hE0 h hO1 h11 hc1
  go_wp2_with fail
  go_loopw [3, 4] (fun v i wr => ∃ (l : List ByteArray) (R n' : Nat), i = .int .i64 (R : Int) ∧ l.length + R ≤ 3 ∧ R ≤ 3 ∧ n' ≤ n + 2 + 6 * (3 - R) ∧ (∃ x c, v = .slice x l.length c) ∧ Hid (Ns w wr C a len cap n' v l)) (fun _ i _ => (intOf i).toNat)
  case atStart => exact ⟨[], p1.toNat, n1, by congr 1; omega, by simp; omega, by omega, by omega, ⟨none, 0, rfl⟩, HE1⟩
  case round =>
    clear HE1
    obtain ⟨l, R, n5, rfl, hlR, hR3, hn5, ⟨x, c, rfl⟩, HE⟩ := hrel
    by_cases hR : 0 < R
    · obtain ⟨R, rfl⟩ : ∃ R', R = R' + 1 := ⟨R - 1, by omega⟩
      have jR : (0 : Int) < ((R + 1 : Nat) : Int) := by omega
      go_wp2_with fail
      refine (name_any C a len cap n5 _ HE.out.cur (by omega)).mono ?_
      rintro e w6 ⟨s6, n6, rfl, hs6, hn6, hc6, hT6⟩
      have HE6 : Hid (Ns w w6 C a len cap n6 (.slice x l.length c) l) := HE.out.step hc6 hT6 hC
      clear HE hT6
      obtain ⟨x', c', ev, hSL⟩ := HE6.out.shape
      cases ev
      have kI := sIn x l.length c (fun i => l[i]!) s6 w6 (by omega) hSL
      generalize inS (fun i => l[i]!) s6 l.length = B at kI
      go_wp2_with fail
      refine kI.mono ?_
      rintro e w7 ⟨rfl, hw7⟩
      have hs7 := hw7.symm
      clear hw7 kI hSL
      subst hs7
      cases B with
      | true =>
        go_wp2_with fail
        refine (one_any C a len cap n6 16 _ hc6 (by omega)).mono ?_
        rintro e w8 ⟨u8, n8, rfl, hn8, hc8, hO8⟩
        have HE8 : Hid (Ns w w8 C a len cap n8 (.slice x l.length c) l) := HE6.out.step hc8 (tn_only hO8) hC
        have hs8 := HE8.out.t.size
        clear HE6 hc6 hO8 hc8
        cases u8 with
        | true =>
          go_wp2_with (at_builtin; refine wpList_append_own _ rfl _ _ 23 rfl w.heap.size 9 i0 (.string ⟨#[]⟩) 1 16 Tryd.underlying23 hi hz0 hz1 hz2 rfl (by decide) _ _ _ rfl (World.ownsRow.alloc HE8.out.own _) ⟨w8.heap.size, 0, none⟩ 1 1 [.string s6] rfl rfl (cells_one _ _) (fun x hx => by simp at hx; subst hx; rfl) (by unfold maxLen; omega) (by omega) (by simp; omega) ?_; intro v' w9 hown' hgrow9 _)
          have HE9 : Hid (Ns w w9 C a len cap n8 v' (l ++ [s6])) := HE8.out.app (ows_app (m := [s6]) rfl hown') hgrow9 (fun s hs => by simp at hs; subst hs; exact hs6) hC
          obtain ⟨y, yc, ev, -⟩ := HE9.out.shape
          subst ev
          exact ⟨⟨l ++ [s6], R, n8, by go_num, by simp; omega, by omega, by omega, ⟨_, _, rfl⟩, HE9⟩, by simp [intOf]⟩
        | false =>
          go_wp2
          exact ⟨⟨l, R, n8, by go_num, by omega, by omega, by omega, ⟨_, _, rfl⟩, HE8⟩, by simp [intOf]⟩
      | false =>
        have HE8 : Hid (Ns w w6 C a len cap n6 (.slice x l.length c) l) := HE6.out
        have hs8 := HE8.out.t.size
        clear HE6 hc6
        go_wp2_with (at_builtin; refine wpList_append_own _ rfl _ _ 23 rfl w.heap.size 9 i0 (.string ⟨#[]⟩) 1 16 Tryd.underlying23 hi hz0 hz1 hz2 rfl (by decide) _ _ _ rfl (World.ownsRow.alloc HE8.out.own _) ⟨w6.heap.size, 0, none⟩ 1 1 [.string s6] rfl rfl (cells_one _ _) (fun x hx => by simp at hx; subst hx; rfl) (by unfold maxLen; omega) (by omega) (by simp; omega) ?_; intro v' w9 hown' hgrow9 _)
        have HE9 : Hid (Ns w w9 C a len cap n6 v' (l ++ [s6])) := HE8.out.app (ows_app (m := [s6]) rfl hown') hgrow9 (fun s hs => by simp at hs; subst hs; exact hs6) hC
        obtain ⟨y, yc, ev, -⟩ := HE9.out.shape
        subst ev
        exact ⟨⟨l ++ [s6], R, n6, by go_num, by simp; omega, by omega, by omega, ⟨_, _, rfl⟩, HE9⟩, by simp [intOf]⟩
    · have hR0 : R = 0 := by omega
      subst hR0
      go_wp2_with fail
      refine (pick_any C a len cap n5 30 _ HE.out.cur (by omega)).mono ?_
      rintro e w6 ⟨p6, n6, rfl, h60, h61, -, hn6, hc6, hO6⟩
      have HE6 : Hid (Ns w w6 C a len cap n6 (.slice x l.length c) l) := HE.out.step hc6 (tn_only hO6) hC
      have hs6 := HE6.out.t.size
      clear HE hO6 h61
      by_cases q0 : p6 = 0
      · subst q0
        have k1 := lit_of C a len cap n6 w6 hc6 (by omega) [⟨#[]⟩, ⟨#[97, 32, 98]⟩, ⟨#[97, 98, 99, 100, 101, 102, 103, 104, 105, 106, 107, 108, 109]⟩, ⟨#[120, 49]⟩, ⟨#[114, 101, 97, 99, 104]⟩, ⟨#[97, 118, 111, 105, 100]⟩, ⟨#[255]⟩, ⟨#[206, 182, 206, 182, 206, 182, 206, 182, 206, 182, 206, 182, 206, 182, 206, 182, 206, 182, 206, 182, 206, 182, 206, 182]⟩, ⟨#[206, 182, 206, 182, 206, 182, 206, 182, 206, 182, 206, 182, 206, 182, 206, 182, 206, 182, 206, 182, 206, 182, 206, 182, 206, 182]⟩] (by decide) (by decide) rfl
        simp only [List.map_cons, List.map_nil, List.length_cons, List.length_nil, Nat.zero_add, Nat.reduceAdd] at k1
        clear hc6
        go_wp2_with fail
        refine k1.mono ?_
        rintro e w7 ⟨s7, n7, rfl, hs7, hn7, hc7, hT7⟩
        have HE7 : Hid (Ns w w7 C a len cap n7 (.slice x l.length c) l) := HE6.out.step hc7 hT7 hC
        have hz7 := HE7.out.t.size
        clear k1 HE6 hc7 hT7
        go_wp2_with (at_builtin; refine wpList_append_own _ rfl _ _ 23 rfl w.heap.size 9 i0 (.string ⟨#[]⟩) 1 16 Tryd.underlying23 hi hz0 hz1 hz2 rfl (by decide) _ _ _ rfl (World.ownsRow.alloc HE7.out.own _) ⟨w7.heap.size, 0, none⟩ 1 1 [.string s7] rfl rfl (cells_one _ _) (fun x hx => by simp at hx; subst hx; rfl) (by unfold maxLen; omega) (by omega) (by simp; omega) ?_; intro v' w9 hown' hgrow9 _)
        have HE9 : Hid (Ns w w9 C a len cap n7 v' (l ++ [s7])) := HE7.out.app (ows_app (m := [s7]) rfl hown') hgrow9 (fun s hs => by simp at hs; subst hs; exact hs7) hC
        have HA := HE9.out.ans (n := n) (by simp; omega) (by omega)
        clear HE9 HE7
        go_wp2
        go_ret
        exact HA
      · by_cases q1 : p6 = 1
        · subst q1
          clear hc6
          have hN6 := cells_lit w6 [⟨#[112]⟩, ⟨#[113]⟩, ⟨#[114]⟩, ⟨#[115]⟩, ⟨#[116]⟩, ⟨#[117]⟩]
          simp only [List.map_cons, List.map_nil] at hN6
          go_wp2_with (at_builtin; refine wpList_append_own _ rfl _ _ 23 rfl w.heap.size 9 i0 (.string ⟨#[]⟩) 1 16 Tryd.underlying23 hi hz0 hz1 hz2 rfl (by decide) _ _ _ rfl (World.ownsRow.alloc HE6.out.own _) ⟨w6.heap.size, 0, none⟩ 6 6 [.string ⟨#[112]⟩, .string ⟨#[113]⟩, .string ⟨#[114]⟩, .string ⟨#[115]⟩, .string ⟨#[116]⟩, .string ⟨#[117]⟩] rfl rfl hN6 (by decide) (by unfold maxLen; omega) (by omega) (by simp; omega) ?_; intro v' w9 hown' hgrow9 _)
          have HE9 : Hid (Ns w w9 C a len cap n6 v' (l ++ [⟨#[112]⟩, ⟨#[113]⟩, ⟨#[114]⟩, ⟨#[115]⟩, ⟨#[116]⟩, ⟨#[117]⟩])) := HE6.out.app (ows_app (m := [⟨#[112]⟩, ⟨#[113]⟩, ⟨#[114]⟩, ⟨#[115]⟩, ⟨#[116]⟩, ⟨#[117]⟩]) rfl hown') hgrow9 (fun s hs => of_decide_eq_true (List.all_eq_true.1 (show ([⟨#[112]⟩, ⟨#[113]⟩, ⟨#[114]⟩, ⟨#[115]⟩, ⟨#[116]⟩, ⟨#[117]⟩] : List ByteArray).all (fun s => decide (s.size ≤ 1000)) = true from rfl) s hs)) hC
          have HA := HE9.out.ans (n := n) (by simp; omega) (by omega)
          clear HE9 HE6 hN6
          go_wp2
          go_ret
          exact HA
        · have e0 : (p6 == 0) = false := by simpa using q0
          have e1 : (p6 == 1) = false := by simpa using q1
          have HA := HE6.out.ans (n := n) (by omega) (by omega)
          clear HE6 hc6
          go_wp2
          go_ret
          exact HA
end Go.Proofs.YtmlfijapndkfhaaDoor
