/- A node by itself, as the program looks at it. -/
import Derived.Test.YtjefakfongehdabRRTrM
import Derived.Test.YtjefakfongehdabRRLqBase
namespace Go.Proofs.YtjefakfongehdabRR
open Go.RowKit
set_option maxHeartbeats 8000000 in
theorem iNode (X Y Z : Int) (w : World) : Calls Try.prog 47 #[.agg #[.int .i64 X, .int .i64 Y, .int .i64 Z]] w fun e w' => e = .returned (.bool (iNd X Y Z)) ∧ Below w.heap.size w w' := by
  have HB : Hid (Below w.heap.size w (w.alloc (.cells #[.int .i64 X, .int .i64 Y, .int .i64 Z] 72))) := (Below.refl _ _).alloc (Nat.le_refl _) _
  have HQ : Hid (iNd X Y Z = iNd X Y Z) := rfl
  generalize hQ : iNd X Y Z = Q at HQ ⊢
  clear HQ
  have HQ : Hid (Q = iNd X Y Z) := hQ.symm
  clear hQ
  by_cases x5 : X = 5
  · subst x5
    by_cases y0 : Y = 0
    · subst y0
      by_cases z0 : 0 ≤ Z
      · by_cases z1 : Z < 10
        · have hr : Q = true := by rw [HQ.out]; unfold iNd; simp <;> omega
          subst hr
          clear HQ
          go_enter Try.func47, Try.ntmps47
          go_wp2
          go_ret
          exact ⟨rfl, HB.out⟩
        · have hr : Q = false := by rw [HQ.out]; unfold iNd; simp <;> omega
          subst hr
          clear HQ
          go_enter Try.func47, Try.ntmps47
          go_wp2
          go_ret
          exact ⟨rfl, HB.out⟩
      · have hr : Q = false := by rw [HQ.out]; unfold iNd; simp <;> omega
        subst hr
        clear HQ
        go_enter Try.func47, Try.ntmps47
        go_wp2
        go_ret
        exact ⟨rfl, HB.out⟩
    · have y0' : (Y == 0) = false := by simpa using y0
      have hr : Q = false := by rw [HQ.out]; unfold iNd; simp <;> omega
      subst hr
      clear HQ
      go_enter Try.func47, Try.ntmps47
      go_wp2
      go_ret
      exact ⟨rfl, HB.out⟩
  · have x5' : (X == 5) = false := by simpa using x5
    by_cases x3 : X = 3
    · subst x3
      by_cases y0 : Y = 1
      · subst y0
        by_cases hz : Z = 0
        · subst hz
          have hr : Q = true := by rw [HQ.out]; unfold iNd; simp <;> omega
          subst hr
          clear HQ
          go_enter Try.func47, Try.ntmps47
          go_wp2
          go_ret
          exact ⟨rfl, HB.out⟩
        · have hz' : (Z == 0) = false := by simpa using hz
          have hr : Q = false := by rw [HQ.out]; unfold iNd; simp <;> omega
          subst hr
          clear HQ
          go_enter Try.func47, Try.ntmps47
          go_wp2
          go_ret
          exact ⟨rfl, HB.out⟩
      · have y0' : (Y == 1) = false := by simpa using y0
        have hr : Q = false := by rw [HQ.out]; unfold iNd; simp <;> omega
        subst hr
        clear HQ
        go_enter Try.func47, Try.ntmps47
        go_wp2
        go_ret
        exact ⟨rfl, HB.out⟩
    · have x3' : (X == 3) = false := by simpa using x3
      by_cases x1 : X = 1
      · subst x1
        by_cases y0 : 0 < Y
        · by_cases y1 : Y < 24
          · by_cases hz : Z = 0
            · subst hz
              have hr : Q = true := by rw [HQ.out]; unfold iNd; simp <;> omega
              subst hr
              clear HQ
              go_enter Try.func47, Try.ntmps47
              go_wp2
              go_ret
              exact ⟨rfl, HB.out⟩
            · have hz' : (Z == 0) = false := by simpa using hz
              have hr : Q = false := by rw [HQ.out]; unfold iNd; simp <;> omega
              subst hr
              clear HQ
              go_enter Try.func47, Try.ntmps47
              go_wp2
              go_ret
              exact ⟨rfl, HB.out⟩
          · have hr : Q = false := by rw [HQ.out]; unfold iNd; simp <;> omega
            subst hr
            clear HQ
            go_enter Try.func47, Try.ntmps47
            go_wp2
            go_ret
            exact ⟨rfl, HB.out⟩
        · have hr : Q = false := by rw [HQ.out]; unfold iNd; simp <;> omega
          subst hr
          clear HQ
          go_enter Try.func47, Try.ntmps47
          go_wp2
          go_ret
          exact ⟨rfl, HB.out⟩
      · have x1' : (X == 1) = false := by simpa using x1
        by_cases x2 : X = 2
        · subst x2
          by_cases y0 : 0 < Y
          · by_cases y1 : Y < 24
            · by_cases hz : Z = 0
              · subst hz
                have hr : Q = true := by rw [HQ.out]; unfold iNd; simp <;> omega
                subst hr
                clear HQ
                go_enter Try.func47, Try.ntmps47
                go_wp2
                go_ret
                exact ⟨rfl, HB.out⟩
              · have hz' : (Z == 0) = false := by simpa using hz
                have hr : Q = false := by rw [HQ.out]; unfold iNd; simp <;> omega
                subst hr
                clear HQ
                go_enter Try.func47, Try.ntmps47
                go_wp2
                go_ret
                exact ⟨rfl, HB.out⟩
            · have hr : Q = false := by rw [HQ.out]; unfold iNd; simp <;> omega
              subst hr
              clear HQ
              go_enter Try.func47, Try.ntmps47
              go_wp2
              go_ret
              exact ⟨rfl, HB.out⟩
          · have hr : Q = false := by rw [HQ.out]; unfold iNd; simp <;> omega
            subst hr
            clear HQ
            go_enter Try.func47, Try.ntmps47
            go_wp2
            go_ret
            exact ⟨rfl, HB.out⟩
        · have x2' : (X == 2) = false := by simpa using x2
          by_cases x4 : X = 4
          · subst x4
            by_cases y0 : 0 < Y
            · by_cases y1 : Y < 24
              · by_cases hz : Z = 0
                · subst hz
                  have hr : Q = true := by rw [HQ.out]; unfold iNd; simp <;> omega
                  subst hr
                  clear HQ
                  go_enter Try.func47, Try.ntmps47
                  go_wp2
                  go_ret
                  exact ⟨rfl, HB.out⟩
                · have hz' : (Z == 0) = false := by simpa using hz
                  have hr : Q = false := by rw [HQ.out]; unfold iNd; simp <;> omega
                  subst hr
                  clear HQ
                  go_enter Try.func47, Try.ntmps47
                  go_wp2
                  go_ret
                  exact ⟨rfl, HB.out⟩
              · have hr : Q = false := by rw [HQ.out]; unfold iNd; simp <;> omega
                subst hr
                clear HQ
                go_enter Try.func47, Try.ntmps47
                go_wp2
                go_ret
                exact ⟨rfl, HB.out⟩
            · have hr : Q = false := by rw [HQ.out]; unfold iNd; simp <;> omega
              subst hr
              clear HQ
              go_enter Try.func47, Try.ntmps47
              go_wp2
              go_ret
              exact ⟨rfl, HB.out⟩
          · have x4' : (X == 4) = false := by simpa using x4
            have hr : Q = false := by rw [HQ.out]; unfold iNd; rw [if_neg (by omega), if_neg (by omega), if_neg (by omega)]
            subst hr
            clear HQ
            go_enter Try.func47, Try.ntmps47
            go_wp2
            go_ret
            exact ⟨rfl, HB.out⟩
end Go.Proofs.YtjefakfongehdabRR
