/- Which cells a line meets, as the specification says it. -/
import Derived.Test.YtfciecoigfnnhaaQSzHv
import Derived.Deep.Cut
import Derived.Deep.CutRange
namespace Go.Proofs.Ytfciecoigfnnhaa
open Go.RowKit

set_option maxHeartbeats 4000000 in
theorem sMeets (x1 y1 x2 y2 cx cy : Int) (w : World) (hx : 0 ≤ cx ∧ cx ≤ 15) (hy : 0 ≤ cy ∧ cy ≤ 15)
    (hx1 : 0 ≤ x1 ∧ x1 ≤ 30) (hy1 : 0 ≤ y1 ∧ y1 ≤ 30) (hx2 : 0 ≤ x2 ∧ x2 ≤ 30) (hy2 : 0 ≤ y2 ∧ y2 ≤ 30) :
    Calls Try.prog 92 #[.int .i64 x1, .int .i64 y1, .int .i64 x2, .int .i64 y2, .int .i64 cx, .int .i64 cy] w fun e w' => e = .returned (.bool (metB x1 y1 x2 y2 cx cy)) ∧ Below w.heap.size w w' := by
  have hsd : ∀ k, -1 ≤ sdV cx k ∧ sdV cx k ≤ 31 := sdV_le hx.1 hx.2
  have hse : ∀ k, -1 ≤ sdV cy k ∧ sdV cy k ≤ 31 := sdV_le hy.1 hy.2
  have HS : Hid _ := hsd
  have HE : Hid _ := hse
  clear hsd hse
  go_enter Try.func92, Try.ntmps92
  go_upto_region 5 with fail
  go_cut [75] from 38 to 75 (fun s wx => s = .bool (outB x1 y1 x2 y2 cx cy) ∧ wx = w)
  case first =>
    by_cases a0 : x1 < 2 * cx - 1
    · by_cases b0 : x2 < 2 * cx - 1
      · skip
        have e : outB x1 y1 x2 y2 cx cy = true := by simp [outB]; omega
        go_wp2
        go_meet
        case rel => exact ⟨by rw [e], rfl⟩
      · skip
        by_cases a1 : 2 * cx + 1 < x1
        · by_cases b1 : 2 * cx + 1 < x2
          · skip
            have e : outB x1 y1 x2 y2 cx cy = true := by simp [outB]; omega
            go_wp2
            go_meet
            case rel => exact ⟨by rw [e], rfl⟩
          · skip
            by_cases a2 : y1 < 2 * cy - 1
            · by_cases b2 : y2 < 2 * cy - 1
              · skip
                have e : outB x1 y1 x2 y2 cx cy = true := by simp [outB]; omega
                go_wp2
                go_meet
                case rel => exact ⟨by rw [e], rfl⟩
              · skip
                by_cases a3 : 2 * cy + 1 < y1
                · by_cases b3 : 2 * cy + 1 < y2
                  · skip
                    have e : outB x1 y1 x2 y2 cx cy = true := by simp [outB]; omega
                    go_wp2
                    go_meet
                    case rel => exact ⟨by rw [e], rfl⟩
                  · skip
                    have e : outB x1 y1 x2 y2 cx cy = false := by simp [outB]; omega
                    go_wp2
                    go_meet
                    case rel => exact ⟨by rw [e], rfl⟩
                · skip
                  have e : outB x1 y1 x2 y2 cx cy = false := by simp [outB]; omega
                  go_wp2
                  go_meet
                  case rel => exact ⟨by rw [e], rfl⟩
            · skip
              by_cases a3 : 2 * cy + 1 < y1
              · by_cases b3 : 2 * cy + 1 < y2
                · skip
                  have e : outB x1 y1 x2 y2 cx cy = true := by simp [outB]; omega
                  go_wp2
                  go_meet
                  case rel => exact ⟨by rw [e], rfl⟩
                · skip
                  have e : outB x1 y1 x2 y2 cx cy = false := by simp [outB]; omega
                  go_wp2
                  go_meet
                  case rel => exact ⟨by rw [e], rfl⟩
              · skip
                have e : outB x1 y1 x2 y2 cx cy = false := by simp [outB]; omega
                go_wp2
                go_meet
                case rel => exact ⟨by rw [e], rfl⟩
        · skip
          by_cases a2 : y1 < 2 * cy - 1
          · by_cases b2 : y2 < 2 * cy - 1
            · skip
              have e : outB x1 y1 x2 y2 cx cy = true := by simp [outB]; omega
              go_wp2
              go_meet
              case rel => exact ⟨by rw [e], rfl⟩
            · skip
              by_cases a3 : 2 * cy + 1 < y1
              · by_cases b3 : 2 * cy + 1 < y2
                · skip
                  have e : outB x1 y1 x2 y2 cx cy = true := by simp [outB]; omega
                  go_wp2
                  go_meet
                  case rel => exact ⟨by rw [e], rfl⟩
                · skip
                  have e : outB x1 y1 x2 y2 cx cy = false := by simp [outB]; omega
                  go_wp2
                  go_meet
                  case rel => exact ⟨by rw [e], rfl⟩
              · skip
                have e : outB x1 y1 x2 y2 cx cy = false := by simp [outB]; omega
                go_wp2
                go_meet
                case rel => exact ⟨by rw [e], rfl⟩
          · skip
            by_cases a3 : 2 * cy + 1 < y1
            · by_cases b3 : 2 * cy + 1 < y2
              · skip
                have e : outB x1 y1 x2 y2 cx cy = true := by simp [outB]; omega
                go_wp2
                go_meet
                case rel => exact ⟨by rw [e], rfl⟩
              · skip
                have e : outB x1 y1 x2 y2 cx cy = false := by simp [outB]; omega
                go_wp2
                go_meet
                case rel => exact ⟨by rw [e], rfl⟩
            · skip
              have e : outB x1 y1 x2 y2 cx cy = false := by simp [outB]; omega
              go_wp2
              go_meet
              case rel => exact ⟨by rw [e], rfl⟩
    · skip
      by_cases a1 : 2 * cx + 1 < x1
      · by_cases b1 : 2 * cx + 1 < x2
        · skip
          have e : outB x1 y1 x2 y2 cx cy = true := by simp [outB]; omega
          go_wp2
          go_meet
          case rel => exact ⟨by rw [e], rfl⟩
        · skip
          by_cases a2 : y1 < 2 * cy - 1
          · by_cases b2 : y2 < 2 * cy - 1
            · skip
              have e : outB x1 y1 x2 y2 cx cy = true := by simp [outB]; omega
              go_wp2
              go_meet
              case rel => exact ⟨by rw [e], rfl⟩
            · skip
              by_cases a3 : 2 * cy + 1 < y1
              · by_cases b3 : 2 * cy + 1 < y2
                · skip
                  have e : outB x1 y1 x2 y2 cx cy = true := by simp [outB]; omega
                  go_wp2
                  go_meet
                  case rel => exact ⟨by rw [e], rfl⟩
                · skip
                  have e : outB x1 y1 x2 y2 cx cy = false := by simp [outB]; omega
                  go_wp2
                  go_meet
                  case rel => exact ⟨by rw [e], rfl⟩
              · skip
                have e : outB x1 y1 x2 y2 cx cy = false := by simp [outB]; omega
                go_wp2
                go_meet
                case rel => exact ⟨by rw [e], rfl⟩
          · skip
            by_cases a3 : 2 * cy + 1 < y1
            · by_cases b3 : 2 * cy + 1 < y2
              · skip
                have e : outB x1 y1 x2 y2 cx cy = true := by simp [outB]; omega
                go_wp2
                go_meet
                case rel => exact ⟨by rw [e], rfl⟩
              · skip
                have e : outB x1 y1 x2 y2 cx cy = false := by simp [outB]; omega
                go_wp2
                go_meet
                case rel => exact ⟨by rw [e], rfl⟩
            · skip
              have e : outB x1 y1 x2 y2 cx cy = false := by simp [outB]; omega
              go_wp2
              go_meet
              case rel => exact ⟨by rw [e], rfl⟩
      · skip
        by_cases a2 : y1 < 2 * cy - 1
        · by_cases b2 : y2 < 2 * cy - 1
          · skip
            have e : outB x1 y1 x2 y2 cx cy = true := by simp [outB]; omega
            go_wp2
            go_meet
            case rel => exact ⟨by rw [e], rfl⟩
          · skip
            by_cases a3 : 2 * cy + 1 < y1
            · by_cases b3 : 2 * cy + 1 < y2
              · skip
                have e : outB x1 y1 x2 y2 cx cy = true := by simp [outB]; omega
                go_wp2
                go_meet
                case rel => exact ⟨by rw [e], rfl⟩
              · skip
                have e : outB x1 y1 x2 y2 cx cy = false := by simp [outB]; omega
                go_wp2
                go_meet
                case rel => exact ⟨by rw [e], rfl⟩
            · skip
              have e : outB x1 y1 x2 y2 cx cy = false := by simp [outB]; omega
              go_wp2
              go_meet
              case rel => exact ⟨by rw [e], rfl⟩
        · skip
          by_cases a3 : 2 * cy + 1 < y1
          · by_cases b3 : 2 * cy + 1 < y2
            · skip
              have e : outB x1 y1 x2 y2 cx cy = true := by simp [outB]; omega
              go_wp2
              go_meet
              case rel => exact ⟨by rw [e], rfl⟩
            · skip
              have e : outB x1 y1 x2 y2 cx cy = false := by simp [outB]; omega
              go_wp2
              go_meet
              case rel => exact ⟨by rw [e], rfl⟩
          · skip
            have e : outB x1 y1 x2 y2 cx cy = false := by simp [outB]; omega
            go_wp2
            go_meet
            case rel => exact ⟨by rw [e], rfl⟩
  case rest =>
    obtain ⟨rfl, hw⟩ := hcut
    have hs := hw.symm
    clear hw
    subst hs
    cases e : outB x1 y1 x2 y2 cx cy with
    | true =>
      have e0 : metB x1 y1 x2 y2 cx cy = false := by simp [metB, e]
      go_wp2
      go_ret
      exact ⟨ret_bool e0.symm, Below.refl _ _⟩
    | false =>
      have e0 : metB x1 y1 x2 y2 cx cy = (decide (cPos (crV x1 y1 x2 y2 cx cy) 4 < 4) && decide (cNeg (crV x1 y1 x2 y2 cx cy) 4 < 4)) := by simp [metB, e]
      have E0 : Hid _ := e0
      clear e0 e
      have hl := lit_ip w [2 * cx - 1, 2 * cx + 1] 3
      have hb1 : Below w.heap.size w (w.alloc (.cells #[.int .i64 (2 * cx - 1), .int .i64 (2 * cx + 1)] 3)) := (Below.refl _ _).alloc (Nat.le_refl _) _
      have x0 : (w.alloc (.cells #[.int .i64 (2 * cx - 1), .int .i64 (2 * cx + 1)] 3)).cell? ⟨w.heap.size, 0, none⟩ = some (.int .i64 (sdV cx 0)) := hl.c 0 (by simp)
      have x1' : (w.alloc (.cells #[.int .i64 (2 * cx - 1), .int .i64 (2 * cx + 1)] 3)).cell? ⟨w.heap.size, 1, none⟩ = some (.int .i64 (sdV cx 1)) := hl.c 1 (by simp)
      have XL : Hid (∀ k, k < 2 → (w.alloc (.cells #[.int .i64 (2 * cx - 1), .int .i64 (2 * cx + 1)] 3)).cell? ⟨w.heap.size, k, none⟩ = some (.int .i64 (sdV cx k))) := fun k hk => (by
        have : k = 0 ∨ k = 1 := by omega
        rcases this with rfl | rfl
        · exact x0
        · exact x1')
      have hlt1 : w.heap.size < (w.alloc (.cells #[.int .i64 (2 * cx - 1), .int .i64 (2 * cx + 1)] 3)).heap.size := by simp
      clear x0 x1' hl
      go_wp2
      generalize w.heap.size = B1 at XL hlt1 ⊢
      generalize w.alloc (.cells #[.int .i64 (2 * cx - 1), .int .i64 (2 * cx + 1)] 3) = w1 at XL hlt1 hb1 ⊢
      have hcp := cPos_le (crV x1 y1 x2 y2 cx cy)
      have hcn := cNeg_le (crV x1 y1 x2 y2 cx cy)
      have hst : ∀ k, (cPos (crV x1 y1 x2 y2 cx cy) (k + 1) = cPos (crV x1 y1 x2 y2 cx cy) k + if 0 < crV x1 y1 x2 y2 cx cy k then 1 else 0) ∧ (cNeg (crV x1 y1 x2 y2 cx cy) (k + 1) = cNeg (crV x1 y1 x2 y2 cx cy) k + if crV x1 y1 x2 y2 cx cy k < 0 then 1 else 0) := fun k => ⟨rfl, rfl⟩
      have hcr : ∀ k j, j < 2 → crV x1 y1 x2 y2 cx cy (2 * k + j) = (x2 - x1) * (sdV cy j - y1) - (y2 - y1) * (sdV cx k - x1) := fun k j hj => (by
        have q1 : (2 * k + j) % 2 = j := by omega
        have q2 : (2 * k + j) / 2 = k := by omega
        unfold crV; rw [q1, q2])
      have z0 : cPos (crV x1 y1 x2 y2 cx cy) 0 = 0 := rfl
      have z1 : cNeg (crV x1 y1 x2 y2 cx cy) 0 = 0 := rfl
      generalize crV x1 y1 x2 y2 cx cy = s at E0 hcp hcn hst hcr z0 z1
      have HP : Hid _ := hcp
      have HN : Hid _ := hcn
      have HT : Hid _ := hst
      have HC : Hid _ := hcr
      clear hcp hcn hst hcr
      go_loopw [19, 20, 86] (fun va vb vi wr => ∃ k : Nat, k ≤ 2 ∧ vi = .int .i64 k ∧ va = .int .i64 (cPos s (2 * k)) ∧ vb = .int .i64 (cNeg s (2 * k)) ∧ Below w1.heap.size w1 wr) (fun _ _ vi _ => 2 - (intOf vi).toNat)
      case atStart => exact ⟨0, by omega, rfl, by rw [z0], by rw [z1], Below.refl _ _⟩
      case round =>
        obtain ⟨k, hk, rfl, rfl, rfl, hbel⟩ := hrel
        clear z0 z1
        by_cases hlt : k < 2
        · have y0 := (hbel.cell (p := ⟨B1, k, none⟩) hlt1).trans (XL.out k hlt)
          have hl := lit_ip wr [2 * cy - 1, 2 * cy + 1] 3
          have YL : Hid (∀ j, j < 2 → (wr.alloc (.cells #[.int .i64 (2 * cy - 1), .int .i64 (2 * cy + 1)] 3)).cell? ⟨wr.heap.size, j, none⟩ = some (.int .i64 (sdV cy j))) := fun j hj => (by
            have : j = 0 ∨ j = 1 := by omega
            rcases this with rfl | rfl
            · exact hl.c 0 (by simp)
            · exact hl.c 1 (by simp))
          have hb2 : Below w1.heap.size w1 (wr.alloc (.cells #[.int .i64 (2 * cy - 1), .int .i64 (2 * cy + 1)] 3)) := hbel.alloc hbel.size _
          have i0 : (0 : Int) ≤ (k : Int) := by omega
          have i1 : (k : Int) < 2 := by omega
          clear hl hbel
          go_wp2
          generalize wr.alloc (.cells #[.int .i64 (2 * cy - 1), .int .i64 (2 * cy + 1)] 3) = w2 at YL hb2 ⊢
          clear y0
          have h1x := HS.out k
          generalize wr.heap.size = B2 at YL ⊢
          go_loopw [19, 20, 94] (fun va vb vi wx => ∃ j : Nat, j ≤ 2 ∧ vi = .int .i64 j ∧ va = .int .i64 (cPos s (2 * k + j)) ∧ vb = .int .i64 (cNeg s (2 * k + j)) ∧ wx = w2) (fun _ _ vi _ => 2 - (intOf vi).toNat)
          case atStart => exact ⟨0, by omega, rfl, rfl, rfl, rfl⟩
          case round =>
            obtain ⟨j, hj, rfl, rfl, rfl, hwx⟩ := hrel
            have hs := hwx.symm
            clear hwx
            subst hs
            by_cases hlj : j < 2
            · have y1' := YL.out j hlj
              have h2x := HE.out j
              have hp := HP.out (2 * k + j)
              have hq := HN.out (2 * k + j)
              have ht := HT.out (2 * k + j)
              have hc := HC.out k j hlj
              have j0 : (0 : Int) ≤ (j : Int) := by omega
              have j1 : (j : Int) < 2 := by omega
              generalize sdV cx k = X at *
              generalize sdV cy j = Y at y1' h2x hc
              have m1 := mul_100 (a := x2 - x1) (b := Y - y1) (by omega) (by omega) (by omega) (by omega)
              have m2 := mul_100 (a := y2 - y1) (b := X - x1) (by omega) (by omega) (by omega) (by omega)
              obtain ⟨t1, t2⟩ := ht
              have e2 : 2 * k + (j + 1) = 2 * k + j + 1 := by omega
              have T1 : Hid (cPos s (2 * k + (j + 1)) = cPos s (2 * k + j) + if 0 < s (2 * k + j) then 1 else 0) := (by rw [e2]; exact t1 : _ = _)
              have T2 : Hid (cNeg s (2 * k + (j + 1)) = cNeg s (2 * k + j) + if s (2 * k + j) < 0 then 1 else 0) := (by rw [e2]; exact t2 : _ = _)
              rw [hc] at T1 T2
              clear t1 t2 hc e2 YL HS HE
              generalize cPos s (2 * k + j) = A at *
              generalize cNeg s (2 * k + j) = C at *
              by_cases p1 : 0 < (x2 - x1) * (Y - y1) - (y2 - y1) * (X - x1)
              · have p2 : ¬ (x2 - x1) * (Y - y1) - (y2 - y1) * (X - x1) < 0 := by omega
                go_wp2
                exact ⟨⟨j + 1, by omega, by go_num, by rw [T1.out, if_pos p1], by rw [T2.out, if_neg p2, Int.add_zero], trivial⟩, by simp [intOf]; omega⟩
              · by_cases p2 : (x2 - x1) * (Y - y1) - (y2 - y1) * (X - x1) < 0
                · go_wp2
                  exact ⟨⟨j + 1, by omega, by go_num, by rw [T1.out, if_neg p1, Int.add_zero], by rw [T2.out, if_pos p2], trivial⟩, by simp [intOf]; omega⟩
                · go_wp2
                  exact ⟨⟨j + 1, by omega, by go_num, by rw [T1.out, if_neg p1, Int.add_zero], by rw [T2.out, if_neg p2, Int.add_zero], trivial⟩, by simp [intOf]; omega⟩
            · have hj2 : j = 2 := by omega
              subst hj2
              clear YL
              go_wp2
              exact ⟨⟨k + 1, by omega, by go_num, rfl, rfl, hb2⟩, by simp [intOf]; omega⟩
        · have hk2 : k = 2 := by omega
          subst hk2
          have hB := hb1.trans (hbel.mono hb1.size)
          clear XL
          generalize cPos s (2 * 2) = A at *
          generalize cNeg s (2 * 2) = C at *
          by_cases p1 : A < 4
          · go_wp2
            go_ret
            exact ⟨ret_bool (by rw [E0.out]; simp [p1]), hB⟩
          · go_wp2
            go_ret
            exact ⟨ret_bool (by rw [E0.out]; simp; omega), hB⟩
end Go.Proofs.Ytfciecoigfnnhaa
