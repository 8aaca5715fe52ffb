/- The path of one trip, as the model finds it. -/
import Derived.Test.YtbndhhjgjalecaaDoorQCwPtM
import Derived.Test.YtbndhhjgjalecaaDoorQClNxS
import Derived.Test.YtbndhhjgjalecaaDoorQCwGtS
import Derived.Test.YtbndhhjgjalecaaDoorQCwTrip1
import Derived.BigQuiet
import Derived.Deep.CutBlock
import Derived.Deep.LoopGhost
namespace Go.Proofs.YtbndhhjgjalecaaDoor
open Go.RowKit

/-- what the path of a trip is told to be -/
def AnsPt (W : Int) (n : Nat) (f : Nat → Int) (R : Nat → Nat → Int) (J : Nat) (s t : Int) (T : Nat) (w w' : World) (e : Ending) : Prop :=
  (∃ (P : Nat → Int) (v : Option Addr) (cv : Nat), Bp W n f R J s t T P ∧ e = .returned (.tuple #[.slice v (T + 1) cv, .bool true]) ∧ LQ w' w.heap.size w'.heap.size v (T + 1) P) ∨ ((∀ P, ¬ Vp W n f R J s t T P) ∧ e = .returned (.tuple #[.slice none 0 0, .bool false]))
/-- one number more -/
theorem own_app {w9 wr w3 : World} {v v' : Value} {L : Nat} {P : Nat → Int} {x : Int} {o : Obj} (hB : Below w9.heap.size w9 wr) (ho : Own wr w9.heap.size v L P) (hn : w3.ownsRow w9.heap.size 3 1 v' (L + 1) (vL P L ++ [.int .i64 x])) (hg : (wr.alloc o).grownBy w3 v.ownBlock) : Own w3 w9.heap.size v' (L + 1) (put P L x) ∧ Below w9.heap.size w9 w3 :=
  ⟨own_put hn, (hB.alloc hB.size o).grown hg (by simp; have := hB.size; omega) (fun q hq => (World.ownsRow.lt ho q hq).1)⟩
/-- the length of a slice -/
def slen : Value → Nat
  | .slice _ n _ => n
  | _ => 0
theorem keepW {w : World} {tb M p u : Nat} {A B C v : Value} (h : w.cell? ⟨tb, M, none⟩ = some A ∧ w.cell? ⟨tb, M + 1, none⟩ = some B ∧ w.cell? ⟨tb + 1 + (M + 1), u, none⟩ = some C) : (w.setCell ⟨tb + 1 + M, p, none⟩ v).cell? ⟨tb, M, none⟩ = some A ∧ (w.setCell ⟨tb + 1 + M, p, none⟩ v).cell? ⟨tb, M + 1, none⟩ = some B ∧ (w.setCell ⟨tb + 1 + M, p, none⟩ v).cell? ⟨tb + 1 + (M + 1), u, none⟩ = some C := by
  have hO := (Only.refl (tb + 1 + M) w).set p v
  exact ⟨(cell_same (hO.block tb (by omega)) _).trans h.1, (cell_same (hO.block tb (by omega)) _).trans h.2.1, (cell_same (hO.block (tb + 1 + (M + 1)) (by omega)) _).trans h.2.2⟩
set_option maxRecDepth 20000 in
set_option maxHeartbeats 16000000 in
theorem sPath (W : Int) (a q : Option Addr) (n c J cq : Nat) (f : Nat → Int) (R : Nat → Nat → Int) (S E T : Nat) (w : World) (hs : sizedB W n = true) (hf : IL w a n f) (hJ : J ≤ 5) (hT : T ≤ 1000) (hS : S < n) (hE : E < n) (hS0 : f S = 0) (hE0 : f E = 0) (hR : RR w q J (fun _ => T + 1) R) :
    Calls Tryd.prog 40 #[cel W a n c, tpv (S : Int) (E : Int), .slice q J cq, .int .i64 (T : Int)] w fun e w' => AnsPt W n f R J (S : Int) (E : Int) T w w' e ∧ Below w.heap.size w w' := by
  have hN := sized_le hs
  have b0 := bx_new (w := w) (celL W a n c) 25 rfl
  have b1 := bx_new (w := w.alloc (celO W a n c 25)) (b := w.heap.size + 1) [.int .i64 (S : Int), .int .i64 (E : Int)] 34 (by simp)
  have hb2 : Below w.heap.size w ((w.alloc (celO W a n c 25)).alloc (.cells #[.int .i64 (S : Int), .int .i64 (E : Int)] 34)) :=
    ((Below.refl w.heap.size w).alloc (Nat.le_refl _) _).alloc (by simp) _
  have c0 := b0.alloc (.cells #[.int .i64 (S : Int), .int .i64 (E : Int)] 34)
  have x1 := c0.c1
  have hf2 := hf.below hb2
  have hR2 := hR.below hb2
  go_enter Tryd.func40, Tryd.ntmps40
  go_upto_block 0 with fail
  clear x1 b0 hf hR
  generalize (w.alloc (celO W a n c 25)).alloc (.cells #[.int .i64 (S : Int), .int .i64 (E : Int)] 34) = w2 at *
  have y0 := b1.c0
  have y1 := b1.c1
  go_cut [11] from 29 to 42 (fun i wx => ∃ m : Nat, i = .int .i64 (m : Int) ∧ Sy R J (E : Int) T m ∧ wx = w2)
  case first =>
    go_wp2_with fail
    go_loopw [11] (fun i wr => ∃ m : Nat, i = .int .i64 (m : Int) ∧ m ≤ T + 1 ∧ Hid (∀ k, m ≤ k → k ≤ T → nhB R k (E : Int) (E : Int) J = true) ∧ wr = w2) (fun i _ => (intOf i).toNat)
    case atStart => exact ⟨T + 1, by go_num, Nat.le_refl _, fun k h1 h2 => by omega, rfl⟩
    case round =>
      obtain ⟨m, rfl, hm, HM, hw⟩ := hrel
      have hw' := hw.symm
      clear hw
      subst hw'
      have hsy : (m = 0 ∨ nhB R (m - 1) (E : Int) (E : Int) J = false) → Sy R J (E : Int) T m := fun h => ⟨hm, HM.out, fun h0 => h.resolve_left (by omega)⟩
      by_cases hgo : 0 < m ∧ nhB R (m - 1) (E : Int) (E : Int) J = true
      · obtain ⟨M, rfl⟩ : ∃ M, m = M + 1 := ⟨m - 1, by omega⟩
        have hnh := hgo.2
        rw [Nat.add_sub_cancel] at hnh
        have kF := sFreeP q J cq T R M (E : Int) (E : Int) w2 (by omega) (by omega) (by omega) hR2
        rw [hnh] at kF
        have HM2 : Hid (∀ k, M ≤ k → k ≤ T → nhB R k (E : Int) (E : Int) J = true) := fun k h1 h2 => by
          by_cases e : k = M
          · subst e; exact hnh
          · exact HM.out k (by omega) h2
        have m1 : IntKind.i64.wrap (M : Int) = (M : Int) := IntWalk.i64_in _ (by omega)
        clear hsy hgo HM hnh
        go_wp2_with (first | (go_at_call 69; with_reducible refine kF.mono ?_; rintro e w9 ⟨rfl, hw9⟩; have hs' := hw9.symm; clear hw9; subst hs') | (fail))
        exact ⟨⟨M, by go_num, by omega, HM2, trivial⟩, by simp [intOf]⟩
      · have hst : Sy R J (E : Int) T m := hsy (by
          by_cases e : m = 0
          · exact .inl e
          · right
            cases hh : nhB R (m - 1) (E : Int) (E : Int) J with
            | false => rfl
            | true => exact absurd ⟨by omega, hh⟩ hgo)
        have HST : Hid (Sy R J (E : Int) T m) := hst
        by_cases h0 : m = 0
        · subst h0
          clear hsy hgo hst HM
          go_wp2
          go_meet
          case rel => exact ⟨0, rfl, HST.out, rfl⟩
        · have hnh : nhB R (m - 1) (E : Int) (E : Int) J = false := hst.no (by omega)
          obtain ⟨M, rfl⟩ : ∃ M, m = M + 1 := ⟨m - 1, by omega⟩
          rw [Nat.add_sub_cancel] at hnh
          have kF := sFreeP q J cq T R M (E : Int) (E : Int) w2 (by omega) (by omega) (by omega) hR2
          rw [hnh] at kF
          have m1 : IntKind.i64.wrap (M : Int) = (M : Int) := IntWalk.i64_in _ (by omega)
          clear hsy hgo HM hnh hst
          go_wp2_with (first | (go_at_call 69; with_reducible refine kF.mono ?_; rintro e w9 ⟨rfl, hw9⟩; have hs' := hw9.symm; clear hw9; subst hs') | (fail))
          go_meet
          case rel => exact ⟨M + 1, by go_num, HST.out, rfl⟩
  case rest =>
    obtain ⟨st, rfl, hsy, hw⟩ := hcut
    have hw' := hw.symm
    clear hw
    subst hw'
    have hst := hsy.le
    have HSY : Hid (Sy R J (E : Int) T st) := hsy
    clear hsy
    go_wp2_with fail
    go_loopw [12] (fun i wr => ∃ e : Nat, i = .int .i64 (e : Int) ∧ st ≤ e ∧ e ≤ T + 1 ∧ Hid (nhB R 0 (S : Int) (S : Int) J = false ∨ ∀ e', st ≤ e' → e' < e → cnB W n f R J (E : Int) e' 0 (S : Int) = false) ∧ Below w2.heap.size w2 wr) (fun i _ => T + 1 - (intOf i).toNat)
    case atStart => exact ⟨st, rfl, Nat.le_refl _, hst, .inr fun e' h1 h2 => by omega, Below.refl _ _⟩
    case round =>
      obtain ⟨e, rfl, he0, he1, HE, hB⟩ := hrel
      by_cases hlt : e ≤ T
      case neg =>
        have heT : e = T + 1 := by omega
        subst heT
        have HR : Hid (∀ P, ¬ Vp W n f R J (S : Int) (E : Int) T P) := fun P => none_of HSY.out (HE.out.imp id fun h e' h1 h2 => h e' h1 (by omega)) P
        clear HE c0 b1 y0 y1
        go_wp2
        go_ret2
        exact ⟨.inr ⟨HR.out, rfl⟩, stepA hb2 hB⟩
      case pos =>
        have k0 := c0.on hB
        have k1 := b1.on hB
        clear y0 y1
        have y0 := k1.c0
        have y1 := k1.c1
        have hfR := hf2.below hB
        have hRR := hR2.below hB
        have i1 : (e : Int) ≤ (T : Int) := by omega
        have hmk := run_make_row' (P := Tryd.prog) 109 110 (.slice none 0 0) 24 Tryd.underlying109 infoBs rfl .i64 .i64 (e + 1) (by omega) (by omega)
        have hmk2 := run_make_row' (P := Tryd.prog) 110 4 (.bool false) 1 Tryd.underlying110 infoBl rfl .i64 .i64 n (by omega) (by omega)
        have hTm := tm_start wr (e + 1) n
        have hb3 : Below wr.heap.size wr (wr.alloc (.cells (madeCells #[.slice none 0 0] (e + 1)) 110)) := (Below.refl _ _).alloc (Nat.le_refl _) _
        have HTM : Hid (Tm (wr.alloc (.cells (madeCells #[.slice none 0 0] (e + 1)) 110)) wr.heap.size (e + 1) n 0) := hTm
        have hltb : w.heap.size + 1 < wr.heap.size := k1.lt
        clear hTm
        rw [show ((e + 1 : Nat) : Int) = (e : Int) + 1 by omega] at hmk
        obtain ⟨w4, hw4⟩ : ∃ w4, w4 = wr := ⟨wr, rfl⟩
        subst hw4
        go_wp2
        clear hmk
        go_loopw [54] (fun i wr => ∃ k : Nat, i = .int .i64 (k : Int) ∧ k ≤ e + 1 ∧ Hid (Tm wr w4.heap.size (e + 1) n k) ∧ Below w4.heap.size w4 wr) (fun i _ => e + 1 - (intOf i).toNat)
        case atStart => exact ⟨0, rfl, by omega, HTM, hb3⟩
        case round =>
          obtain ⟨k, rfl, hk, HT, hB4⟩ := hrel
          by_cases hlt3 : k < e + 1
          · have j0 : (0 : Int) ≤ (k : Int) := by omega
            have j1 : (k : Int) < (e : Int) + 1 := by omega
            have z0 : (wr.alloc (.cells (madeCells #[.bool false] n) 4)).cell? ⟨w4.heap.size, k, none⟩ = some (.slice none 0 0) := by
              have := (rowIs_below HT.out.rows ((Below.refl wr.heap.size wr).alloc (Nat.le_refl _) (.cells (madeCells #[.bool false] n) 4)) HT.out.rows.lt).cell hlt3
              simpa using this
            have z1 : (wr.alloc (.cells (madeCells #[.bool false] n) 4)).frozen? ⟨w4.heap.size, k, none⟩ = false := (rowIs_below HT.out.rows ((Below.refl wr.heap.size wr).alloc (Nat.le_refl _) (.cells (madeCells #[.bool false] n) 4)) HT.out.rows.lt).frozen k
            have HT2 : Hid (Tm ((wr.alloc (.cells (madeCells #[.bool false] n) 4)).setCell ⟨w4.heap.size, k, none⟩ (.slice (some ⟨wr.heap.size, 0, none⟩) n n)) w4.heap.size (e + 1) n (k + 1)) := HT.out.step
            have hB5 : Below w4.heap.size w4 ((wr.alloc (.cells (madeCells #[.bool false] n) 4)).setCell ⟨w4.heap.size, k, none⟩ (.slice (some ⟨wr.heap.size, 0, none⟩) n n)) := (hB4.alloc hB4.size _).setCell (p := ⟨w4.heap.size, k, none⟩) (Nat.le_refl _) _
            clear HT HTM
            go_wp2
            exact ⟨⟨k + 1, by go_num, by omega, HT2, hB5⟩, by simp [intOf]; omega⟩
          · have hke : k = e + 1 := by omega
            subst hke
            rw [show ((e + 1 : Nat) : Int) = (e : Int) + 1 by omega]
            have HTB : Hid (Tb wr w4.heap.size (e + 1) n fun _ _ => false) := HT.out.done
            clear HT HTM hmk2
            have g0 := HTB.out.row e (by omega)
            have g1 := HTB.out.c e E (by omega) hE
            have g2 := HTB.out.fz e E (by omega)
            have l1 := k1.on hB4
            clear y0 y1
            have y1 := l1.c1
            have j0 : (0 : Int) ≤ (e : Int) := by omega
            have j1 : (e : Int) < (e : Int) + 1 := by omega
            have j2 : (0 : Int) ≤ (E : Int) := by omega
            have j3 : (E : Int) < (n : Int) := by omega
            have HT4 : Hid (Tb (wr.setCell ⟨w4.heap.size + 1 + e, E, none⟩ (.bool true)).drew w4.heap.size (e + 1) n (D4 W n f R J (E : Int) e e)) := ((HTB.out.set (by omega) hE true).congr (d4_top hE hE0)).on ((Below.refl _ _).drew)
            have hB5 : Below w4.heap.size w4 (wr.setCell ⟨w4.heap.size + 1 + e, E, none⟩ (.bool true)).drew := (hB4.setCell (p := ⟨w4.heap.size + 1 + e, E, none⟩) (by simp; omega) _).drew
            go_wp2_with fail
            go_region
            go_wp2_with fail
            clear g0 g1 g2 l1 y1 HTB hB4
            generalize (wr.setCell ⟨w4.heap.size + 1 + e, E, none⟩ (.bool true)).drew = w5 at *
            go_loopw [15] (fun i wr => ∃ m : Nat, i = .int .i64 ((m : Int) - 1) ∧ m ≤ e ∧ Hid (Tb wr w4.heap.size (e + 1) n (D4 W n f R J (E : Int) e m)) ∧ Below w4.heap.size w4 wr) (fun i _ => (intOf i + 1).toNat)
            case atStart => exact ⟨e, by go_num, Nat.le_refl _, HT4, hB5⟩
            case round =>
              obtain ⟨m, rfl, hm, HT5, hB6⟩ := hrel
              clear HT4 hB5
              by_cases hm0 : m = 0
              case pos =>
                subst hm0
                rw [show ((0 : Nat) : Int) - 1 = -1 by omega]
                have g0 := HT5.out.row 0 (by omega)
                have g1 := HT5.out.c 0 S (by omega) hS
                have hfS : frB n f (S : Int) = true := frB_mk ⟨by omega, by omega, by simpa using hS0⟩
                rw [d4_zero hfS, Nat.sub_zero] at g1
                simp only [Nat.add_zero] at g0 g1
                have l1 := k1.on hB6
                have y0 := l1.c0
                have s0 : (0 : Int) ≤ (S : Int) := by omega
                have s1 : (S : Int) < (n : Int) := by omega
                have e1 : (0 : Int) < (e : Int) + 1 := by omega
                have hR6 := hRR.below hB6
                have kF : ∀ w', RR w' q J (fun _ => T + 1) R → Calls Tryd.prog 69 #[.slice q J cq, .int .i64 0, .int .i64 (S : Int), .int .i64 (S : Int)] w' fun e w'' => e = .returned (.bool (nhB R 0 (S : Int) (S : Int) J)) ∧ w'' = w' := fun w' h => sFreeP q J cq T R 0 (S : Int) (S : Int) w' (by omega) (by omega) (by omega) h
                have HX0 : Hid (cnB W n f R J (E : Int) e 0 (S : Int) = false → (nhB R 0 (S : Int) (S : Int) J = false ∨ ∀ e', st ≤ e' → e' < e + 1 → cnB W n f R J (E : Int) e' 0 (S : Int) = false)) := fun h => HE.out.imp id fun h2 e' h3 h4 => by
                  by_cases h5 : e' = e
                  · subst h5; exact h
                  · exact h2 e' h3 (by omega)
                have HX1 : Hid (nhB R 0 (S : Int) (S : Int) J = true → cnB W n f R J (E : Int) e 0 (S : Int) = true → ∀ P, Gd W n f R J (S : Int) (E : Int) e P e → (∀ k, e ≤ k → k ≤ T → P k = (E : Int)) → Bp W n f R J (S : Int) (E : Int) T P) := fun h1 h2 P h3 h4 => best_of hs (by omega) HSY.out he0 hlt h1 (fun e' h5 h6 => (HE.out.resolve_left (by rw [h1]; simp)) e' h5 h6) h3 h4
                cases hX : cnB W n f R J (E : Int) e 0 (S : Int) with
                | false =>
                  rw [hX] at g1
                  have HR : Hid (nhB R 0 (S : Int) (S : Int) J = false ∨ ∀ e', st ≤ e' → e' < e + 1 → cnB W n f R J (E : Int) e' 0 (S : Int) = false) := HX0.out hX
                  clear HX0 HX1 hX HE
                  obtain ⟨w9, hw9⟩ : ∃ w9, w9 = wr := ⟨wr, rfl⟩
                  subst hw9
                  go_wp2_with fail
                  go_quiet (fail)
                  go_wp2_with fail
                  go_roundw
                  case rel => exact ⟨e + 1, by go_num, by omega, by omega, HR, stepA hB (below_dr hB6 _)⟩
                  case measure => simp [intOf]; omega
                | true =>
                  cases hZ : nhB R 0 (S : Int) (S : Int) J with
                  | false =>
                    rw [hX] at g1
                    rw [hZ] at kF
                    have HR : Hid (nhB R 0 (S : Int) (S : Int) J = false ∨ ∀ e', st ≤ e' → e' < e + 1 → cnB W n f R J (E : Int) e' 0 (S : Int) = false) := .inl hZ
                    clear HX0 HX1 hX HE hZ
                    obtain ⟨w9, hw9⟩ : ∃ w9, w9 = wr := ⟨wr, rfl⟩
                    subst hw9
                    go_wp2_with fail
                    go_quiet ((go_at_call 69; exact Calls.quiet_of_same (kF _ (hR6.below (below_dr (Below.refl _ _) _)))))
                    go_wp2_with fail
                    go_roundw
                    case rel => exact ⟨e + 1, by go_num, by omega, by omega, HR, stepA hB (below_dr hB6 _)⟩
                    case measure => simp [intOf]; omega
                  | true =>
                    rw [hX] at g1
                    rw [hZ] at kF
                    have HBE := HX1.out hZ hX
                    have HBE' : Hid (∀ P, Gd W n f R J (S : Int) (E : Int) e P e → (∀ k, e ≤ k → k ≤ T → P k = (E : Int)) → Bp W n f R J (S : Int) (E : Int) T P) := HBE
                    have HCN : Hid (cnB W n f R J (E : Int) e 0 (S : Int) = true) := hX
                    clear HX0 HX1 hX HE hZ HBE
                    go_wp2_with fail
                    go_quiet ((go_at_call 69; exact Calls.quiet_of_same (kF _ (hR6.below (below_dr (Below.refl _ _) _)))))
                    have HT9 : Hid (Tb (wr.drewN nq) w4.heap.size (e + 1) n (D4 W n f R J (E : Int) e 0)) := HT5.out.on (below_dr (Below.refl _ _) _)
                    have hB9 : Below w4.heap.size w4 (wr.drewN nq) := below_dr hB6 _
                    have l9 : Bx (wr.drewN nq) (w.heap.size + 1) [.int .i64 (S : Int), .int .i64 (E : Int)] := k1.on hB9
                    clear kF y0 l1 g0 g1 HT5 hR6 hB6
                    generalize wr.drewN nq = w9 at *
                    have y9 := l9.c0
                    have HO0 : Hid (Own (w9.alloc (.cells #[.int .i64 (S : Int)] 3)) w9.heap.size (.slice (some ⟨w9.heap.size, 0, none⟩) 1 1) 1 (fun _ => (S : Int))) := own_lit1 w9 w9.heap.size (S : Int) (fun _ => (S : Int)) rfl (Nat.le_refl _)
                    have hBA : Below w9.heap.size w9 (w9.alloc (.cells #[.int .i64 (S : Int)] 3)) := (Below.refl _ _).alloc (Nat.le_refl _) _
                    have HG0 : Hid (Gd W n f R J (S : Int) (E : Int) e (fun _ => (S : Int)) 0) := ⟨rfl, fun k hk => by omega⟩
                    have hR9 := hRR.below hB9
                    have hf9 := hfR.below hB9
                    have l0 := k0.on hB9
                    go_wp2
                    clear y9
                    go_loopw [19, 20] (fun v i wx => ∃ (K : Nat) (P : Nat → Int), i = .int .i64 ((K : Int) + 1) ∧ K ≤ e ∧ Own wx w9.heap.size v (K + 1) P ∧ Hid (Gd W n f R J (S : Int) (E : Int) e P K) ∧ Below w9.heap.size w9 wx) (fun _ i _ => e + 1 - (intOf i).toNat)
                    case atStart => exact ⟨0, _, rfl, by omega, HO0.out, HG0, hBA⟩
                    case round =>
                      obtain ⟨K, P, rfl, hK, hown, HG, hB10⟩ := hrel
                      clear HO0 HG0 hBA
                      by_cases hKe : K < e
                      case neg =>
                        have hKE : K = e := by omega
                        subst hKE
                        have hPe : P K = (E : Int) := by
                          have h := HG.out.cn HCN.out K (Nat.le_refl _)
                          rw [Nat.sub_self] at h
                          simpa [cnB] using h
                        obtain ⟨sa, sc, rfl⟩ := hown.shape
                        have HO1 : Hid (Own wr w9.heap.size (.slice sa (K + 1) sc) (K + 1) P) := hown
                        have HP1 : Hid (∀ k, K ≤ k → k < K + 1 → P k = (E : Int)) := fun k h1 h2 => by
                          have : k = K := by omega
                          rw [this]; exact hPe
                        clear hown hPe
                        go_wp2_with fail
                        go_loopw [19] (fun v wx => ∃ (m : Nat) (P : Nat → Int) (sa : Option Addr) (sc : Nat), v = .slice sa m sc ∧ K + 1 ≤ m ∧ m ≤ T + 1 ∧ Hid (Own wx w9.heap.size (.slice sa m sc) m P) ∧ Hid (Gd W n f R J (S : Int) (E : Int) K P K) ∧ Hid (∀ k, K ≤ k → k < m → P k = (E : Int)) ∧ Below w9.heap.size w9 wx) (fun v _ => T + 1 - slen v)
                        case atStart => exact ⟨K + 1, P, sa, sc, rfl, Nat.le_refl _, by omega, HO1, HG, HP1, hB10⟩
                        case round =>
                          obtain ⟨m, P2, sb, sd, rfl, hm1, hm2, HO2, HG2, HP2, hB12⟩ := hrel
                          clear HO1 HP1 HG hB10
                          by_cases hmT : m ≤ T
                          case neg =>
                            have hmE : m = T + 1 := by omega
                            subst hmE
                            have HR : Hid (Bp W n f R J (S : Int) (E : Int) T P2) := HBE'.out P2 HG2.out fun k h1 h2 => HP2.out k h1 (by omega)
                            have hBz := stepA hb2 (stepA hB (stepA hB9 hB12))
                            have hBy := (stepA hb2 (stepA hB hB9)).size
                            have HQ : Hid (LQ wr w.heap.size wr.heap.size sb (T + 1) P2) := HO2.out.lq.wide hBy (Nat.le_refl _)
                            clear HO2 HG2 HP2 HBE'
                            go_wp2
                            go_ret2
                            exact ⟨.inl ⟨P2, sb, sd, HR.out, rfl, HQ.out⟩, hBz⟩
                          case pos =>
                            have y1 := (l9.on hB12).c1
                            have hbase : w9.heap.size ≤ wr.heap.size := hB12.size
                            obtain ⟨i0', hi, hzz⟩ := Option.map_eq_some_iff.1 infoI
                            simp only [Prod.mk.injEq] at hzz
                            obtain ⟨hz0, hz1, hz2⟩ := hzz
                            have mT : (m : Int) ≤ (T : Int) := by omega
                            have HG3 : Hid (Gd W n f R J (S : Int) (E : Int) K (put P2 m (E : Int)) K) := HG2.out.keep fun k hk => by unfold put; rw [if_neg (by omega)]
                            have HP3 : Hid (∀ k, K ≤ k → k < m + 1 → put P2 m (E : Int) k = (E : Int)) := fun k h1 h2 => by
                              unfold put
                              by_cases h3 : k = m
                              · rw [if_pos h3]
                              · rw [if_neg h3]; exact HP2.out k h1 (by omega)
                            clear HG2 HP2
                            go_wp2_with (at_builtin; refine wpList_append_own _ rfl _ _ 23 rfl w9.heap.size 3 i0' (.int .i64 0) 1 8 Tryd.underlying23 hi hz0 hz1 hz2 rfl (by decide) _ _ _ rfl (World.ownsRow.alloc HO2.out _) ⟨wr.heap.size, 0, none⟩ 1 1 [.int .i64 (E : Int)] rfl rfl (cell_one_new _ _ _) (fun x hx => by simp at hx; subst hx; rfl) (by unfold maxLen; omega) (by omega) (by simp; omega) ?_; intro v' w3 hown' hgrow3 _)
                            obtain ⟨hO3, hB13⟩ := own_app hB12 HO2.out hown' hgrow3
                            obtain ⟨s3, s4, rfl⟩ := hO3.shape
                            have HO3 : Hid (Own w3 w9.heap.size (.slice s3 (m + 1) s4) (m + 1) (put P2 m (E : Int))) := hO3
                            clear hO3 hown' hgrow3 hi hz0 hz1 hz2
                            try go_wp2_with fail
                            go_roundw
                            case rel => exact ⟨m + 1, _, s3, s4, rfl, by omega, by omega, HO3, HG3, HP3, hB13⟩
                            case measure => simp [slen]; omega
                      case pos =>
                        obtain ⟨p, hp, hpn, hp0⟩ := HG.out.inn hs hS hS0 K (Nat.le_refl _)
                        obtain ⟨q0, hq0⟩ := gd_next hKe (HG.out.cn HCN.out K (Nat.le_refl _))
                        have HSN : Hid (∀ u, (nbL W n f p).find? (fun q => cnB W n f R J (E : Int) (e - (K + 1)) (K + 1) q && nhB R (K + 1) (p : Int) q J) = some u → Gd W n f R J (S : Int) (E : Int) e (put P (K + 1) u) (K + 1)) := fun u hu => HG.out.snoc (by rw [hp, Int.toNat_natCast]; exact hu)
                        rw [hp, Int.toNat_natCast] at hq0
                        have HQ0 : Hid ((nbL W n f p).find? (fun q => cnB W n f R J (E : Int) (e - (K + 1)) (K + 1) q && nhB R (K + 1) (p : Int) q J) = some q0) := hq0
                        obtain ⟨g, cap, rfl, hg1, hgP⟩ := hown.some (by omega)
                        have z0 := hgP.c K (by omega)
                        rw [hp] at z0
                        have l10 := l0.on hB10
                        have x0 := l10.c0
                        have x1 := l10.c1
                        have j0 : (0 : Int) ≤ (K : Int) := by omega
                        have j1 : (K : Int) < (K : Int) + 1 := by omega
                        have j2 : (K : Int) + 1 ≤ (e : Int) := by omega
                        have j3 : IntKind.i64.wrap (K : Int) = (K : Int) := IntWalk.i64_in _ (by omega)
                        have kN := sNext W a n c f p wr (hf9.below hB10) hs hpn
                        have HOw : Hid (Own wr w9.heap.size (.slice (some ⟨g, 0, none⟩) (K + 1) cap) (K + 1) P) := hown
                        clear hown hgP hp hq0 HG
                        obtain ⟨w11, hw11⟩ : ∃ w11, w11 = wr := ⟨wr, rfl⟩
                        subst hw11
                        go_wp2_with (first | (go_at_call 44; refine kN.mono ?_; rintro e9 w10 ⟨⟨a9, c9, rfl, hL9⟩, hb10⟩) | (fail))
                        have hO10 := HOw.out.below hb10
                        have hB11 := stepA hB10 hb10
                        have HT10 : Hid (Tb w10 w4.heap.size (e + 1) n (D4 W n f R J (E : Int) e 0)) := HT9.out.on hB11
                        have hR10 := hR9.below hB11
                        have HGl : Hid (∀ j, j < (nbL W n f p).length → ∃ u : Nat, gl (nbL W n f p) j = (u : Int) ∧ u < n ∧ frB n f (u : Int) = true) := fun j hj => by
                          obtain ⟨u, hu, hst⟩ := nbL_get hj
                          have h1 := hst.lt hs hpn
                          have h2 := hst.free hs hp0
                          exact ⟨u, hu, h1, frB_mk ⟨by omega, by omega, by simpa using h2⟩⟩
                        have hlen := nbL_len W n f p
                        generalize nbL W n f p = G at *
                        have HL10 : Hid (IL w10 a9 G.length (gl G)) := hL9.il
                        have HO10 : Hid (Own w10 w9.heap.size (.slice (some ⟨g, 0, none⟩) (K + 1) cap) (K + 1) P) := hO10
                        clear hO10 hL9 hb10 HOw kN x0 x1 l10 z0 hB10
                        go_loopw [19, 159] (fun v i wx => ∃ j : Nat, v = .slice (some ⟨g, 0, none⟩) (K + 1) cap ∧ i = .int .i64 (j : Int) ∧ j ≤ G.length ∧ Hid (∀ i, i < j → (cnB W n f R J (E : Int) (e - (K + 1)) (K + 1) (gl G i) && nhB R (K + 1) (p : Int) (gl G i) J) = false) ∧ wx = w10) (fun _ i _ => G.length - (intOf i).toNat)
                        case atStart => exact ⟨0, rfl, rfl, Nat.zero_le _, fun i hi => by omega, rfl⟩
                        case round =>
                          obtain ⟨j, rfl, rfl, hj, HJ, hw⟩ := hrel
                          have hw' := hw.symm
                          clear hw
                          subst hw'
                          by_cases hjl : j < G.length
                          case neg =>
                            exfalso
                            have hje : j = G.length := by omega
                            have := find_not (g := fun q => cnB W n f R J (E : Int) (e - (K + 1)) (K + 1) q && nhB R (K + 1) (p : Int) q J) fun i hi => HJ.out i (by omega)
                            rw [HQ0.out] at this
                            cases this
                          case pos =>
                            obtain ⟨u, hu, huk, hfu⟩ := HGl.out j hjl
                            obtain ⟨nb, no, rfl, hnb, hnP⟩ := HL10.out (by omega)
                            have q1 := hnP j hjl
                            rw [hu] at q1
                            have g3 := HT10.out.row (K + 1) (by omega)
                            have g4 := HT10.out.c (K + 1) u (by omega) huk
                            rw [d4_zero hfu] at g4
                            have kF : Calls Tryd.prog 69 #[.slice q J cq, .int .i64 ((K : Int) + 1), .int .i64 (p : Int), .int .i64 (u : Int)] w10 fun e w' => e = .returned (.bool (nhB R (K + 1) (p : Int) (u : Int) J)) ∧ w' = w10 := sFreeP q J cq T R (K + 1) (p : Int) (u : Int) w10 (by omega) (by omega) (by omega) hR10
                            have i0 : (0 : Int) ≤ (j : Int) := by omega
                            have i1 : (j : Int) < (G.length : Int) := by omega
                            have i2 : (0 : Int) ≤ (u : Int) := by omega
                            have i3 : (u : Int) < (n : Int) := by omega
                            have i4 : (0 : Int) ≤ (K : Int) + 1 := by omega
                            have i5 : (K : Int) + 1 < (e : Int) + 1 := by omega
                            have HNX : Hid ((cnB W n f R J (E : Int) (e - (K + 1)) (K + 1) (u : Int) && nhB R (K + 1) (p : Int) (u : Int) J) = false → ∀ i, i < j + 1 → (cnB W n f R J (E : Int) (e - (K + 1)) (K + 1) (gl G i) && nhB R (K + 1) (p : Int) (gl G i) J) = false) := fun h i hi => by
                              by_cases h2 : i = j
                              · rw [h2, hu]; exact h
                              · exact HJ.out i (by omega)
                            have HYE : Hid ((cnB W n f R J (E : Int) (e - (K + 1)) (K + 1) (u : Int) && nhB R (K + 1) (p : Int) (u : Int) J) = true → Gd W n f R J (S : Int) (E : Int) e (put P (K + 1) (u : Int)) (K + 1)) := fun h => HSN.out (u : Int) (find_at hjl hu HJ.out h)
                            clear hu hfu hnP HL10 HT10 HQ0 HSN HGl HJ
                            cases hX : cnB W n f R J (E : Int) (e - (K + 1)) (K + 1) (u : Int) with
                            | false =>
                              rw [hX] at g4
                              have HJ2 : Hid (∀ i, i < j + 1 → (cnB W n f R J (E : Int) (e - (K + 1)) (K + 1) (gl G i) && nhB R (K + 1) (p : Int) (gl G i) J) = false) := HNX.out (by rw [hX]; rfl)
                              clear HNX HYE hX
                              go_wp2_with fail
                              go_roundw
                              case rel => exact ⟨j + 1, rfl, by go_num, by omega, HJ2, trivial⟩
                              case measure => simp [intOf]; omega
                            | true =>
                              cases hZ : nhB R (K + 1) (p : Int) (u : Int) J with
                              | false =>
                                rw [hX] at g4
                                rw [hZ] at kF
                                have HJ2 : Hid (∀ i, i < j + 1 → (cnB W n f R J (E : Int) (e - (K + 1)) (K + 1) (gl G i) && nhB R (K + 1) (p : Int) (gl G i) J) = false) := HNX.out (by rw [hX, hZ]; rfl)
                                clear HNX HYE hX hZ
                                go_wp2_with (first | (go_at_call 69; with_reducible refine kF.mono ?_; rintro e9 w8 ⟨rfl, hw8⟩; have hs' := hw8.symm; clear hw8; subst hs') | (fail))
                                go_roundw
                                case rel => exact ⟨j + 1, rfl, by go_num, by omega, HJ2, trivial⟩
                                case measure => simp [intOf]; omega
                              | true =>
                                rw [hX] at g4
                                rw [hZ] at kF
                                have HG3 : Hid (Gd W n f R J (S : Int) (E : Int) e (put P (K + 1) (u : Int)) (K + 1)) := HYE.out (by rw [hX, hZ]; rfl)
                                clear HNX HYE hX hZ
                                have hbase : w9.heap.size ≤ w10.heap.size := hB11.size
                                obtain ⟨i0', hi, hzz⟩ := Option.map_eq_some_iff.1 infoI
                                simp only [Prod.mk.injEq] at hzz
                                obtain ⟨hz0, hz1, hz2⟩ := hzz
                                go_wp2_with (first | (go_at_call 69; with_reducible refine kF.mono ?_; rintro e9 w8 ⟨rfl, hw8⟩; have hs' := hw8.symm; clear hw8; subst hs') | (at_builtin; refine wpList_append_own _ rfl _ _ 23 rfl w9.heap.size 3 i0' (.int .i64 0) 1 8 Tryd.underlying23 hi hz0 hz1 hz2 rfl (by decide) _ _ _ rfl (World.ownsRow.alloc HO10.out _) ⟨w10.heap.size, 0, none⟩ 1 1 [.int .i64 (u : Int)] rfl rfl (cell_one_new _ _ _) (fun x hx => by simp at hx; subst hx; rfl) (by unfold maxLen; omega) (by omega) (by simp; omega) ?_; intro v' w3 hown' hgrow3 _))
                                obtain ⟨hO3, hB13⟩ := own_app hB11 HO10.out hown' hgrow3
                                have HO3 : Hid (Own w3 w9.heap.size v' (K + 1 + 1) (put P (K + 1) (u : Int))) := hO3
                                clear hO3 hown' hgrow3 hi hz0 hz1 hz2
                                try go_wp2_with fail
                                go_roundw
                                case rel => exact ⟨K + 1, _, by go_num, by omega, HO3.out, HG3, hB13⟩
                                case measure => simp [intOf]; omega
              case neg =>
                obtain ⟨M, rfl⟩ : ∃ M, m = M + 1 := ⟨m - 1, by omega⟩
                have hMi : ((M + 1 : Nat) : Int) - 1 = (M : Int) := by omega
                rw [hMi]
                clear hMi
                have m0 : (0 : Int) ≤ (M : Int) := by omega
                have HT6 : Hid (Tb wr w4.heap.size (e + 1) n (D5 W n f R J (E : Int) e M 0)) := HT5.out.congr fun k c _ _ => d5_zero k c
                clear HT5
                obtain ⟨w6, hw6⟩ : ∃ w6, w6 = wr := ⟨wr, rfl⟩
                subst hw6
                go_wp2_with fail
                go_loopw [16] (fun i wr => ∃ p : Nat, i = .int .i64 (p : Int) ∧ p ≤ n ∧ Hid (Tb wr w4.heap.size (e + 1) n (D5 W n f R J (E : Int) e M p)) ∧ Below w4.heap.size w4 wr) (fun i _ => n - (intOf i).toNat)
                case atStart => exact ⟨0, rfl, Nat.zero_le _, HT6, hB6⟩
                case round =>
                  obtain ⟨p, rfl, hp, HT7, hB7⟩ := hrel
                  clear HT6 hB6
                  by_cases hpn : p < n
                  case neg =>
                    have hpe : p = n := by omega
                    subst hpe
                    have HT8 : Hid (Tb wr w4.heap.size (e + 1) p (D4 W p f R J (E : Int) e M)) := HT7.out.congr fun k c _ hc => d5_all k c hc
                    clear HT7
                    go_wp2
                    exact ⟨⟨M, by go_num, by omega, HT8, hB7⟩, by simp [intOf]⟩
                  case pos =>
                    have l0 := k0.on hB7
                    have x0 := l0.c0
                    have x1 := l0.c1
                    have hfr := hfR.below hB7
                    have p1 : (p : Int) < (n : Int) := by omega
                    have kA := sfree_any W a n c f (p : Int) wr hfr (by omega)
                    cases hfre : frB n f (p : Int) with
                    | false =>
                      rw [hfre] at kA
                      have HT8 : Hid (Tb wr w4.heap.size (e + 1) n (D5 W n f R J (E : Int) e M (p + 1))) := HT7.out.congr fun k c _ _ => d5_not hfre k c
                      clear HT7
                      obtain ⟨w7, hw7⟩ : ∃ w7, w7 = wr := ⟨wr, rfl⟩
                      subst hw7
                      go_wp2_with (first | (go_at_call 68; refine kA.mono ?_; rintro e9 w9 ⟨rfl, hb9⟩; have HT9 : Hid (Tb w9 w4.heap.size (e + 1) n (D5 W n f R J (E : Int) e M (p + 1))) := HT8.out.on hb9; have hB9 := stepA hB7 hb9; clear hb9) | (fail))
                      go_roundw
                      case rel => exact ⟨p + 1, by go_num, by omega, HT9, hB9⟩
                      case measure => simp [intOf]; omega
                    | true =>
                      rw [hfre] at kA
                      have kN := fun w h => sNext W a n c f p w h hs hpn
                      have HL0 : Hid (Bx wr w.heap.size (celL W a n c)) := l0
                      go_wp2_with (first | (go_at_call 68; refine kA.mono ?_; rintro e9 w7 ⟨rfl, hb7⟩; have l7 := HL0.out.on hb7; have x0 := l7.c0; have x1 := l7.c1) | (go_at_call 44; refine (kN _ (hfr.below hb7)).mono ?_; rintro e9 w8 ⟨⟨a9, c9, rfl, hL9⟩, hb8⟩) | (fail))
                      have hb78 := stepA hb7 hb8
                      have hB8 := stepA hB7 hb78
                      have HT8 : Hid (Tb w8 w4.heap.size (e + 1) n (tset (D5 W n f R J (E : Int) e M p) M p (an W n f R J (E : Int) e M p (nbL W n f p) 0))) := (HT7.out.on hb78).congr fun k c _ _ => d5_start k c
                      have hlo : w4.heap.size + (e + 1) < w7.heap.size := Nat.lt_of_lt_of_le HT7.out.lt hb7.size
                      have hlen := nbL_len W n f p
                      have HD : Hid (∀ k c, tset (D5 W n f R J (E : Int) e M p) M p (an W n f R J (E : Int) e M p (nbL W n f p) (nbL W n f p).length) k c = D5 W n f R J (E : Int) e M (p + 1) k c) := fun k c => d5_yes (by omega) hfre k c
                      have HG : Hid (∀ j, j < (nbL W n f p).length → ∃ u : Nat, gl (nbL W n f p) j = (u : Int) ∧ u < n ∧ frB n f (u : Int) = true) := fun j hj => by
                        obtain ⟨u, hu, hst⟩ := nbL_get hj
                        have h1 := hst.lt hs hpn
                        have h2 := hst.free hs (by have := (frB_t hfre).2.2; simpa using this)
                        exact ⟨u, hu, h1, frB_mk ⟨by omega, by omega, by simpa using h2⟩⟩
                      have HL9 : Hid (LQ w8 w7.heap.size w8.heap.size a9 (nbL W n f p).length (gl (nbL W n f p))) := hL9
                      generalize nbL W n f p = G at *
                      generalize w7.heap.size = lo at *
                      generalize w8.heap.size = hi9 at HL9
                      clear hb7 hb8 hb78 HT7 hB7 HL0 kA kN l0 l7 x0 x1 hL9 hfr
                      go_loopw [89] (fun i wr => ∃ j : Nat, i = .int .i64 (j : Int) ∧ j ≤ G.length ∧ Hid (Tb wr w4.heap.size (e + 1) n (tset (D5 W n f R J (E : Int) e M p) M p (an W n f R J (E : Int) e M p G j))) ∧ Hid (LQ wr lo hi9 a9 G.length (gl G)) ∧ Below w4.heap.size w4 wr) (fun i _ => G.length - (intOf i).toNat)
                      case atStart => exact ⟨0, rfl, Nat.zero_le _, HT8, HL9, hB8⟩
                      case round =>
                        obtain ⟨j, rfl, hj, HT9, HL, hB9⟩ := hrel
                        clear HT8 HL9 hB8
                        by_cases hjl : j < G.length
                        case neg =>
                          have hje : j = G.length := by omega
                          subst hje
                          have HT10 : Hid (Tb wr w4.heap.size (e + 1) n (D5 W n f R J (E : Int) e M (p + 1))) := HT9.out.congr fun k c _ _ => HD.out k c
                          clear HT9 HL
                          go_wp2
                          go_roundw
                          case rel => exact ⟨p + 1, by go_num, by omega, HT10, hB9⟩
                          case measure => simp [intOf]; omega
                        case pos =>
                          obtain ⟨u, hu, huk, hfu⟩ := HG.out j hjl
                          obtain ⟨nb, rfl, hn1, hn2, hnP⟩ := HL.out (by omega)
                          have q0 := hnP.c j hjl
                          rw [hu] at q0
                          have g0 := HT9.out.row M (by omega)
                          have g3 := HT9.out.row (M + 1) (by omega)
                          have g1 := HT9.out.c M p (by omega) hpn
                          have g4 := HT9.out.c (M + 1) u (by omega) huk
                          have g2 := HT9.out.fz M p (by omega)
                          rw [tset_self] at g1
                          rw [tset_next hfu] at g4
                          have HN := an_succ (W := W) (n := n) (f := f) (R := R) (J := J) (e := e) (t := (E : Int)) (M := M) (p := p) hjl hu
                          have HN' : Hid (an W n f R J (E : Int) e M p G (j + 1) = (an W n f R J (E : Int) e M p G j || (cnB W n f R J (E : Int) (e - (M + 1)) (M + 1) (u : Int) && nhB R (M + 1) (p : Int) (u : Int) J))) := HN
                          have HT10 : Hid (∀ x, Tb (wr.setCell ⟨w4.heap.size + 1 + M, p, none⟩ (.bool x)).drew w4.heap.size (e + 1) n (tset (D5 W n f R J (E : Int) e M p) M p x)) := fun x => ((HT9.out.set (by omega) hpn x).congr fun k c _ _ => tset_tset k c).on ((Below.refl _ _).drew)
                          have HL10 : Hid (∀ x, LQ (wr.setCell ⟨w4.heap.size + 1 + M, p, none⟩ (.bool x)).drew lo hi9 (some ⟨nb, 0, none⟩) G.length (gl G)) := fun x => (HL.out.only (OnlyIn.of ((Only.refl (w4.heap.size + 1 + M) wr).set p (.bool x)) (Nat.le_refl _) (Nat.lt_succ_self _)) (.inr (by omega))).on ((Below.refl _ _).drew)
                          have HB10 : Hid (∀ x, Below w4.heap.size w4 (wr.setCell ⟨w4.heap.size + 1 + M, p, none⟩ (.bool x)).drew) := fun x => (hB9.setCell (p := ⟨w4.heap.size + 1 + M, p, none⟩) (by simp; omega) _).drew
                          have kF : ∀ w, RR w q J (fun _ => T + 1) R → Calls Tryd.prog 69 #[.slice q J cq, .int .i64 ((M : Int) + 1), .int .i64 (p : Int), .int .i64 (u : Int)] w fun e w' => e = .returned (.bool (nhB R (M + 1) (p : Int) (u : Int) J)) ∧ w' = w := fun w h => sFreeP q J cq T R (M + 1) (p : Int) (u : Int) w (by omega) (by omega) (by omega) h
                          have hR9 := hRR.below hB9
                          have j0 : (0 : Int) ≤ (j : Int) := by omega
                          have j1 : (j : Int) < (G.length : Int) := by omega
                          have p0 : (0 : Int) ≤ (p : Int) := by omega
                          have u0 : (0 : Int) ≤ (u : Int) := by omega
                          have u1 : (u : Int) < (n : Int) := by omega
                          have m2 : (M : Int) < (e : Int) + 1 := by omega
                          have m3 : (M : Int) + 1 < (e : Int) + 1 := by omega
                          have m4 : (0 : Int) ≤ (M : Int) + 1 := by omega
                          have m5 : IntKind.i64.wrap ((M : Int) + 1) = (M : Int) + 1 := IntWalk.i64_in _ (by omega)
                          clear HN hu hfu hnP HT9 HL HD HG hfre
                          generalize an W n f R J (E : Int) e M p G j = X at *
                          generalize cnB W n f R J (E : Int) (e - (M + 1)) (M + 1) (u : Int) = Y at *
                          generalize nhB R (M + 1) (p : Int) (u : Int) J = Z at *
                          go_wp2_with fail
                          cases X with
                          | true =>
                            refine wp_region_held (S := fun w' => w'.cell? ⟨w4.heap.size, M, none⟩ = some (.slice (some ⟨w4.heap.size + 1 + M, 0, none⟩) n n) ∧ w'.cell? ⟨w4.heap.size, M + 1, none⟩ = some (.slice (some ⟨w4.heap.size + 1 + (M + 1), 0, none⟩) n n) ∧ w'.cell? ⟨w4.heap.size + 1 + (M + 1), u, none⟩ = some (.bool Y)) (by kernel_rfl) ?_
                            change wpAnyH _ _ _ _ _ _ _ _ (World.drew _)
                            have hSw := (⟨g0, g3, g4⟩ : _ ∧ _ ∧ _)
                            refine wpAnyH_take (i := 0) (v := .slice (some ⟨w4.heap.size, 0, none⟩) (e + 1) (e + 1)) rfl (by kernel_rfl) (by kernel_rfl) (by kernel_rfl) (fun _ _ _ h => h) (Or.inl ⟨by rfl, ?_⟩) hSw ?_
                            · intro wz hsz
                              obtain ⟨r0, r1, r2⟩ := hsz
                              go_simp
                            try simp [Act.put]
                            refine wpAnyH_take (i := 1) (v := .int .i64 (M : Int)) rfl (by kernel_rfl) (by kernel_rfl) (by kernel_rfl) (fun _ _ _ h => h) (Or.inl ⟨by rfl, ?_⟩) hSw ?_
                            · intro wz hsz
                              obtain ⟨r0, r1, r2⟩ := hsz
                              go_simp
                            try simp [Act.put]
                            refine wpAnyH_take (i := 2) (v := .pointer (some ⟨w4.heap.size, M, none⟩)) rfl (by kernel_rfl) (by kernel_rfl) (by kernel_rfl) (fun _ _ _ h => h) (Or.inl ⟨by rfl, ?_⟩) hSw ?_
                            · intro wz hsz
                              obtain ⟨r0, r1, r2⟩ := hsz
                              go_simp
                            try simp [Act.put]
                            refine wpAnyH_take (i := 3) (v := .slice (some ⟨w4.heap.size + 1 + M, 0, none⟩) n n) rfl (by kernel_rfl) (by kernel_rfl) (by kernel_rfl) (fun _ _ _ h => h) (Or.inl ⟨by rfl, ?_⟩) hSw ?_
                            · intro wz hsz
                              obtain ⟨r0, r1, r2⟩ := hsz
                              go_simp
                            try simp [Act.put]
                            refine wpAnyH_take (i := 4) (v := .int .i64 (p : Int)) rfl (by kernel_rfl) (by kernel_rfl) (by kernel_rfl) (fun _ _ _ h => h) (Or.inl ⟨by rfl, ?_⟩) hSw ?_
                            · intro wz hsz
                              obtain ⟨r0, r1, r2⟩ := hsz
                              go_simp
                            try simp [Act.put]
                            refine wpAnyH_take (i := 5) (v := .slice (some ⟨w4.heap.size, 0, none⟩) (e + 1) (e + 1)) rfl (by kernel_rfl) (by kernel_rfl) (by kernel_rfl) (fun _ _ _ h => h) (Or.inl ⟨by rfl, ?_⟩) hSw ?_
                            · intro wz hsz
                              obtain ⟨r0, r1, r2⟩ := hsz
                              go_simp
                            try simp [Act.put]
                            refine wpAnyH_take (i := 6) (v := .int .i64 (M : Int)) rfl (by kernel_rfl) (by kernel_rfl) (by kernel_rfl) (fun _ _ _ h => h) (Or.inl ⟨by rfl, ?_⟩) hSw ?_
                            · intro wz hsz
                              obtain ⟨r0, r1, r2⟩ := hsz
                              go_simp
                            try simp [Act.put]
                            refine wpAnyH_take (i := 7) (v := .pointer (some ⟨w4.heap.size, M, none⟩)) rfl (by kernel_rfl) (by kernel_rfl) (by kernel_rfl) (fun _ _ _ h => h) (Or.inl ⟨by rfl, ?_⟩) hSw ?_
                            · intro wz hsz
                              obtain ⟨r0, r1, r2⟩ := hsz
                              go_simp
                            try simp [Act.put]
                            refine wpAnyH_take (i := 8) (v := .slice (some ⟨w4.heap.size + 1 + M, 0, none⟩) n n) rfl (by kernel_rfl) (by kernel_rfl) (by kernel_rfl) (fun _ _ _ h => h) (Or.inl ⟨by rfl, ?_⟩) hSw ?_
                            · intro wz hsz
                              obtain ⟨r0, r1, r2⟩ := hsz
                              go_simp
                            try simp [Act.put]
                            refine wpAnyH_take (i := 9) (v := .int .i64 (p : Int)) rfl (by kernel_rfl) (by kernel_rfl) (by kernel_rfl) (fun _ _ _ h => h) (Or.inl ⟨by rfl, ?_⟩) hSw ?_
                            · intro wz hsz
                              obtain ⟨r0, r1, r2⟩ := hsz
                              go_simp
                            try simp [Act.put]
                            refine wpAnyH_take (i := 10) (v := .pointer (some ⟨w4.heap.size + 1 + M, p, none⟩)) rfl (by kernel_rfl) (by kernel_rfl) (by kernel_rfl) (fun _ _ _ h => h) (Or.inl ⟨by rfl, ?_⟩) hSw ?_
                            · intro wz hsz
                              obtain ⟨r0, r1, r2⟩ := hsz
                              go_simp
                            try simp [Act.put]
                            refine wpAnyH_ready (rs := [11]) (by kernel_rfl) (by simp) ?_
                            refine AllReadyH.cons rfl (fun K hK => ?_) AllReadyH.nil
                            go_simp
                            refine hK.out _ _ ((⟨g0, g3, g4⟩ : _ ∧ _ ∧ _)) (fun hSn => ?_)
                            clear hK K hSw
                            have hSw := hSn
                            clear hSn
                            try simp [Act.put]
                            refine wpAnyH_take (i := 12) (v := .bool true) rfl (by kernel_rfl) (by kernel_rfl) (by kernel_rfl) (fun _ _ _ h => h) (Or.inl ⟨by rfl, ?_⟩) hSw ?_
                            · intro wz hsz
                              obtain ⟨r0, r1, r2⟩ := hsz
                              go_simp
                            try simp [Act.put]
                            refine wpAnyH_take (i := 13) (v := undef) rfl (by kernel_rfl) (by kernel_rfl) (by kernel_rfl) (fun _ _ _ h => h) (Or.inr ⟨by kernel_rfl, rfl⟩) hSw ?_
                            try simp [Act.put]
                            refine wpAnyH_take (i := 14) (v := undef) rfl (by kernel_rfl) (by kernel_rfl) (by kernel_rfl) (fun _ _ _ h => h) (Or.inr ⟨by kernel_rfl, rfl⟩) hSw ?_
                            try simp [Act.put]
                            refine wpAnyH_take (i := 15) (v := undef) rfl (by kernel_rfl) (by kernel_rfl) (by kernel_rfl) (fun _ _ _ h => h) (Or.inr ⟨by kernel_rfl, rfl⟩) hSw ?_
                            try simp [Act.put]
                            refine wpAnyH_take (i := 16) (v := undef) rfl (by kernel_rfl) (by kernel_rfl) (by kernel_rfl) (fun _ _ _ h => h) (Or.inr ⟨by kernel_rfl, rfl⟩) hSw ?_
                            try simp [Act.put]
                            refine wpAnyH_take (i := 17) (v := undef) rfl (by kernel_rfl) (by kernel_rfl) (by kernel_rfl) (fun _ _ _ h => h) (Or.inr ⟨by kernel_rfl, rfl⟩) hSw ?_
                            try simp [Act.put]
                            refine wpAnyH_take (i := 18) (v := undef) rfl (by kernel_rfl) (by kernel_rfl) (by kernel_rfl) (fun _ _ _ h => h) (Or.inr ⟨by kernel_rfl, rfl⟩) hSw ?_
                            try simp [Act.put]
                            refine wpAnyH_take (i := 19) (v := undef) rfl (by kernel_rfl) (by kernel_rfl) (by kernel_rfl) (fun _ _ _ h => h) (Or.inr ⟨by kernel_rfl, rfl⟩) hSw ?_
                            try simp [Act.put]
                            refine wpAnyH_take (i := 20) (v := undef) rfl (by kernel_rfl) (by kernel_rfl) (by kernel_rfl) (fun _ _ _ h => h) (Or.inr ⟨by kernel_rfl, rfl⟩) hSw ?_
                            try simp [Act.put]
                            refine wpAnyH_take (i := 21) (v := undef) rfl (by kernel_rfl) (by kernel_rfl) (by kernel_rfl) (fun _ _ _ h => h) (Or.inr ⟨by kernel_rfl, rfl⟩) hSw ?_
                            try simp [Act.put]
                            refine wpAnyH_take (i := 22) (v := undef) rfl (by kernel_rfl) (by kernel_rfl) (by kernel_rfl) (fun _ _ _ h => h) (Or.inr ⟨by kernel_rfl, rfl⟩) hSw ?_
                            try simp [Act.put]
                            refine wpAnyH_take (i := 23) (v := undef) rfl (by kernel_rfl) (by kernel_rfl) (by kernel_rfl) (fun _ _ _ h => h) (Or.inr ⟨by kernel_rfl, rfl⟩) hSw ?_
                            try simp [Act.put]
                            refine wpAnyH_take (i := 24) (v := undef) rfl (by kernel_rfl) (by kernel_rfl) (by kernel_rfl) (fun _ _ _ h => h) (Or.inr ⟨by kernel_rfl, rfl⟩) hSw ?_
                            try simp [Act.put]
                            refine wpAnyH_take (i := 25) (v := undef) rfl (by kernel_rfl) (by kernel_rfl) (by kernel_rfl) (fun _ _ _ h => h) (Or.inr ⟨by kernel_rfl, rfl⟩) hSw ?_
                            try simp [Act.put]
                            refine wpAnyH_take (i := 26) (v := undef) rfl (by kernel_rfl) (by kernel_rfl) (by kernel_rfl) (fun _ _ _ h => h) (Or.inr ⟨by kernel_rfl, rfl⟩) hSw ?_
                            try simp [Act.put]
                            refine wpAnyH_take (i := 27) (v := undef) rfl (by kernel_rfl) (by kernel_rfl) (by kernel_rfl) (fun _ _ _ h => h) (Or.inr ⟨by kernel_rfl, rfl⟩) hSw ?_
                            try simp [Act.put]
                            refine wpAnyH_take (i := 28) (v := undef) rfl (by kernel_rfl) (by kernel_rfl) (by kernel_rfl) (fun _ _ _ h => h) (Or.inr ⟨by kernel_rfl, rfl⟩) hSw ?_
                            try simp [Act.put]
                            refine wpAnyH_take (i := 29) (v := .bool true) rfl (by kernel_rfl) (by kernel_rfl) (by kernel_rfl) (fun _ _ _ h => h) (Or.inl ⟨by rfl, ?_⟩) hSw ?_
                            · intro wz hsz
                              obtain ⟨r0, r1, r2⟩ := hsz
                              go_simp
                            try simp [Act.put]
                            refine wpAnyH_take (i := 30) (v := .pointer (some ⟨w4.heap.size + 1 + M, p, none⟩)) rfl (by kernel_rfl) (by kernel_rfl) (by kernel_rfl) (fun _ _ _ h => h) (Or.inl ⟨by rfl, ?_⟩) hSw ?_
                            · intro wz hsz
                              obtain ⟨r0, r1, r2⟩ := hsz
                              go_simp
                            try simp [Act.put]
                            refine wpAnyH_ready (rs := [31]) (by kernel_rfl) (by simp) ?_
                            refine AllReadyH.cons rfl (fun K hK => ?_) AllReadyH.nil
                            go_simp
                            try go_simp
                            refine hK.out _ _ (keepW (⟨g0, g3, g4⟩ : _ ∧ _ ∧ _)) (fun hSn => ?_)
                            clear hK K hSw
                            have hSw := hSn
                            clear hSn
                            try simp [Act.put]
                            refine wpAnyH_done (by kernel_rfl) ?_ _
                            go_wp2_with fail
                            go_roundw
                            case rel => exact ⟨j + 1, by go_num, by omega, by rw [HN'.out]; exact HT10.out true, HL10.out true, HB10.out true⟩
                            case measure => simp [intOf]; omega
                          | false =>
                            cases Y with
                            | false =>
                              refine wp_region_held (S := fun w' => w'.cell? ⟨w4.heap.size, M, none⟩ = some (.slice (some ⟨w4.heap.size + 1 + M, 0, none⟩) n n) ∧ w'.cell? ⟨w4.heap.size, M + 1, none⟩ = some (.slice (some ⟨w4.heap.size + 1 + (M + 1), 0, none⟩) n n) ∧ w'.cell? ⟨w4.heap.size + 1 + (M + 1), u, none⟩ = some (.bool false)) (by kernel_rfl) ?_
                              change wpAnyH _ _ _ _ _ _ _ _ (World.drew _)
                              have hSw := (⟨g0, g3, g4⟩ : _ ∧ _ ∧ _)
                              refine wpAnyH_take (i := 0) (v := .slice (some ⟨w4.heap.size, 0, none⟩) (e + 1) (e + 1)) rfl (by kernel_rfl) (by kernel_rfl) (by kernel_rfl) (fun _ _ _ h => h) (Or.inl ⟨by rfl, ?_⟩) hSw ?_
                              · intro wz hsz
                                obtain ⟨r0, r1, r2⟩ := hsz
                                go_simp
                              try simp [Act.put]
                              refine wpAnyH_take (i := 1) (v := .int .i64 (M : Int)) rfl (by kernel_rfl) (by kernel_rfl) (by kernel_rfl) (fun _ _ _ h => h) (Or.inl ⟨by rfl, ?_⟩) hSw ?_
                              · intro wz hsz
                                obtain ⟨r0, r1, r2⟩ := hsz
                                go_simp
                              try simp [Act.put]
                              refine wpAnyH_take (i := 2) (v := .pointer (some ⟨w4.heap.size, M, none⟩)) rfl (by kernel_rfl) (by kernel_rfl) (by kernel_rfl) (fun _ _ _ h => h) (Or.inl ⟨by rfl, ?_⟩) hSw ?_
                              · intro wz hsz
                                obtain ⟨r0, r1, r2⟩ := hsz
                                go_simp
                              try simp [Act.put]
                              refine wpAnyH_take (i := 3) (v := .slice (some ⟨w4.heap.size + 1 + M, 0, none⟩) n n) rfl (by kernel_rfl) (by kernel_rfl) (by kernel_rfl) (fun _ _ _ h => h) (Or.inl ⟨by rfl, ?_⟩) hSw ?_
                              · intro wz hsz
                                obtain ⟨r0, r1, r2⟩ := hsz
                                go_simp
                              try simp [Act.put]
                              refine wpAnyH_take (i := 4) (v := .int .i64 (p : Int)) rfl (by kernel_rfl) (by kernel_rfl) (by kernel_rfl) (fun _ _ _ h => h) (Or.inl ⟨by rfl, ?_⟩) hSw ?_
                              · intro wz hsz
                                obtain ⟨r0, r1, r2⟩ := hsz
                                go_simp
                              try simp [Act.put]
                              refine wpAnyH_take (i := 5) (v := .slice (some ⟨w4.heap.size, 0, none⟩) (e + 1) (e + 1)) rfl (by kernel_rfl) (by kernel_rfl) (by kernel_rfl) (fun _ _ _ h => h) (Or.inl ⟨by rfl, ?_⟩) hSw ?_
                              · intro wz hsz
                                obtain ⟨r0, r1, r2⟩ := hsz
                                go_simp
                              try simp [Act.put]
                              refine wpAnyH_take (i := 6) (v := .int .i64 (M : Int)) rfl (by kernel_rfl) (by kernel_rfl) (by kernel_rfl) (fun _ _ _ h => h) (Or.inl ⟨by rfl, ?_⟩) hSw ?_
                              · intro wz hsz
                                obtain ⟨r0, r1, r2⟩ := hsz
                                go_simp
                              try simp [Act.put]
                              refine wpAnyH_take (i := 7) (v := .pointer (some ⟨w4.heap.size, M, none⟩)) rfl (by kernel_rfl) (by kernel_rfl) (by kernel_rfl) (fun _ _ _ h => h) (Or.inl ⟨by rfl, ?_⟩) hSw ?_
                              · intro wz hsz
                                obtain ⟨r0, r1, r2⟩ := hsz
                                go_simp
                              try simp [Act.put]
                              refine wpAnyH_take (i := 8) (v := .slice (some ⟨w4.heap.size + 1 + M, 0, none⟩) n n) rfl (by kernel_rfl) (by kernel_rfl) (by kernel_rfl) (fun _ _ _ h => h) (Or.inl ⟨by rfl, ?_⟩) hSw ?_
                              · intro wz hsz
                                obtain ⟨r0, r1, r2⟩ := hsz
                                go_simp
                              try simp [Act.put]
                              refine wpAnyH_take (i := 9) (v := .int .i64 (p : Int)) rfl (by kernel_rfl) (by kernel_rfl) (by kernel_rfl) (fun _ _ _ h => h) (Or.inl ⟨by rfl, ?_⟩) hSw ?_
                              · intro wz hsz
                                obtain ⟨r0, r1, r2⟩ := hsz
                                go_simp
                              try simp [Act.put]
                              refine wpAnyH_take (i := 10) (v := .pointer (some ⟨w4.heap.size + 1 + M, p, none⟩)) rfl (by kernel_rfl) (by kernel_rfl) (by kernel_rfl) (fun _ _ _ h => h) (Or.inl ⟨by rfl, ?_⟩) hSw ?_
                              · intro wz hsz
                                obtain ⟨r0, r1, r2⟩ := hsz
                                go_simp
                              try simp [Act.put]
                              refine wpAnyH_ready (rs := [11]) (by kernel_rfl) (by simp) ?_
                              refine AllReadyH.cons rfl (fun K hK => ?_) AllReadyH.nil
                              go_simp
                              refine hK.out _ _ ((⟨g0, g3, g4⟩ : _ ∧ _ ∧ _)) (fun hSn => ?_)
                              clear hK K hSw
                              have hSw := hSn
                              clear hSn
                              try simp [Act.put]
                              refine wpAnyH_take (i := 12) (v := .bool false) rfl (by kernel_rfl) (by kernel_rfl) (by kernel_rfl) (fun _ _ _ h => h) (Or.inl ⟨by rfl, ?_⟩) hSw ?_
                              · intro wz hsz
                                obtain ⟨r0, r1, r2⟩ := hsz
                                go_simp
                              try simp [Act.put]
                              refine wpAnyH_take (i := 13) (v := .slice (some ⟨w4.heap.size, 0, none⟩) (e + 1) (e + 1)) rfl (by kernel_rfl) (by kernel_rfl) (by kernel_rfl) (fun _ _ _ h => h) (Or.inl ⟨by rfl, ?_⟩) hSw ?_
                              · intro wz hsz
                                obtain ⟨r0, r1, r2⟩ := hsz
                                go_simp
                              try simp [Act.put]
                              refine wpAnyH_take (i := 14) (v := .int .i64 (M : Int)) rfl (by kernel_rfl) (by kernel_rfl) (by kernel_rfl) (fun _ _ _ h => h) (Or.inl ⟨by rfl, ?_⟩) hSw ?_
                              · intro wz hsz
                                obtain ⟨r0, r1, r2⟩ := hsz
                                go_simp
                              try simp [Act.put]
                              refine wpAnyH_take (i := 15) (v := .int .i64 ((M : Int) + 1)) rfl (by kernel_rfl) (by kernel_rfl) (by kernel_rfl) (fun _ _ _ h => h) (Or.inl ⟨by rfl, ?_⟩) hSw ?_
                              · intro wz hsz
                                obtain ⟨r0, r1, r2⟩ := hsz
                                go_simp
                              try simp [Act.put]
                              refine wpAnyH_take (i := 16) (v := .pointer (some ⟨w4.heap.size, M + 1, none⟩)) rfl (by kernel_rfl) (by kernel_rfl) (by kernel_rfl) (fun _ _ _ h => h) (Or.inl ⟨by rfl, ?_⟩) hSw ?_
                              · intro wz hsz
                                obtain ⟨r0, r1, r2⟩ := hsz
                                go_simp
                              try simp [Act.put]
                              refine wpAnyH_take (i := 17) (v := .slice (some ⟨w4.heap.size + 1 + (M + 1), 0, none⟩) n n) rfl (by kernel_rfl) (by kernel_rfl) (by kernel_rfl) (fun _ _ _ h => h) (Or.inl ⟨by rfl, ?_⟩) hSw ?_
                              · intro wz hsz
                                obtain ⟨r0, r1, r2⟩ := hsz
                                go_simp
                              try simp [Act.put]
                              refine wpAnyH_take (i := 18) (v := .int .i64 (u : Int)) rfl (by kernel_rfl) (by kernel_rfl) (by kernel_rfl) (fun _ _ _ h => h) (Or.inl ⟨by rfl, ?_⟩) hSw ?_
                              · intro wz hsz
                                obtain ⟨r0, r1, r2⟩ := hsz
                                go_simp
                              try simp [Act.put]
                              refine wpAnyH_take (i := 19) (v := .pointer (some ⟨w4.heap.size + 1 + (M + 1), u, none⟩)) rfl (by kernel_rfl) (by kernel_rfl) (by kernel_rfl) (fun _ _ _ h => h) (Or.inl ⟨by rfl, ?_⟩) hSw ?_
                              · intro wz hsz
                                obtain ⟨r0, r1, r2⟩ := hsz
                                go_simp
                              try simp [Act.put]
                              refine wpAnyH_take (i := 20) (v := .bool false) rfl (by kernel_rfl) (by kernel_rfl) (by kernel_rfl) (fun _ _ _ h => h) (Or.inl ⟨by rfl, ?_⟩) hSw ?_
                              · intro wz hsz
                                obtain ⟨r0, r1, r2⟩ := hsz
                                go_simp
                              try simp [Act.put]
                              refine wpAnyH_take (i := 21) (v := .bool false) rfl (by kernel_rfl) (by kernel_rfl) (by kernel_rfl) (fun _ _ _ h => h) (Or.inl ⟨by rfl, ?_⟩) hSw ?_
                              · intro wz hsz
                                obtain ⟨r0, r1, r2⟩ := hsz
                                go_simp
                              try simp [Act.put]
                              refine wpAnyH_take (i := 22) (v := undef) rfl (by kernel_rfl) (by kernel_rfl) (by kernel_rfl) (fun _ _ _ h => h) (Or.inr ⟨by kernel_rfl, rfl⟩) hSw ?_
                              try simp [Act.put]
                              refine wpAnyH_take (i := 23) (v := undef) rfl (by kernel_rfl) (by kernel_rfl) (by kernel_rfl) (fun _ _ _ h => h) (Or.inr ⟨by kernel_rfl, rfl⟩) hSw ?_
                              try simp [Act.put]
                              refine wpAnyH_take (i := 24) (v := undef) rfl (by kernel_rfl) (by kernel_rfl) (by kernel_rfl) (fun _ _ _ h => h) (Or.inr ⟨by kernel_rfl, rfl⟩) hSw ?_
                              try simp [Act.put]
                              refine wpAnyH_take (i := 25) (v := undef) rfl (by kernel_rfl) (by kernel_rfl) (by kernel_rfl) (fun _ _ _ h => h) (Or.inr ⟨by kernel_rfl, rfl⟩) hSw ?_
                              try simp [Act.put]
                              refine wpAnyH_take (i := 26) (v := undef) rfl (by kernel_rfl) (by kernel_rfl) (by kernel_rfl) (fun _ _ _ h => h) (Or.inr ⟨by kernel_rfl, rfl⟩) hSw ?_
                              try simp [Act.put]
                              refine wpAnyH_take (i := 27) (v := undef) rfl (by kernel_rfl) (by kernel_rfl) (by kernel_rfl) (fun _ _ _ h => h) (Or.inr ⟨by kernel_rfl, rfl⟩) hSw ?_
                              try simp [Act.put]
                              refine wpAnyH_take (i := 28) (v := .bool false) rfl (by kernel_rfl) (by kernel_rfl) (by kernel_rfl) (fun _ _ _ h => h) (Or.inl ⟨by rfl, ?_⟩) hSw ?_
                              · intro wz hsz
                                obtain ⟨r0, r1, r2⟩ := hsz
                                go_simp
                              try simp [Act.put]
                              refine wpAnyH_take (i := 29) (v := .bool false) rfl (by kernel_rfl) (by kernel_rfl) (by kernel_rfl) (fun _ _ _ h => h) (Or.inl ⟨by rfl, ?_⟩) hSw ?_
                              · intro wz hsz
                                obtain ⟨r0, r1, r2⟩ := hsz
                                go_simp
                              try simp [Act.put]
                              refine wpAnyH_take (i := 30) (v := .pointer (some ⟨w4.heap.size + 1 + M, p, none⟩)) rfl (by kernel_rfl) (by kernel_rfl) (by kernel_rfl) (fun _ _ _ h => h) (Or.inl ⟨by rfl, ?_⟩) hSw ?_
                              · intro wz hsz
                                obtain ⟨r0, r1, r2⟩ := hsz
                                go_simp
                              try simp [Act.put]
                              refine wpAnyH_ready (rs := [31]) (by kernel_rfl) (by simp) ?_
                              refine AllReadyH.cons rfl (fun K hK => ?_) AllReadyH.nil
                              go_simp
                              try go_simp
                              refine hK.out _ _ (keepW (⟨g0, g3, g4⟩ : _ ∧ _ ∧ _)) (fun hSn => ?_)
                              clear hK K hSw
                              have hSw := hSn
                              clear hSn
                              try simp [Act.put]
                              refine wpAnyH_done (by kernel_rfl) ?_ _
                              go_wp2_with fail
                              go_roundw
                              case rel => exact ⟨j + 1, by go_num, by omega, by rw [HN'.out]; exact HT10.out false, HL10.out false, HB10.out false⟩
                              case measure => simp [intOf]; omega
                            | true =>
                              refine wp_region_held (S := fun w' => w'.cell? ⟨w4.heap.size, M, none⟩ = some (.slice (some ⟨w4.heap.size + 1 + M, 0, none⟩) n n) ∧ w'.cell? ⟨w4.heap.size, M + 1, none⟩ = some (.slice (some ⟨w4.heap.size + 1 + (M + 1), 0, none⟩) n n) ∧ w'.cell? ⟨w4.heap.size + 1 + (M + 1), u, none⟩ = some (.bool true)) (by kernel_rfl) ?_
                              change wpAnyH _ _ _ _ _ _ _ _ (World.drew _)
                              have hSw := (⟨g0, g3, g4⟩ : _ ∧ _ ∧ _)
                              refine wpAnyH_take (i := 0) (v := .slice (some ⟨w4.heap.size, 0, none⟩) (e + 1) (e + 1)) rfl (by kernel_rfl) (by kernel_rfl) (by kernel_rfl) (fun _ _ _ h => h) (Or.inl ⟨by rfl, ?_⟩) hSw ?_
                              · intro wz hsz
                                obtain ⟨r0, r1, r2⟩ := hsz
                                go_simp
                              try simp [Act.put]
                              refine wpAnyH_take (i := 1) (v := .int .i64 (M : Int)) rfl (by kernel_rfl) (by kernel_rfl) (by kernel_rfl) (fun _ _ _ h => h) (Or.inl ⟨by rfl, ?_⟩) hSw ?_
                              · intro wz hsz
                                obtain ⟨r0, r1, r2⟩ := hsz
                                go_simp
                              try simp [Act.put]
                              refine wpAnyH_take (i := 2) (v := .pointer (some ⟨w4.heap.size, M, none⟩)) rfl (by kernel_rfl) (by kernel_rfl) (by kernel_rfl) (fun _ _ _ h => h) (Or.inl ⟨by rfl, ?_⟩) hSw ?_
                              · intro wz hsz
                                obtain ⟨r0, r1, r2⟩ := hsz
                                go_simp
                              try simp [Act.put]
                              refine wpAnyH_take (i := 3) (v := .slice (some ⟨w4.heap.size + 1 + M, 0, none⟩) n n) rfl (by kernel_rfl) (by kernel_rfl) (by kernel_rfl) (fun _ _ _ h => h) (Or.inl ⟨by rfl, ?_⟩) hSw ?_
                              · intro wz hsz
                                obtain ⟨r0, r1, r2⟩ := hsz
                                go_simp
                              try simp [Act.put]
                              refine wpAnyH_take (i := 4) (v := .int .i64 (p : Int)) rfl (by kernel_rfl) (by kernel_rfl) (by kernel_rfl) (fun _ _ _ h => h) (Or.inl ⟨by rfl, ?_⟩) hSw ?_
                              · intro wz hsz
                                obtain ⟨r0, r1, r2⟩ := hsz
                                go_simp
                              try simp [Act.put]
                              refine wpAnyH_take (i := 5) (v := .slice (some ⟨w4.heap.size, 0, none⟩) (e + 1) (e + 1)) rfl (by kernel_rfl) (by kernel_rfl) (by kernel_rfl) (fun _ _ _ h => h) (Or.inl ⟨by rfl, ?_⟩) hSw ?_
                              · intro wz hsz
                                obtain ⟨r0, r1, r2⟩ := hsz
                                go_simp
                              try simp [Act.put]
                              refine wpAnyH_take (i := 6) (v := .int .i64 (M : Int)) rfl (by kernel_rfl) (by kernel_rfl) (by kernel_rfl) (fun _ _ _ h => h) (Or.inl ⟨by rfl, ?_⟩) hSw ?_
                              · intro wz hsz
                                obtain ⟨r0, r1, r2⟩ := hsz
                                go_simp
                              try simp [Act.put]
                              refine wpAnyH_take (i := 7) (v := .pointer (some ⟨w4.heap.size, M, none⟩)) rfl (by kernel_rfl) (by kernel_rfl) (by kernel_rfl) (fun _ _ _ h => h) (Or.inl ⟨by rfl, ?_⟩) hSw ?_
                              · intro wz hsz
                                obtain ⟨r0, r1, r2⟩ := hsz
                                go_simp
                              try simp [Act.put]
                              refine wpAnyH_take (i := 8) (v := .slice (some ⟨w4.heap.size + 1 + M, 0, none⟩) n n) rfl (by kernel_rfl) (by kernel_rfl) (by kernel_rfl) (fun _ _ _ h => h) (Or.inl ⟨by rfl, ?_⟩) hSw ?_
                              · intro wz hsz
                                obtain ⟨r0, r1, r2⟩ := hsz
                                go_simp
                              try simp [Act.put]
                              refine wpAnyH_take (i := 9) (v := .int .i64 (p : Int)) rfl (by kernel_rfl) (by kernel_rfl) (by kernel_rfl) (fun _ _ _ h => h) (Or.inl ⟨by rfl, ?_⟩) hSw ?_
                              · intro wz hsz
                                obtain ⟨r0, r1, r2⟩ := hsz
                                go_simp
                              try simp [Act.put]
                              refine wpAnyH_take (i := 10) (v := .pointer (some ⟨w4.heap.size + 1 + M, p, none⟩)) rfl (by kernel_rfl) (by kernel_rfl) (by kernel_rfl) (fun _ _ _ h => h) (Or.inl ⟨by rfl, ?_⟩) hSw ?_
                              · intro wz hsz
                                obtain ⟨r0, r1, r2⟩ := hsz
                                go_simp
                              try simp [Act.put]
                              refine wpAnyH_ready (rs := [11]) (by kernel_rfl) (by simp) ?_
                              refine AllReadyH.cons rfl (fun K hK => ?_) AllReadyH.nil
                              go_simp
                              refine hK.out _ _ ((⟨g0, g3, g4⟩ : _ ∧ _ ∧ _)) (fun hSn => ?_)
                              clear hK K hSw
                              have hSw := hSn
                              clear hSn
                              try simp [Act.put]
                              refine wpAnyH_take (i := 12) (v := .bool false) rfl (by kernel_rfl) (by kernel_rfl) (by kernel_rfl) (fun _ _ _ h => h) (Or.inl ⟨by rfl, ?_⟩) hSw ?_
                              · intro wz hsz
                                obtain ⟨r0, r1, r2⟩ := hsz
                                go_simp
                              try simp [Act.put]
                              refine wpAnyH_take (i := 13) (v := .slice (some ⟨w4.heap.size, 0, none⟩) (e + 1) (e + 1)) rfl (by kernel_rfl) (by kernel_rfl) (by kernel_rfl) (fun _ _ _ h => h) (Or.inl ⟨by rfl, ?_⟩) hSw ?_
                              · intro wz hsz
                                obtain ⟨r0, r1, r2⟩ := hsz
                                go_simp
                              try simp [Act.put]
                              refine wpAnyH_take (i := 14) (v := .int .i64 (M : Int)) rfl (by kernel_rfl) (by kernel_rfl) (by kernel_rfl) (fun _ _ _ h => h) (Or.inl ⟨by rfl, ?_⟩) hSw ?_
                              · intro wz hsz
                                obtain ⟨r0, r1, r2⟩ := hsz
                                go_simp
                              try simp [Act.put]
                              refine wpAnyH_take (i := 15) (v := .int .i64 ((M : Int) + 1)) rfl (by kernel_rfl) (by kernel_rfl) (by kernel_rfl) (fun _ _ _ h => h) (Or.inl ⟨by rfl, ?_⟩) hSw ?_
                              · intro wz hsz
                                obtain ⟨r0, r1, r2⟩ := hsz
                                go_simp
                              try simp [Act.put]
                              refine wpAnyH_take (i := 16) (v := .pointer (some ⟨w4.heap.size, M + 1, none⟩)) rfl (by kernel_rfl) (by kernel_rfl) (by kernel_rfl) (fun _ _ _ h => h) (Or.inl ⟨by rfl, ?_⟩) hSw ?_
                              · intro wz hsz
                                obtain ⟨r0, r1, r2⟩ := hsz
                                go_simp
                              try simp [Act.put]
                              refine wpAnyH_take (i := 17) (v := .slice (some ⟨w4.heap.size + 1 + (M + 1), 0, none⟩) n n) rfl (by kernel_rfl) (by kernel_rfl) (by kernel_rfl) (fun _ _ _ h => h) (Or.inl ⟨by rfl, ?_⟩) hSw ?_
                              · intro wz hsz
                                obtain ⟨r0, r1, r2⟩ := hsz
                                go_simp
                              try simp [Act.put]
                              refine wpAnyH_take (i := 18) (v := .int .i64 (u : Int)) rfl (by kernel_rfl) (by kernel_rfl) (by kernel_rfl) (fun _ _ _ h => h) (Or.inl ⟨by rfl, ?_⟩) hSw ?_
                              · intro wz hsz
                                obtain ⟨r0, r1, r2⟩ := hsz
                                go_simp
                              try simp [Act.put]
                              refine wpAnyH_take (i := 19) (v := .pointer (some ⟨w4.heap.size + 1 + (M + 1), u, none⟩)) rfl (by kernel_rfl) (by kernel_rfl) (by kernel_rfl) (fun _ _ _ h => h) (Or.inl ⟨by rfl, ?_⟩) hSw ?_
                              · intro wz hsz
                                obtain ⟨r0, r1, r2⟩ := hsz
                                go_simp
                              try simp [Act.put]
                              refine wpAnyH_take (i := 20) (v := .bool true) rfl (by kernel_rfl) (by kernel_rfl) (by kernel_rfl) (fun _ _ _ h => h) (Or.inl ⟨by rfl, ?_⟩) hSw ?_
                              · intro wz hsz
                                obtain ⟨r0, r1, r2⟩ := hsz
                                go_simp
                              try simp [Act.put]
                              refine wpAnyH_take (i := 21) (v := .bool true) rfl (by kernel_rfl) (by kernel_rfl) (by kernel_rfl) (fun _ _ _ h => h) (Or.inl ⟨by rfl, ?_⟩) hSw ?_
                              · intro wz hsz
                                obtain ⟨r0, r1, r2⟩ := hsz
                                go_simp
                              try simp [Act.put]
                              refine wpAnyH_take (i := 22) (v := .slice q J cq) rfl (by kernel_rfl) (by kernel_rfl) (by kernel_rfl) (fun _ _ _ h => h) (Or.inl ⟨by rfl, ?_⟩) hSw ?_
                              · intro wz hsz
                                obtain ⟨r0, r1, r2⟩ := hsz
                                go_simp
                              try simp [Act.put]
                              refine wpAnyH_take (i := 23) (v := .int .i64 (M : Int)) rfl (by kernel_rfl) (by kernel_rfl) (by kernel_rfl) (fun _ _ _ h => h) (Or.inl ⟨by rfl, ?_⟩) hSw ?_
                              · intro wz hsz
                                obtain ⟨r0, r1, r2⟩ := hsz
                                go_simp
                              try simp [Act.put]
                              refine wpAnyH_take (i := 24) (v := .int .i64 ((M : Int) + 1)) rfl (by kernel_rfl) (by kernel_rfl) (by kernel_rfl) (fun _ _ _ h => h) (Or.inl ⟨by rfl, ?_⟩) hSw ?_
                              · intro wz hsz
                                obtain ⟨r0, r1, r2⟩ := hsz
                                go_simp
                              try simp [Act.put]
                              refine wpAnyH_take (i := 25) (v := .int .i64 (p : Int)) rfl (by kernel_rfl) (by kernel_rfl) (by kernel_rfl) (fun _ _ _ h => h) (Or.inl ⟨by rfl, ?_⟩) hSw ?_
                              · intro wz hsz
                                obtain ⟨r0, r1, r2⟩ := hsz
                                go_simp
                              try simp [Act.put]
                              refine wpAnyH_take (i := 26) (v := .int .i64 (u : Int)) rfl (by kernel_rfl) (by kernel_rfl) (by kernel_rfl) (fun _ _ _ h => h) (Or.inl ⟨by rfl, ?_⟩) hSw ?_
                              · intro wz hsz
                                obtain ⟨r0, r1, r2⟩ := hsz
                                go_simp
                              try simp [Act.put]
                              refine wpAnyH_ready (rs := [27]) (by kernel_rfl) (by simp) ?_
                              refine AllReadyH.cons rfl (fun K hK => ?_) AllReadyH.nil
                              go_simp
                              go_wp2_with (first | (go_at_call 69; refine (kF _ (hR9.below ((Below.refl _ _).drew))).mono ?_; rintro e9 w9 ⟨rfl, hw9⟩; have hs' := hw9.symm; clear hw9; subst hs') | (fail))
                              refine hK.out _ _ ((⟨g0, g3, g4⟩ : _ ∧ _ ∧ _)) (fun hSn => ?_)
                              clear hK K hSw
                              have hSw := hSn
                              clear hSn
                              try simp [Act.put]
                              refine wpAnyH_take (i := 28) (v := .bool Z) rfl (by kernel_rfl) (by kernel_rfl) (by kernel_rfl) (fun _ _ _ h => h) (Or.inl ⟨by rfl, ?_⟩) hSw ?_
                              · intro wz hsz
                                obtain ⟨r0, r1, r2⟩ := hsz
                                go_simp
                              try simp [Act.put]
                              refine wpAnyH_take (i := 29) (v := .bool Z) rfl (by kernel_rfl) (by kernel_rfl) (by kernel_rfl) (fun _ _ _ h => h) (Or.inl ⟨by rfl, ?_⟩) hSw ?_
                              · intro wz hsz
                                obtain ⟨r0, r1, r2⟩ := hsz
                                go_simp
                              try simp [Act.put]
                              refine wpAnyH_take (i := 30) (v := .pointer (some ⟨w4.heap.size + 1 + M, p, none⟩)) rfl (by kernel_rfl) (by kernel_rfl) (by kernel_rfl) (fun _ _ _ h => h) (Or.inl ⟨by rfl, ?_⟩) hSw ?_
                              · intro wz hsz
                                obtain ⟨r0, r1, r2⟩ := hsz
                                go_simp
                              try simp [Act.put]
                              refine wpAnyH_ready (rs := [31]) (by kernel_rfl) (by simp) ?_
                              refine AllReadyH.cons rfl (fun K hK => ?_) AllReadyH.nil
                              go_simp
                              try go_simp
                              refine hK.out _ _ (keepW (⟨g0, g3, g4⟩ : _ ∧ _ ∧ _)) (fun hSn => ?_)
                              clear hK K hSw
                              have hSw := hSn
                              clear hSn
                              try simp [Act.put]
                              refine wpAnyH_done (by kernel_rfl) ?_ _
                              go_wp2_with fail
                              go_roundw
                              case rel => exact ⟨j + 1, by go_num, by omega, by rw [HN'.out]; exact HT10.out Z, HL10.out Z, HB10.out Z⟩
                              case measure => simp [intOf]; omega
end Go.Proofs.YtbndhhjgjalecaaDoor
