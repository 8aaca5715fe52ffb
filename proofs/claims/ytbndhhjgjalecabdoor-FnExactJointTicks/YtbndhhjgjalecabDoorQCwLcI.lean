/- The least ticks from a couple to a couple, as the program tells it. -/
import Derived.Test.YtbndhhjgjalecabDoorQCwLbI
import Derived.Test.YtbndhhjgjalecabDoorQCwKc
import Derived.Deep.Cut
import Derived.Deep.CutRange
import Derived.Deep.LoopGhost
namespace Go.Proofs.YtbndhhjgjalecabDoor
open Go.RowKit Go.ChangeMaps

/-- how far each couple is, as the map tells it -/
def mP (n : Nat) (F : Nat → Int) (x : Int × Int) : Option Int := if 0 ≤ x.1 ∧ x.1 < (n : Int) ∧ 0 ≤ x.2 ∧ x.2 < (n : Int) ∧ 0 ≤ F (x.1.toNat * n + x.2.toNat) then some (F (x.1.toNat * n + x.2.toNat)) else none
abbrev SsP := Sst (κ := Int × Int) 48 kvP okP 2
/-- the numbers of the queue's couples -/
def gP (n : Nat) (T : Nat → Int) (i j : Nat) : Int := if j % 2 = 0 then (((T (i + j / 2)).toNat / n : Nat) : Int) else (((T (i + j / 2)).toNat % n : Nat) : Int)
theorem okP_nat {u v : Nat} (hu : u ≤ 1000000) (hv : v ≤ 1000000) : okP ((u : Int), (v : Int)) := ⟨WalkArith.wf_i64 (by omega), WalkArith.wf_i64 (by omega)⟩
def LsR2 (Nb : Nat → Nat → Prop) (n S E : Nat) (w0 : World) (Mb g : Nat) (v : Value) (wr : World) : Prop :=
  ∃ (F T : Nat → Int) (i nq : Nat), n * n ≤ g + i ∧ Bf (n * n) Nb S F T (i + nq) i (fun _ => False) ∧ (∀ j, j < i → T j ≠ (E : Int)) ∧ SsP w0 wr Mb (i + nq) (mP n F) v nq (gP n T i)
/-- the first j couples of a list -/
def SnC (n : Nat) (G : Nat → Int) (j q : Nat) : Prop := ∃ p u v : Nat, p < j ∧ G (p * 2) = (u : Int) ∧ G (p * 2 + 1) = (v : Int) ∧ q = u * n + v
def LsN2 (Nb : Nat → Nat → Prop) (n S E : Nat) (w0 : World) (Mb i P : Nat) (m : Nat) (G : Nat → Int) (lo hi : Nat) (r v : Value) (j : Nat) (wr : World) : Prop :=
  ∃ (F T : Nat → Int) (nq : Nat), Bf (n * n) Nb S F T (i + (nq + 1)) i (SnC n G j) ∧ T i = (P : Int) ∧ (∀ j, j < i + 1 → T j ≠ (E : Int)) ∧ SsP w0 wr Mb (i + (nq + 1)) (mP n F) v (nq + 1) (gP n T i) ∧ Qi wr lo 2 r m G ∧ (∀ q, r.ownBlock = some q → q < hi) ∧ Bn lo hi v ∧ hi ≤ wr.heap.size
section
variable {n : Nat} {F : Nat → Int} {u v : Nat}
theorem mP_some (hu : u < n) (hv : v < n) (h : 0 ≤ F (u * n + v)) : mP n F ((u : Int), (v : Int)) = some (F (u * n + v)) := by
  unfold mP; simp only [Int.toNat_natCast]; rw [if_pos ⟨by omega, by omega, by omega, by omega, h⟩]
theorem mP_none (h : F (u * n + v) < 0) : mP n F ((u : Int), (v : Int)) = none := by
  unfold mP; simp only [Int.toNat_natCast]; rw [if_neg (fun e => by omega)]
theorem mP_put {d : Int} (hd : 0 ≤ d) (hu : u < n) (hv : v < n) : mP n (put F (u * n + v) d) ((u : Int), (v : Int)) = some d ∧ ∀ y : Int × Int, y ≠ ((u : Int), (v : Int)) → mP n (put F (u * n + v) d) y = mP n F y := by
  refine ⟨?_, fun y hy => ?_⟩
  · have e : put F (u * n + v) d (u * n + v) = d := by simp [put]
    rw [mP_some hu hv (by rw [e]; exact hd), e]
  · unfold mP
    by_cases h : 0 ≤ y.1 ∧ y.1 < (n : Int) ∧ 0 ≤ y.2 ∧ y.2 < (n : Int)
    · have e : put F (u * n + v) d (y.1.toNat * n + y.2.toNat) = F (y.1.toNat * n + y.2.toNat) := by
        have : y.1.toNat * n + y.2.toNat ≠ u * n + v := fun e => hy (by
          have e1 := (pair_div (a := y.1.toNat) (n := n) (b := y.2.toNat) (by omega)).1
          have e2 := (pair_div (a := y.1.toNat) (n := n) (b := y.2.toNat) (by omega)).2
          rw [e, (pair_div hv).1] at e1
          rw [e, (pair_div hv).2] at e2
          exact Prod.ext (by show y.1 = (u : Int); omega) (by show y.2 = (v : Int); omega))
        simp [put, this]
      rw [e]
    · rw [if_neg (fun e => h ⟨e.1, e.2.1, e.2.2.1, e.2.2.2.1⟩), if_neg (fun e => h ⟨e.1, e.2.1, e.2.2.1, e.2.2.2.1⟩)]
end
theorem rq_app {w0 w3 : World} {lo hi m : Nat} {r v : Value} {G : Nat → Int} {o : Obj} (h : Qi w0 lo 2 r m G) (hh : ∀ q, r.ownBlock = some q → q < hi) (hb : Bn lo hi v) (hg : (w0.alloc o).grownBy w3 v.ownBlock) : Qi w3 lo 2 r m G :=
  (h.on ((Below.refl w0.heap.size w0).alloc (Nat.le_refl _) o)).heap hg.size fun q hq => by
    have h1 := (h.on ((Below.refl w0.heap.size w0).alloc (Nat.le_refl _) o)).lt q hq
    exact hg.block q h1.2 (fun e => by
      have := hb q e.symm
      have := hh q hq
      omega)
/-- what the store of a couple's ticks leaves -/
def CutS (Nb : Nat → Nat → Prop) (n S E : Nat) (w0 : World) (Mb i P u v : Nat) (m : Nat) (G : Nat → Int) (lo hi : Nat) (r q : Value) (j Pb : Nat) (wx : World) : Prop :=
  ∃ (F T : Nat → Int) (nq : Nat), Bf (n * n) Nb S F (put T (i + (nq + 1)) ((u * n + v : Nat) : Int)) (i + (nq + 1) + 1) i (SnC n G (j + 1)) ∧ T i = (P : Int) ∧ (∀ k, k < i + 1 → T k ≠ (E : Int)) ∧ SsP w0 wx Mb (i + (nq + 1) + 1) (mP n F) q (nq + 1) (gP n T i) ∧ Qi wx lo 2 r m G ∧ (∀ q, r.ownBlock = some q → q < hi) ∧ Bn lo hi q ∧ hi ≤ wx.heap.size ∧ Bx wx Pb [.int .i64 (u : Int), .int .i64 (v : Int)] ∧ nq ≤ 100000
theorem snC_step {n : Nat} {G : Nat → Int} {j u v : Nat} (h0 : G (j * 2) = (u : Int)) (h1 : G (j * 2 + 1) = (v : Int)) : SnC n G (j + 1) = fun q => SnC n G j q ∨ q = u * n + v := by
  funext q
  refine propext ⟨?_, ?_⟩
  · rintro ⟨p, u', v', hp, g0, g1, e⟩
    by_cases e2 : p = j
    · subst e2
      have e3 : u' = u := by omega
      have e4 : v' = v := by omega
      exact .inr (by rw [e, e3, e4])
    · exact .inl ⟨p, u', v', by omega, g0, g1, e⟩
  · rintro (⟨p, u', v', hp, g0, g1, e⟩ | e)
    · exact ⟨p, u', v', by omega, g0, g1, e⟩
    · exact ⟨j, u, v, by omega, h0, h1, e⟩
theorem gP_app {n : Nat} {T : Nat → Int} {i nq u v : Nat} (hv : v < n) (k : Nat) (hk : k < (nq + 1 + 1) * 2) :
    (if k < (nq + 1) * 2 then gP n T i k else (fun j => if j = 0 then (u : Int) else (v : Int)) (k - (nq + 1) * 2)) = gP n (put T (i + (nq + 1)) ((u * n + v : Nat) : Int)) i k := by
  by_cases e : k < (nq + 1) * 2
  · rw [if_pos e]
    unfold gP
    have h1 : put T (i + (nq + 1)) ((u * n + v : Nat) : Int) (i + k / 2) = T (i + k / 2) := if_neg (by omega)
    rw [h1]
  · rw [if_neg e]
    unfold gP
    have h1 : put T (i + (nq + 1)) ((u * n + v : Nat) : Int) (i + k / 2) = ((u * n + v : Nat) : Int) := if_pos (by omega)
    rw [h1, Int.toNat_natCast, (pair_div hv).1, (pair_div hv).2]
    by_cases e2 : k = (nq + 1) * 2
    · subst e2
      simp
    · have e3 : k = (nq + 1) * 2 + 1 := by omega
      subst e3
      simp [Nat.add_mod]
set_option maxRecDepth 20000 in
set_option maxHeartbeats 8000000 in
theorem least_couple (W : Int) (a : Option Addr) (n c : Nat) (f : Nat → Int) (S0 S1 E0 E1 : Nat) (w : World) (hf : IL w a n f) (hs : sizedB W n = true) (hS0 : S0 < n) (hS1 : S1 < n) (hE0 : E0 < n) (hE1 : E1 < n) (hT : Tab w) :
    Calls Tryd.prog 15 #[cpv (S0 : Int) (S1 : Int), cpv (E0 : Int) (E1 : Int), .func (.func 16) #[gr W (hgt W n) a n c] #[]] w fun e w' => AnsDi (JNb W n f) (S0 * n + S1) (E0 * n + E1) e ∧ Below w.heap.size w w' := by
  obtain ⟨i0, hi, hzz⟩ := Option.map_eq_some_iff.1 infoC
  simp only [Prod.mk.injEq] at hzz
  obtain ⟨hz0, hz1, hz2⟩ := hzz
  have hn := sized_le hs
  have hnn : n * n ≤ 65536 := Nat.mul_le_mul hn.2 hn.2
  have hS := pair_lt hS0 hS1
  have hE := pair_lt hE0 hE1
  have hNN : Hid (∀ u v, u < n * n → JNb W n f u v → v < n * n) := fun u v _ h => h.lt
  have bS := ((bx_new (w := w) [.int .i64 (S0 : Int), .int .i64 (S1 : Int)] 48 rfl).alloc (.cells #[.int .i64 (E0 : Int), .int .i64 (E1 : Int)] 48)).alloc (.map #[] 0)
  have bE := (bx_new (w := w.alloc (.cells #[.int .i64 (S0 : Int), .int .i64 (S1 : Int)] 48)) (b := w.heap.size + 1) [.int .i64 (E0 : Int), .int .i64 (E1 : Int)] 48 (by simp)).alloc (.map #[] 0)
  have hMe : ((w.alloc (.cells #[.int .i64 (S0 : Int), .int .i64 (S1 : Int)] 48)).alloc (.cells #[.int .i64 (E0 : Int), .int .i64 (E1 : Int)] 48)).heap.size = w.heap.size + 1 + 1 := by simp
  have hMm := mi_made ((w.alloc (.cells #[.int .i64 (S0 : Int), .int .i64 (S1 : Int)] 48)).alloc (.cells #[.int .i64 (E0 : Int), .int .i64 (E1 : Int)] 48)) 48 kvP okP
  rw [hMe] at hMm
  have hmm : (Instr.makeMap 58 none).run Tryd.prog ((w.alloc (.cells #[.int .i64 (S0 : Int), .int .i64 (S1 : Int)] 48)).alloc (.cells #[.int .i64 (E0 : Int), .int .i64 (E1 : Int)] 48)) = .ok (.map (some (w.heap.size + 1 + 1))) (((w.alloc (.cells #[.int .i64 (S0 : Int), .int .i64 (S1 : Int)] 48)).alloc (.cells #[.int .i64 (E0 : Int), .int .i64 (E1 : Int)] 48)).alloc (.map #[] 0)) := by rw [← hMe]; rfl
  have hb3 : Below w.heap.size w (((w.alloc (.cells #[.int .i64 (S0 : Int), .int .i64 (S1 : Int)] 48)).alloc (.cells #[.int .i64 (E0 : Int), .int .i64 (E1 : Int)] 48)).alloc (.map #[] 0)) := (((Below.refl _ _).alloc (Nat.le_refl _) _).alloc (by simp) _).alloc (by simp; omega) _
  obtain ⟨w1, hrun1, hM1, ht1⟩ := hMm.store kkC (by omega) (x := ((S0 : Int), (S1 : Int))) (okP_nat (by omega) (by omega)) (v := 0) (by decide) (M' := mP n (put (fun _ => -1) (S0 * n + S1) 0)) (mP_put (by omega) hS0 hS1).1 (fun y hy => by
    rw [(mP_put (by omega) hS0 hS1).2 y hy]; unfold mP; exact if_neg (fun e => by have h9 : (0 : Int) ≤ -1 := e.2.2.2.2; omega))
  have hrun1 : (Instr.mapUpdate 58 (.map (some (w.heap.size + 1 + 1))) (cpv (S0 : Int) (S1 : Int)) (.int .i64 0)).run Tryd.prog (((w.alloc (.cells #[.int .i64 (S0 : Int), .int .i64 (S1 : Int)] 48)).alloc (.cells #[.int .i64 (E0 : Int), .int .i64 (E1 : Int)] 48)).alloc (.map #[] 0)) = .ok () w1 := hrun1
  have hB1 : Below w.heap.size w w1 := hb3.trans ((turned_turns ht1).below (by omega) hb3.size)
  have bS1 := bS.turns (turned_turns ht1) (by omega)
  have bE1 := bE.turns (turned_turns ht1) (by omega)
  have hlt1 := hM1.lt
  have x0 := bS.c0
  have x1 := bS.c1
  have y0 := bS1.c0
  have y1 := bS1.c1
  have hq0 : Qi (w1.alloc (.cells #[.int .i64 (S0 : Int), .int .i64 (S1 : Int)] 48)) w1.heap.size 2 (.slice (some ⟨w1.heap.size, 0, none⟩) 1 1) 1 (gP n (fun _ => ((S0 * n + S1 : Nat) : Int)) 0) := by
    have b9 := bx_new (w := w1) (b := w1.heap.size) [.int .i64 (S0 : Int), .int .i64 (S1 : Int)] 48 rfl
    refine ⟨w1.heap.size, 0, 1, rfl, Nat.le_refl _, b9.lt, Nat.le_refl _, fun j hj => ?_, fun j hj => ?_, b9.fz⟩
    · unfold gP
      rw [Int.toNat_natCast, (pair_div hS1).1, (pair_div hS1).2, Nat.zero_add]
      match j, hj with
      | 0, _ => exact b9.c0
      | 1, _ => exact b9.c1
    · rw [Nat.zero_add]
      match j, hj with
      | 0, _ => rw [b9.c0]; rfl
      | 1, _ => rw [b9.c1]; rfl
  have hal : Below w1.heap.size w1 (w1.alloc (.cells #[.int .i64 (S0 : Int), .int .i64 (S1 : Int)] 48)) := (Below.refl _ _).alloc (Nat.le_refl _) _
  have HL0 : Hid (LsR2 (JNb W n f) n (S0 * n + S1) (E0 * n + E1) w1 (w.heap.size + 1 + 1) (n * n) (.slice (some ⟨w1.heap.size, 0, none⟩) 1 1) (w1.alloc (.cells #[.int .i64 (S0 : Int), .int .i64 (S1 : Int)] 48))) :=
    ⟨_, fun _ => ((S0 * n + S1 : Nat) : Int), 0, 1, by omega, bf_start hS _ rfl, fun j hj => absurd hj (Nat.not_lt_zero _), ⟨hM1.on hal, hq0, turns_of hal, hlt1⟩⟩
  have HBE : Hid (Bx w1 (w.heap.size + 1) [.int .i64 (E0 : Int), .int .i64 (E1 : Int)]) := bE1
  have HEN : Hid (∀ P0 P1 : Nat, P1 < n → (P0 * n + P1 = E0 * n + E1 ↔ (P0 = E0 ∧ P1 = E1))) := fun P0 P1 hP => ⟨fun e => by
    have e1 := (pair_div (a := P0) hP).1
    have e2 := (pair_div (a := P0) hP).2
    rw [e, (pair_div hE1).1] at e1
    rw [e, (pair_div hE1).2] at e2
    exact ⟨e1.symm, e2.symm⟩, fun ⟨e1, e2⟩ => by rw [e1, e2]⟩
  have HSE : Hid (E0 * n + E1 < n * n) := hE
  obtain ⟨H, eH⟩ : ∃ H, hgt W n = H := ⟨_, rfl⟩
  have HH : Hid (hgt W n = H) := eH
  rw [eH]
  clear hq0 hal hM1 ht1 hb3 hMm bS bE bS1 bE1 eH hMe hS
  generalize hSS : S0 * n + S1 = S at *
  clear hSS
  go_enter Tryd.func15, Tryd.ntmps15
  go_wp2
  clear hrun1 hmm x0 x1 y0 y1
  go_loopg [8] (n * n) (fun g v wr => LsR2 (JNb W n f) n S (E0 * n + E1) w1 (w.heap.size + 1 + 1) g v wr)
  case atStart => exact HL0.out
  case round =>
    obtain ⟨F, T, i, nq, hgi, hBf, hne, hSs⟩ := hrel
    clear HL0
    have HBf : Hid (Bf (n * n) (JNb W n f) S F T (i + nq) i (fun _ => False)) := hBf
    have HNE : Hid (∀ j, j < i → T j ≠ ((E0 * n + E1 : Nat) : Int)) := hne
    have hLn := hBf.le
    have hBel := hSs.below (B := w.heap.size) (by omega)
    have hBW : Below w.heap.size w wr := hB1.trans hBel
    have hfr : IL wr a n f := hf.below hBW
    have hTr := hT.on hBW
    have bE2 : Bx wr (w.heap.size + 1) [.int .i64 (E0 : Int), .int .i64 (E1 : Int)] := Bx.turns HBE.out hSs.tn (by omega)
    cases nq with
    | zero =>
      obtain ⟨g0, off0, cap0, rfl, -, -, -, -⟩ := hSs.q.shape
      have HR : Hid (AnsDi (JNb W n f) S (E0 * n + E1) (.returned (.int .i64 (-1)))) := ⟨-1, rfl, (HBf.out : Bf (n * n) (JNb W n f) S F T (i + 0) i (fun _ => False)).never hNN.out HSE.out HNE.out⟩
      clear hBf hne hSs hfr hTr bE2
      go_wp2
      go_ret
      exact ⟨HR.out, hBW⟩
    | succ nq =>
      obtain ⟨t0, t1, t2⟩ := hBf.inT i (by omega)
      obtain ⟨P, hP⟩ : ∃ P : Nat, T i = (P : Int) := ⟨(T i).toNat, by omega⟩
      have hPn : P < n * n := by omega
      obtain ⟨P0, P1, hP0, hP1, hPe⟩ : ∃ P0 P1, P0 < n ∧ P1 < n ∧ P = P0 * n + P1 := ⟨P / n, P % n, Nat.div_lt_of_lt_mul hPn, Nat.mod_lt _ (by omega), by have := Nat.div_add_mod P n; rw [Nat.mul_comm] at this; omega⟩
      have hFP : 0 ≤ F (P0 * n + P1) := by rw [hP, Int.toNat_natCast, hPe] at t2; exact t2
      have hlk := hSs.map.at kkC (x := ((P0 : Int), (P1 : Int))) (okP_nat (by omega) (by omega))
      rw [mP_some hP0 hP1 hFP] at hlk
      have hlk0 : (Instr.lookup 58 (.map (some (w.heap.size + 1 + 1))) (cpv (P0 : Int) (P1 : Int)) false).run Tryd.prog wr = .ok (.int .i64 (F (P0 * n + P1))) wr := hlk
      have hBt : Below wr.heap.size wr (wr.alloc (.cells #[.int .i64 (P0 : Int), .int .i64 (P1 : Int)] 48)) := (Below.refl _ _).alloc (Nat.le_refl _) _
      have hlk2 := (hSs.on hBt).map.at kkC (x := ((P0 : Int), (P1 : Int))) (okP_nat (by omega) (by omega))
      rw [mP_some hP0 hP1 hFP] at hlk2
      have hlk3 : (Instr.lookup 58 (.map (some (w.heap.size + 1 + 1))) (cpv (P0 : Int) (P1 : Int)) false).run Tryd.prog (wr.alloc (.cells #[.int .i64 (P0 : Int), .int .i64 (P1 : Int)] 48)) = .ok (.int .i64 (F (P0 * n + P1))) (wr.alloc (.cells #[.int .i64 (P0 : Int), .int .i64 (P1 : Int)] 48)) := hlk2
      obtain ⟨g0, off0, cap0, rfl, hg1, hg2, hcap, hcells⟩ := hSs.q.shape
      have z0 := hcells 0 (by omega)
      have z1 := hcells 1 (by omega)
      have e0 : gP n T i 0 = (P0 : Int) := by
        show (((T (i + 0)).toNat / n : Nat) : Int) = _
        rw [Nat.add_zero, hP, Int.toNat_natCast, hPe, (pair_div hP1).1]
      have e1 : gP n T i 1 = (P1 : Int) := by
        show (((T (i + 0)).toNat % n : Nat) : Int) = _
        rw [Nat.add_zero, hP, Int.toNat_natCast, hPe, (pair_div hP1).2]
      rw [e0] at z0
      rw [e1] at z1
      simp only [Nat.add_zero] at z0
      have j1 : (0 : Int) < ((nq + 1 : Nat) : Int) := by omega
      have hbT := bx_new (w := wr) (b := wr.heap.size) [.int .i64 (P0 : Int), .int .i64 (P1 : Int)] 48 rfl
      have HSs : Hid (SsP w1 wr (w.heap.size + 1 + 1) (i + (nq + 1)) (mP n F) (.slice (some ⟨g0, off0, none⟩) (nq + 1) cap0) (nq + 1) (gP n T i)) := hSs
      have HP : Hid (T i = (P : Int)) := hP
      have hsz := hSs.size
      have HE1 : Hid (P = E0 * n + E1 → AnsDi (JNb W n f) S (E0 * n + E1) (.returned (.int .i64 (F (P0 * n + P1))))) := fun e => ⟨F (P0 * n + P1), rfl, by
        have := (HBf.out : Bf (n * n) (JNb W n f) S F T (i + (nq + 1)) i (fun _ => False)).early (by omega) hNN.out HP.out
        rw [← hPe, ← e]; exact this⟩
      have hEq := eq_couple (P0 : Int) (P1 : Int) (E0 : Int) (E1 : Int)
      have kN := both_any W a n c f P0 P1 (wr.alloc (.cells #[.int .i64 (P0 : Int), .int .i64 (P1 : Int)] 48)) (hfr.below hBt) hs hP0 hP1 (hTr.on hBt)
      rw [HH.out] at kN
      have hB0 := HBf.out
      have ee0 := bE2.c0
      have ee1 := bE2.c1
      have lE := bE2.lt
      clear hBf hne hSs hcells hP t0 t1 t2 hlk hlk2 hlk0 e0 e1 hfr hTr
      have HPE : Hid (P = P0 * n + P1) := hPe
      cases r : (decide ((P0 : Int) = (E0 : Int)) && decide ((P1 : Int) = (E1 : Int))) with
      | true =>
        rw [r] at hEq
        have hPE : P = E0 * n + E1 := by
          simp only [Bool.and_eq_true, decide_eq_true_eq] at r
          rw [hPe]
          exact (HEN.out P0 P1 hP1).2 ⟨by omega, by omega⟩
        have HR2 : Hid (AnsDi (JNb W n f) S (E0 * n + E1) (.returned (.int .i64 (F (P0 * n + P1))))) := HE1.out hPE
        clear HE1 hPE kN hB0 r hPe
        generalize F (P0 * n + P1) = d at *
        go_wp2
        go_ret
        exact ⟨HR2.out, stepA hBW hBt⟩
      | false =>
        rw [r] at hEq
        have hPE : P ≠ E0 * n + E1 := fun e => by
          rw [hPe] at e
          have := (HEN.out P0 P1 hP1).1 e
          rw [this.1, this.2] at r
          simp at r
        have HNE2 : Hid (∀ j, j < i + 1 → T j ≠ ((E0 * n + E1 : Nat) : Int)) := fun j hj => by
          by_cases e : j = i
          · subst e; rw [HP.out]; omega
          · exact HNE.out j (by omega)
        clear HE1 hPE hlk3 r hPe
        go_wp2_with fail
        clear hEq
        refine kN.mono ?_
        rintro e w2 ⟨⟨rv, m, G, rfl, hm25, hRq, hPrs, hAll⟩, hb2⟩
        clear kN z0 z1 ee0 ee1
        have hb2' := stepA hBt hb2
        have bT2 := hbT.on hb2
        have hS2 := (HSs.out : SsP w1 wr (w.heap.size + 1 + 1) (i + (nq + 1)) (mP n F) (.slice (some ⟨g0, off0, none⟩) (nq + 1) cap0) (nq + 1) (gP n T i)).on hb2'
        have hbn := (HSs.out : SsP w1 wr (w.heap.size + 1 + 1) (i + (nq + 1)) (mP n F) (.slice (some ⟨g0, off0, none⟩) (nq + 1) cap0) (nq + 1) (gP n T i)).bn (wr.heap.size + 1) w2.heap.size (by omega)
        rw [size_al] at hRq
        have HN0 : Hid (LsN2 (JNb W n f) n S (E0 * n + E1) w1 (w.heap.size + 1 + 1) i P m G (wr.heap.size + 1) w2.heap.size rv (.slice (some ⟨g0, off0, none⟩) (nq + 1) cap0) 0 w2) :=
          ⟨F, T, nq, hB0.weak (fun u h => by obtain ⟨p, _, _, hp, _⟩ := h; omega), HP.out, HNE2.out, hS2, hRq, fun q hq => (hRq.lt q hq).2, hbn, Nat.le_refl _⟩
        obtain ⟨rb, roff, rcap, rfl, hr1, hr2, hr3, -⟩ := hRq.shape
        obtain ⟨lo, hlo⟩ : ∃ lo, lo = wr.heap.size + 1 := ⟨_, rfl⟩
        obtain ⟨hi_, hhi⟩ : ∃ hi_, hi_ = w2.heap.size := ⟨_, rfl⟩
        obtain ⟨Ab, hAb⟩ : ∃ Ab, Ab = wr.heap.size := ⟨_, rfl⟩
        rw [← hlo, ← hhi] at HN0
        rw [← hAb] at bT2 ⊢
        have hloM : w.heap.size + 1 + 1 + 1 ≤ lo := by omega
        have hAbM : w1.heap.size ≤ Ab := by omega
        have hAlo : Ab < lo := by omega
        have HBT2 : Hid (Bx w2 Ab [.int .i64 (P0 : Int), .int .i64 (P1 : Int)]) := bT2
        have HGet : Hid (∀ k, k < m → ∃ u v : Nat, G (k * 2) = (u : Int) ∧ G (k * 2 + 1) = (v : Int) ∧ u < n ∧ v < n ∧ JNb W n f (P0 * n + P1) (u * n + v)) := hPrs.each
        have HAll : Hid (∀ q, JNb W n f (P0 * n + P1) q → SnC n G m q) := fun q hq => by
          obtain ⟨u, v, e, k, hk, g0, g1⟩ := hAll q hq
          exact ⟨k, u, v, hk, g0, g1, e⟩
        have HBn0 : Hid (Bn lo hi_ (.slice (some ⟨g0, off0, none⟩) (nq + 1) cap0)) := by rw [hlo, hhi]; exact hbn
        have hgA : g0 < Ab := by omega
        clear hS2 hbn hRq hb2 hB0 HSs HBf hlo hhi hBW hBel hsz hFP hbT hb2' bT2 hPrs hAll hBt hAb bE2
        go_wp2
        go_loopw [8, 37] (fun v r wx => ∃ j : Nat, j ≤ m ∧ r = .int .i64 (j : Int) ∧ LsN2 (JNb W n f) n S (E0 * n + E1) w1 (w.heap.size + 1 + 1) i P m G lo hi_ (.slice (some ⟨rb, roff, none⟩) m rcap) v j wx ∧ Bx wx Ab [.int .i64 (P0 : Int), .int .i64 (P1 : Int)] ∧ Bn Ab (Ab + 1) v) (fun _ r _ => m - (intOf r).toNat)
        case atStart => exact ⟨0, Nat.zero_le _, rfl, HN0.out, HBT2.out, fun q hq => .inl (by simp [Value.ownBlock] at hq; omega)⟩
        case round =>
          obtain ⟨j, hj, rfl, ⟨F, T, nq, hBf, hTi, hnE, hSs, hRq, hRh, hbn, hhi⟩, bA, hbA⟩ := hrel
          clear HN0 HBT2
          have hsz := hSs.size
          have hLn := hBf.le
          obtain ⟨g0, off0, cap0, rfl, hg1, hg2, hcap, hcells⟩ := hSs.q.shape
          by_cases hlt : j < m
          · obtain ⟨u, v, hu, hv, hun, hvn, hst⟩ := HGet.out j hlt
            have hqn : u * n + v < n * n := pair_lt hun hvn
            obtain ⟨rb', ro', rc', hre, -, -, -, hrcells⟩ := hRq.shape
            simp only [Value.slice.injEq, Option.some.injEq, Addr.mk.injEq] at hre
            obtain ⟨⟨rfl, rfl, -⟩, -, rfl⟩ := hre
            have y0 := hrcells (j * 2) (by omega)
            have y1 := hrcells (j * 2 + 1) (by omega)
            rw [hu] at y0
            rw [hv] at y1
            rw [← Nat.add_assoc] at y1
            have j0 : (0 : Int) ≤ (j : Int) := by omega
            have j2 : (j : Int) < (m : Int) := by omega
            have hBt : Below wr.heap.size wr (wr.alloc (.cells #[.int .i64 (u : Int), .int .i64 (v : Int)] 48)) := (Below.refl _ _).alloc (Nat.le_refl _) _
            have bP := bx_new (w := wr) (b := wr.heap.size) [.int .i64 (u : Int), .int .i64 (v : Int)] 48 rfl
            have hS4 := hSs.on hBt
            have hR4 := hRq.on hBt
            have bA4 := bA.on hBt
            have hhi4 : hi_ ≤ (wr.alloc (.cells #[.int .i64 (u : Int), .int .i64 (v : Int)] 48)).heap.size := by simp; omega
            have hlk := hS4.map.look kkC (x := ((u : Int), (v : Int))) (okP_nat (by omega) (by omega))
            have hPP : P = P0 * n + P1 := HPE.out
            have h0P : 0 ≤ F (P0 * n + P1) := by have := (hBf.inT i (by omega)).2.2; rw [hTi, Int.toNat_natCast, hPP] at this; exact this
            have hbP : F (P0 * n + P1) ≤ 100000 := by have := hBf.bnd i (by omega); rw [hTi, Int.toNat_natCast, hPP] at this; omega
            have HSN : Hid (SnC n G (j + 1) = fun q => SnC n G j q ∨ q = u * n + v) := snC_step hu hv
            have lP := bP.lt
            by_cases hF : 0 ≤ F (u * n + v)
            · have HN2 : Hid (LsN2 (JNb W n f) n S (E0 * n + E1) w1 (w.heap.size + 1 + 1) i P m G lo hi_ (.slice (some ⟨rb, roff, none⟩) m rcap) (.slice (some ⟨g0, off0, none⟩) (nq + 1) cap0) (j + 1) (wr.alloc (.cells #[.int .i64 (u : Int), .int .i64 (v : Int)] 48))) :=
                ⟨F, T, nq, by rw [HSN.out]; exact hBf.skip (by omega) hqn hF, hTi, hnE, hS4, hR4, hRh, hbn, hhi4⟩
              rw [mP_some hun hvn hF] at hlk
              have hlk : (Instr.lookup 58 (.map (some (w.heap.size + 1 + 1))) (cpv (u : Int) (v : Int)) true).run Tryd.prog (wr.alloc (.cells #[.int .i64 (u : Int), .int .i64 (v : Int)] 48)) = .ok (.tuple #[.int .i64 (F (u * n + v)), .bool true]) (wr.alloc (.cells #[.int .i64 (u : Int), .int .i64 (v : Int)] 48)) := hlk
              clear hBf hSs hcells hRq hbn HSN hS4 hR4 hrcells
              generalize F (u * n + v) = d at *
              go_wp2
              exact ⟨⟨j + 1, by omega, by go_num, HN2.out, bA4, hbA⟩, by simp [intOf]; omega⟩
            · have hF' : F (u * n + v) < 0 := by omega
              rw [mP_none hF'] at hlk
              have hlk : (Instr.lookup 58 (.map (some (w.heap.size + 1 + 1))) (cpv (u : Int) (v : Int)) true).run Tryd.prog (wr.alloc (.cells #[.int .i64 (u : Int), .int .i64 (v : Int)] 48)) = .ok (.tuple #[.int .i64 0, .bool false]) (wr.alloc (.cells #[.int .i64 (u : Int), .int .i64 (v : Int)] 48)) := hlk
              have hB2 := hBf.found (by omega) hqn hF' (by rw [hTi, Int.toNat_natCast, hPP]; exact hst)
              rw [hTi, Int.toNat_natCast, hPP] at hB2
              rw [← HSN.out] at hB2
              have hnq : nq ≤ 100000 := by omega
              have hAbr := bA.lt
              have HB2 : Hid (Bf (n * n) (JNb W n f) S (put F (u * n + v) (F (P0 * n + P1) + 1)) (put T (i + (nq + 1)) ((u * n + v : Nat) : Int)) (i + (nq + 1) + 1) i (SnC n G (j + 1))) := hB2
              have HTI : Hid (T i = (P : Int)) := hTi
              have HNE3 : Hid (∀ k, k < i + 1 → T k ≠ ((E0 * n + E1 : Nat) : Int)) := hnE
              clear hBf hSs hcells hRq hB2 hF hF' hTi hnE bA HSN hrcells
              go_upto_region 13 with fail
              clear hlk y0 y1
              obtain ⟨Pb, ePb⟩ : ∃ Pb, Pb = wr.heap.size := ⟨_, rfl⟩
              rw [← ePb] at bP ⊢
              have hPbA : Ab < Pb := by omega
              have hPbw : w1.heap.size ≤ Pb := by omega
              clear ePb hAbr
              generalize wr.alloc (.cells #[.int .i64 (u : Int), .int .i64 (v : Int)] 48) = w4 at *
              have hSd := hS4.on (Below.refl w4.heap.size w4).drew
              have hlk2 := hSd.map.at kkC (x := ((P0 : Int), (P1 : Int))) (okP_nat (by omega) (by omega))
              rw [mP_some hP0 hP1 h0P] at hlk2
              have hlk2 : (Instr.lookup 58 (.map (some (w.heap.size + 1 + 1))) (cpv (P0 : Int) (P1 : Int)) false).run Tryd.prog w4.drew = .ok (.int .i64 (F (P0 * n + P1))) w4.drew := hlk2
              obtain ⟨w5, hrun5, hM5, ht5⟩ := hSd.map.store kkC (by omega) (x := ((u : Int), (v : Int))) (okP_nat (by omega) (by omega)) (v := F (P0 * n + P1) + 1) (WalkArith.wf_i64 (by omega)) (M' := mP n (put F (u * n + v) (F (P0 * n + P1) + 1))) (mP_put (by omega) hun hvn).1 (mP_put (by omega) hun hvn).2
              have hrun5 : (Instr.mapUpdate 58 (.map (some (w.heap.size + 1 + 1))) (cpv (u : Int) (v : Int)) (.int .i64 (F (P0 * n + P1) + 1))).run Tryd.prog w4.drew = .ok () w5 := hrun5
              have hT5 := turned_turns ht5
              have HC5 : Hid (CutS (JNb W n f) n S (E0 * n + E1) w1 (w.heap.size + 1 + 1) i P u v m G lo hi_ (.slice (some ⟨rb, roff, none⟩) m rcap) (.slice (some ⟨g0, off0, none⟩) (nq + 1) cap0) j Pb w5 ∧ Bx w5 Ab [.int .i64 (P0 : Int), .int .i64 (P1 : Int)]) :=
                (⟨⟨_, T, nq, HB2.out, HTI.out, HNE3.out, hSd.store ht5 hM5, (hR4.on (Below.refl w4.heap.size w4).drew).turns hT5 (by omega), hRh, hbn, Nat.le_trans hhi4 hT5.size, (bP.on (Below.refl w4.heap.size w4).drew).turns hT5 (by omega), hnq⟩, (bA4.on (Below.refl w4.heap.size w4).drew).turns hT5 (by omega)⟩ : _ ∧ _)
              have p0 := (bP.on (Below.refl w4.heap.size w4).drew).c0
              have p1 := (bP.on (Below.refl w4.heap.size w4).drew).c1
              have a0 := (bA4.on (Below.refl w4.heap.size w4).drew).c0
              have a1 := (bA4.on (Below.refl w4.heap.size w4).drew).c1
              have i1 : -9223372036854775808 ≤ F (P0 * n + P1) + 1 := by omega
              have i2 : F (P0 * n + P1) + 1 ≤ 9223372036854775807 := by omega
              clear hSd hM5 ht5 hT5 hS4 hR4 bP bA4 HB2 HTI HNE3
              generalize F (P0 * n + P1) = d at *
              go_cut [] from 49 to 54 (fun wx => CutS (JNb W n f) n S (E0 * n + E1) w1 (w.heap.size + 1 + 1) i P u v m G lo hi_ (.slice (some ⟨rb, roff, none⟩) m rcap) (.slice (some ⟨g0, off0, none⟩) (nq + 1) cap0) j Pb wx ∧ Bx wx Ab [.int .i64 (P0 : Int), .int .i64 (P1 : Int)])
              case first =>
                go_region
                all_goals
                  go_wp2_with fail
                  go_meet
                  case rel => exact HC5.out
              case rest =>
                obtain ⟨⟨F2, T2, nq2, hB5, hTi5, hnE5, hS5, hR5, hRh5, hbn5, hhi5, bP5, hnq5⟩, bA5⟩ := hcut
                generalize wc = w6 at *
                clear HC5 hrun5 hlk2 p0 p1 a0 a1 i1 i2
                obtain ⟨ge, oe, ce, hve, -⟩ := hS5.q.shape
                simp only [Value.slice.injEq] at hve
                obtain ⟨-, hnqe, -⟩ := hve
                have hnqe2 : nq = nq2 := by omega
                subst hnqe2
                have p0 := bP5.c0
                have p1 := bP5.c1
                have hsz6 := hS5.size
                have HB5 : Hid (Bf (n * n) (JNb W n f) S F2 (put T2 (i + (nq + 1)) ((u * n + v : Nat) : Int)) (i + (nq + 1) + 1) i (SnC n G (j + 1))) := hB5
                have HT5 : Hid (put T2 (i + (nq + 1)) ((u * n + v : Nat) : Int) i = (P : Int)) := by show put T2 (i + (nq + 1)) ((u * n + v : Nat) : Int) i = (P : Int); simp [put, hTi5]
                have HNE5 : Hid (∀ k, k < i + 1 → put T2 (i + (nq + 1)) ((u * n + v : Nat) : Int) k ≠ ((E0 * n + E1 : Nat) : Int)) := fun k hk => by
                  have e : put T2 (i + (nq + 1)) ((u * n + v : Nat) : Int) k = T2 k := if_neg (by omega)
                  rw [e]; exact hnE5 k hk
                have HS5 : Hid (SsP w1 w6 (w.heap.size + 1 + 1) (i + (nq + 1) + 1) (mP n F2) (.slice (some ⟨g0, off0, none⟩) (nq + 1) cap0) (nq + 1) (gP n T2 i)) := hS5
                have HR5 : Hid (Qi w6 lo 2 (.slice (some ⟨rb, roff, none⟩) m rcap) m G) := hR5
                have HBA5 : Hid (Bx w6 Ab [.int .i64 (P0 : Int), .int .i64 (P1 : Int)]) := bA5
                have hal : Qi (w6.alloc (.cells #[.int .i64 (u : Int), .int .i64 (v : Int)] 48)) w1.heap.size 2 (.slice (some ⟨g0, off0, none⟩) (nq + 1) cap0) (nq + 1) (gP n T2 i) := hS5.q.on ((Below.refl _ _).alloc (Nat.le_refl _) _)
                have b1 : w1.heap.size ≤ (w6.alloc (.cells #[.int .i64 (u : Int), .int .i64 (v : Int)] 48)).heap.size := by simp; omega
                clear hB5 hTi5 hnE5 hS5 hR5 bA5 bP5
                go_wp2_with (first | (at_builtin; refine wpList_append_qi rfl _ _ 59 rfl 48 i0 (.agg #[.int .i64 0, .int .i64 0]) 2 16 Tryd.underlying59 hi hz0 hz1 hz2 rfl (by decide) rfl hal b1 ⟨w6.heap.size, 0, none⟩ 1 (fun j => if j = 0 then (u : Int) else (v : Int)) rfl (cell_two_new _ _ _ _) (by unfold maxLen; omega) (by omega) ?_; intro v' w7 hq7 hgr7 hwh7) | fail)
                have hS7 := (HS5.out : SsP w1 w6 (w.heap.size + 1 + 1) (i + (nq + 1) + 1) (mP n F2) (.slice (some ⟨g0, off0, none⟩) (nq + 1) cap0) (nq + 1) (gP n T2 i)).app hgr7 hq7
                have bA7 : Bx w7 Ab [.int .i64 (P0 : Int), .int .i64 (P1 : Int)] := by
                  have b8 := HBA5.out.alloc (.cells #[.int .i64 (u : Int), .int .i64 (v : Int)] 48)
                  have e8 := hgr7.block Ab b8.lt (fun e => by have := hbA Ab e.symm; omega)
                  exact ⟨Nat.lt_of_lt_of_le b8.lt hgr7.size, fun k hk => (cell_same e8 _).trans (b8.c k hk), fun k => (frozen_same e8 k).trans (b8.fz k)⟩
                have hs7 := hgr7.size
                rw [size_al] at hs7
                exact ⟨⟨j + 1, by omega, by go_num, ⟨F2, put T2 (i + (nq + 1)) ((u * n + v : Nat) : Int), nq + 1, HB5.out, HT5.out, HNE5.out, hS7.congr (fun x _ => rfl) (fun k hk => gP_app hvn k hk), rq_app HR5.out hRh5 hbn5 hgr7, hRh5, whr_bn hwh7 hbn5 (by simp; omega), by omega⟩, bA7, whr_bn hwh7 hbA (by simp; have := HBA5.out.lt; omega)⟩, by simp [intOf]; omega⟩
          · have hje : j = m := by omega
            have hrc := run_cut 59 48 i0 2 Tryd.underlying59 hi hz1 (some ⟨g0, off0, none⟩) (nq + 1) cap0 (by omega) hcap wr
            have hqc := hSs.q.cut (some ⟨g0, off0, none⟩) cap0 rfl
            obtain ⟨v2, hv2⟩ : ∃ v2, (Value.slice (if cap0 - 1 = 0 then (some ⟨g0, off0, none⟩ : Option Addr) else (some ⟨g0, off0, none⟩ : Option Addr).map (·.add (1 * 2))) nq (cap0 - 1)) = v2 := ⟨_, rfl⟩
            rw [show nq + 1 - 1 = nq from rfl, hv2] at hrc
            rw [hv2] at hqc
            have HL2 : Hid (LsR2 (JNb W n f) n S (E0 * n + E1) w1 (w.heap.size + 1 + 1) (gk - 1) v2 wr) := by
              refine ⟨F, T, i + 1, nq, ?_, ?_, hnE, ?_⟩
              · have := hBf.le; omega
              · have := hBf.next (by omega) (fun u hu => by
                  rw [hTi, Int.toNat_natCast, HPE.out] at hu
                  have h9 := HAll.out u hu
                  rw [hje]; exact h9)
                rw [show i + 1 + nq = i + (nq + 1) by omega]; exact this
              · rw [show i + 1 + nq = i + (nq + 1) by omega]
                exact (hSs.cut hqc).congr (fun x _ => rfl) (fun k _ => by
                  show gP n T i (2 + k) = gP n T (i + 1) k
                  unfold gP
                  rw [show (2 + k) % 2 = k % 2 by omega, show i + (2 + k) / 2 = i + 1 + k / 2 by omega])
            have HM : Hid (gk - 1 < gk) := by show gk - 1 < gk; have := hBf.le; omega
            clear hBf hSs hcells hRq hbn hqc hv2 bA
            go_wp2
            go_roundg (gk - 1)
            case measure => exact HM.out
            case rel => exact HL2.out
end Go.Proofs.YtbndhhjgjalecabDoor
