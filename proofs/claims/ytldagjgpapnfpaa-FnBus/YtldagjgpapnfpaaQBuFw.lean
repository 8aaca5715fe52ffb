/- BusFine says yes of what RunBus told (tools/gen_bufw.py). -/
import Derived.Test.YtldagjgpapnfpaaQBuFr
import Derived.Test.YtldagjgpapnfpaaQByCp
import Derived.Deep.CutBlock
namespace Go.Proofs.Ytldagjgpapnfpaa
open Go.RowKit
theorem ip_tn {w w' : World} {b n lo hi : Nat} {F : Nat → Int} (h : IP w b n F) (T : Turns lo hi w w') (hd : b < lo ∨ hi ≤ b) : IP w' b n F :=
  ⟨Nat.lt_of_lt_of_le h.lt T.size, fun i hi' => (cell_same (T.block b h.lt hd) _).trans (h.c i hi'), fun j => (frozen_same (T.block b h.lt hd) j).trans (h.fz j)⟩
theorem put_at (f : Nat → Int) (k : Nat) (v : Int) : put f k v k = v := if_pos rfl
section
variable (W : Int) (f : FS) (x z : Int) (K : Nat)
theorem fs_us (g : Bool) (j : Nat) : (fsS W f (x, (K : Int), z, g)).US j = put (usW W x f) K (usW W x f K + 1) j := by
  show (if (j : Int) = (K : Int) then usW W x f j + 1 else usW W x f j) = _
  unfold put
  by_cases e : j = K
  · subst e; rw [if_pos rfl, if_pos rfl]
  · rw [if_neg e, if_neg (by omega)]
theorem fs_at_t (j : Nat) : (((fsS W f (x, (K : Int), z, true)).AT j : Nat) : Int) = put (fun j => ((f.AT j : Nat) : Int)) K ((f.AT K : Int) + 1) j := by
  show (((if (j : Int) = (K : Int) ∧ true = true then f.AT j + 1 else f.AT j : Nat)) : Int) = _
  unfold put
  by_cases e : j = K
  · subst e; rw [if_pos ⟨rfl, rfl⟩, if_pos rfl]; omega
  · rw [if_neg e, if_neg (by omega)]
theorem fs_at_f (j : Nat) : (((fsS W f (x, (K : Int), z, false)).AT j : Nat) : Int) = ((f.AT j : Nat) : Int) := by
  show (((if (j : Int) = (K : Int) ∧ false = true then f.AT j + 1 else f.AT j : Nat)) : Int) = _
  rw [if_neg (by simp)]
theorem fs_er (g : Bool) (j : Nat) : (fsS W f (x, (K : Int), z, g)).ER j = if (j : Int) = (K : Int) then (if g = true then (if 0 < f.ER j then f.ER j - 1 else f.ER j) else (if 255 < f.ER j + 8 then 255 else f.ER j + 8)) else f.ER j := rfl
theorem fs_er_t1 (h : 0 < f.ER K) (j : Nat) : (fsS W f (x, (K : Int), z, true)).ER j = put f.ER K (f.ER K - 1) j := by
  rw [fs_er]
  unfold put
  by_cases e : j = K
  · subst e; rw [if_pos rfl, if_pos rfl, if_pos rfl, if_pos h]
  · rw [if_neg e, if_neg (by omega)]
theorem fs_er_t0 (h : ¬ 0 < f.ER K) (j : Nat) : (fsS W f (x, (K : Int), z, true)).ER j = f.ER j := by
  rw [fs_er]
  by_cases e : j = K
  · subst e; rw [if_pos rfl, if_pos rfl, if_neg h]
  · rw [if_neg (by omega)]
theorem fs_er_f1 (h : 255 < f.ER K + 8) (j : Nat) : (fsS W f (x, (K : Int), z, false)).ER j = put (put f.ER K (f.ER K + 8)) K 255 j := by
  rw [fs_er]
  unfold put
  by_cases e : j = K
  · subst e; rw [if_pos rfl, if_neg (by decide), if_pos h, if_pos rfl]
  · rw [if_neg e, if_neg e, if_neg (by omega)]
theorem fs_er_f0 (h : ¬ 255 < f.ER K + 8) (j : Nat) : (fsS W f (x, (K : Int), z, false)).ER j = put f.ER K (f.ER K + 8) j := by
  rw [fs_er]
  unfold put
  by_cases e : j = K
  · subst e; rw [if_pos rfl, if_neg (by decide), if_neg h, if_pos rfl]
  · rw [if_neg e, if_neg (by omega)]
end
set_option maxRecDepth 20000 in
set_option maxHeartbeats 16000000 in
theorem busFine (la : Option Addr) (n lc : Nat) (t : Tks) (S : Nat → Nat → Nat → Int) (sa : Option Addr) (L sc lo hi : Nat) (X Y Z : Nat → Int) (G : Nat → Bool) (ea : Option Addr) (ec : Nat) (LF : Nat → Nat) (EC : Nat → Int) (QA : Nat → Option Addr) (QC : Nat → Nat) (AA : Nat → Nat → Option Addr) (CC : Nat → Nat → Nat) (W : Int) (F : Nat → FS) (w : World) (hn : n ≤ 6) (hW : 1 ≤ W ∧ W ≤ 20) (hL : L ≤ 1000)
    (hT : TkF w la n t S) (hq : ∀ i, i < n → t.qm i ≤ 8) (hN : ∀ i, i < n → ∀ j, j < t.qm i → t.N i j ≤ 1048576) (hX : SnQ w lo hi sa L X Y Z G) (hE : TkF w ea n (alT (nwT t LF EC) QA QC AA CC) (nwS S LF)) (hP : FnP t n W L F X Y Z G) (hf : ∀ i, i < n → (F L).AT i = LF i ∧ (F L).ER i = EC i ∧ LF i ≤ t.qm i) :
    Calls Try.prog 8 #[.slice la n lc, .slice sa L sc, .slice ea n ec, .int .i64 W] w fun e w' => e = .returned (.bool true) ∧ Below w.heap.size w w' := by
  have HT : Hid (TkF w la n t S) := hT
  have HX : Hid (SnQ w lo hi sa L X Y Z G) := hX
  have HE : Hid (TkF w ea n (alT (nwT t LF EC) QA QC AA CC) (nwS S LF)) := hE
  have HP : Hid (FnP t n W L F X Y Z G) := hP
  have HQ : Hid (∀ i, i < n → t.qm i ≤ 8) := hq
  have HN : Hid (∀ i, i < n → ∀ j, j < t.qm i → t.N i j ≤ 1048576) := hN
  have HF : Hid (∀ i, i < n → (F L).AT i = LF i ∧ (F L).ER i = EC i ∧ LF i ≤ t.qm i) := hf
  clear hT hX hE hP hq hN hf
  have jw : ¬ W < 1 := by omega
  have jn : ((n : Int) != (n : Int)) = false := by simp
  have hmk := run_make_row' (P := Try.prog) 24 3 (.int .i64 0) 8 Try.underlying24 infoI rfl .i64 .i64 n (by omega) (by omega)
  go_enter Try.func8, Try.ntmps8
  go_upto_region 4 with fail
  have hA1 : Below w.heap.size w (w.alloc (.cells (madeCells #[.int .i64 0] n) 3)) := (Below.refl _ _).alloc (Nat.le_refl _) _
  have hI1 := ip_made w n
  have hs1 : Hid ((w.alloc (.cells (madeCells #[.int .i64 0] n) 3)).heap.size = w.heap.size + 1) := size_al _ _
  generalize w.alloc (.cells (madeCells #[.int .i64 0] n) 3) = w1 at *
  go_upto_region 5 with fail
  have hA2 : Below w1.heap.size w1 (w1.alloc (.cells (madeCells #[.int .i64 0] n) 3)) := (Below.refl _ _).alloc (Nat.le_refl _) _
  have hI2 := ip_made w1 n
  have hs2 : Hid ((w1.alloc (.cells (madeCells #[.int .i64 0] n) 3)).heap.size = w1.heap.size + 1) := size_al _ _
  generalize w1.alloc (.cells (madeCells #[.int .i64 0] n) 3) = w2 at *
  go_upto_region 6 with fail
  have hA3 : Below w2.heap.size w2 (w2.alloc (.cells (madeCells #[.int .i64 0] n) 3)) := (Below.refl _ _).alloc (Nat.le_refl _) _
  have hI3 := ip_made w2 n
  have hs3 : Hid ((w2.alloc (.cells (madeCells #[.int .i64 0] n) 3)).heap.size = w2.heap.size + 1) := size_al _ _
  generalize w2.alloc (.cells (madeCells #[.int .i64 0] n) 3) = w3 at *
  have hs1 := hs1.out
  have hs2 := hs2.out
  have hs3 := hs3.out
  have hB3 : Below w.heap.size w w3 := hA1.trans ((hA2.mono (by omega)).trans (hA3.mono (by omega)))
  have HA3 : Hid (IP w3 w.heap.size n (fun _ => 0)) := (hI1.below hA2 (by omega)).below hA3 (by omega)
  have HE3 : Hid (IP w3 w1.heap.size n (fun j => if j < 0 then t.er j else 0)) := (hI2.below hA3 (by omega)).congr (fun j _ => by simp)
  have HU3 : Hid (IP w3 w2.heap.size n (fun _ => 0)) := hI3
  have HB3 : Hid (Below w.heap.size w w3) := hB3
  have HT3 : Hid (Turns w1.heap.size (w1.heap.size + 1) w3 w3) := (OnlyIn.refl _ _ _).turns
  have hz13 : w.heap.size < w1.heap.size ∧ w1.heap.size < w2.heap.size ∧ w2.heap.size < w3.heap.size := by omega
  clear hA1 hA2 hA3 hI1 hI2 hI3 hs1 hs2 hs3 hB3
  clear hmk
  generalize w1.heap.size = E at *
  generalize w2.heap.size = U at *
  generalize hAd : w.heap.size = A at *
  have HAd : Hid (w.heap.size = A) := hAd
  clear hAd
  go_wp2
  go_loopw [43] (fun i wr => ∃ k : Nat, k ≤ n ∧ i = .int .i64 (k : Int) ∧ Hid (IP wr E n (fun j => if j < k then t.er j else 0)) ∧ Hid (Turns E (E + 1) w3 wr)) (fun i _ => n - (intOf i).toNat)
  case atStart => exact ⟨0, Nat.zero_le _, rfl, HE3, HT3⟩
  case round =>
    obtain ⟨k, hk, rfl, HEk, HTk⟩ := hrel
    clear HE3 HT3
    obtain ⟨wM, rfl⟩ : ∃ x, x = wr := ⟨wr, rfl⟩
    have HBk : Hid (Below A w wM) := HB3.out.trans (HTk.out.below (by omega) (by omega))
    by_cases hlt : k < n
    · have j0 : (0 : Int) ≤ (k : Int) := by omega
      have j1 : (k : Int) < (n : Int) := by omega
      have F1 := HT.out.below (show Below w.heap.size w wM by rw [HAd.out]; exact HBk.out)
      obtain ⟨b1, o1, rfl, l1, d1⟩ := F1.h.out (by omega)
      obtain ⟨x0, x1, x2, x3⟩ := d1 k hlt
      clear d1 F1
      obtain ⟨X0, e0⟩ : ∃ X, X = t.qa k := ⟨_, rfl⟩
      obtain ⟨X1, e1⟩ : ∃ X, X = t.qm k := ⟨_, rfl⟩
      obtain ⟨X2, e2⟩ : ∃ X, X = t.qc k := ⟨_, rfl⟩
      obtain ⟨X3, e3⟩ : ∃ X, X = t.sh k := ⟨_, rfl⟩
      obtain ⟨X4, e4⟩ : ∃ X, X = t.er k := ⟨_, rfl⟩
      obtain ⟨X5, e5⟩ : ∃ X, X = t.of k := ⟨_, rfl⟩
      rw [← e0, ← e1, ← e2] at x0
      rw [← e3] at x1
      rw [← e4] at x2
      rw [← e5] at x3
      have HX4 : Hid (X4 = t.er k) := e4
      clear e0 e1 e2 e3 e4 e5
      have h1 : Below wM.heap.size wM (wM.alloc (tkO X0 X1 X2 X3 X4 X5 51)) := (Below.refl _ _).alloc (Nat.le_refl _) _
      have bT := bx_new (w := wM) (tkL X0 X1 X2 X3 X4 X5) 51 rfl
      have hE6 := HEk.out.below h1 HEk.out.lt
      have hT6 := HTk.out.trans (turns_of h1)
      go_upto_region 9 with fail
      generalize wM.alloc (tkO X0 X1 X2 X3 X4 X5 51) = W2 at *
      clear x0 x1 x2 x3
      have z2 := bT.c2
      have y1 := hE6.fz k
      have y2 := hE6.lt
      have y0 := hE6.c k hlt
      have HE7 : Hid (IP (W2.setCell ⟨E, k, none⟩ (.int .i64 X4)) E n (fun j => if j < k + 1 then t.er j else 0)) := (hE6.set hlt X4).congr (fun j _ => by
          unfold put
          by_cases e : j = k
          · rw [if_pos e, if_pos (by omega), HX4.out, e]
          · by_cases e2 : j < k
            · rw [if_neg e, if_pos (by omega)]; exact if_pos e2
            · rw [if_neg e, if_neg (by omega)]; exact if_neg e2)
      have HT7 : Hid (Turns E (E + 1) w3 (W2.setCell ⟨E, k, none⟩ (.int .i64 X4))) := hT6.trans (tn_only ((Only.refl E W2).set k (.int .i64 X4)))
      clear hE6 hT6 HEk HTk bT h1
      go_wp2
      exact ⟨⟨k + 1, by omega, by go_num, HE7, HT7⟩, by simp [intOf]; omega⟩
    · have hke : k = n := by omega
      subst hke
      have j1 : ¬ (k : Int) < (k : Int) := by omega
      have HA4 : Hid (IP wM A k (fun j => (((F 0).AT j : Nat) : Int))) := by show IP _ _ _ _; rw [HP.out.s0]; exact ip_tn HA3.out HTk.out (by omega)
      have HE4 : Hid (IP wM E k (F 0).ER) := by show IP _ _ _ _; rw [HP.out.s0]; exact HEk.out.congr (fun j hj => by rw [if_pos hj])
      have HU4 : Hid (IP wM U k (F 0).US) := by show IP _ _ _ _; rw [HP.out.s0]; exact ip_tn HU3.out HTk.out (by omega)
      have HUG : Hid (U ≠ A ∧ U ≠ E ∧ A ≤ U) := ⟨by omega, by omega, by omega⟩
      have HLS : Hid ((-1 : Int) = (F 0).last) := by show _ = _; rw [HP.out.s0]
      have hAE : A < E := hz13.1
      clear HA3 HEk HU3 HTk HB3 hz13
      go_wp2
      go_loopw [11, 14, 56] (fun u v i wr => ∃ (q ub : Nat) (z : Int), q ≤ L ∧ i = .int .i64 (q : Int) ∧ v = .int .i64 z ∧ Hid (z = (F q).last) ∧ u = .slice (some ⟨ub, 0, none⟩) k k ∧ Hid (IP wr A k (fun j => (((F q).AT j : Nat) : Int))) ∧ Hid (IP wr E k (F q).ER) ∧ Hid (IP wr ub k (F q).US) ∧ Hid (ub ≠ A ∧ ub ≠ E ∧ A ≤ ub) ∧ Hid (Below A w wr)) (fun _ _ i _ => L - (intOf i).toNat)
      case atStart => exact ⟨0, U, -1, Nat.zero_le _, rfl, rfl, HLS, rfl, HA4, HE4, HU4, HUG, HBk⟩
      case round =>
        obtain ⟨q, ub, la1, hqL, rfl, rfl, HLA, rfl, HA, HEr, HU, HG, HB⟩ := hrel
        clear HLS HA4 HE4 HU4 HUG HBk
        obtain ⟨wN, rfl⟩ : ∃ x, x = wr := ⟨wr, rfl⟩
        by_cases hlt : q < L
        · have j0 : (0 : Int) ≤ (q : Int) := by omega
          have j2 : (q : Int) < (L : Int) := by omega
          obtain ⟨hgd, hxk⟩ := HP.out.gd q hlt
          have hst := HP.out.st q hlt
          have HBD : Hid (∀ i, i < k → (0 ≤ (F q).ER i ∧ (F q).ER i ≤ 255) ∧ (F q).AT i ≤ q ∧ 0 ≤ (F q).US i ∧ (F q).US i ≤ (q : Int)) := HP.out.bd q hqL
          have hla := HP.out.la q hqL
          obtain ⟨g, rfl, -, -, hPs⟩ := (HX.out.on (show Below w.heap.size w wN by rw [HAd.out]; exact HB.out)) (by omega)
          obtain ⟨y0, y1, y2, y3⟩ := hPs.c q hlt
          have yl := hPs.lt
          clear hPs
          have hu := HU.out
          have ha := HA.out
          have he := HEr.out
          have hl := HLA.out
          clear HU HA HEr HLA
          generalize F q = f at *
          generalize X q = x1 at *
          generalize Y q = xK at *
          generalize Z q = x3 at *
          generalize G q = x4 at *
          obtain ⟨⟨K, hK, eK, hcon, hid⟩, ⟨hlt1, hx0⟩, hle⟩ := hgd
          simp only at eK hid hlt1 hx0 hle hcon
          subst eK
          have HST : Hid (F (q + 1) = fsS W f (x1, (K : Int), x3, x4)) := hst
          have HA1 : Hid (IP wN A k (fun j => ((f.AT j : Nat) : Int))) := ha
          have HE1 : Hid (IP wN E k f.ER) := he
          have HU1 : Hid (IP wN ub k f.US) := hu
          have HCON : Hid (conF t (usW W x1 f) f K) := hcon
          have HID : Hid (t.I K (f.AT K) = x3) := hid
          have HLE : Hid (∀ i, i < k → conF t (usW W x1 f) f i → x3 ≤ t.I i (f.AT i)) := hle
          rw [← hl] at hlt1 hla
          obtain ⟨D, hD⟩ : ∃ D, D = (decide (la1 < 0) || !(x1 / W == la1 / W)) := ⟨_, rfl⟩
          have HUW : Hid (∀ i, usW W x1 f i = if D = true then 0 else f.US i) := fun i => by
            unfold usW
            rw [← hl, hD]
            by_cases c0 : la1 < 0
            · rw [if_pos (.inl c0), decide_eq_true c0]; rfl
            · by_cases c1 : x1 / W = la1 / W
              · rw [if_neg (by omega), decide_eq_false c0, c1]; simp
              · rw [if_pos (.inr c1), decide_eq_false c0, beq_eq_false_iff_ne.2 c1]; rfl
          have HD : Hid (D = (decide (la1 < 0) || !(x1 / W == la1 / W))) := hD
          clear hst hcon hid hle ha he hu hl hD
          have h1 : Below wN.heap.size wN (wN.alloc (.cells #[.int .i64 x1, .int .i64 (K : Int), .int .i64 x3, .bool x4] 65)) := (Below.refl _ _).alloc (Nat.le_refl _) _
          have bS := bx_new (w := wN) [.int .i64 x1, .int .i64 (K : Int), .int .i64 x3, .bool x4] 65 rfl
          have hRn : A ≤ wN.heap.size := by have := HB.out.size; rw [HAd.out] at this; exact this
          have HR : Hid (wN.heap.size ≠ A ∧ wN.heap.size ≠ E ∧ wN.heap.size ≠ ub) := ⟨by have := HA1.out.lt; omega, by have := HE1.out.lt; omega, by have := HU1.out.lt; omega⟩
          go_upto_region 15 with fail
          generalize wN.alloc (.cells #[.int .i64 x1, .int .i64 (K : Int), .int .i64 x3, .bool x4] 65) = W4 at *
          generalize hRd : wN.heap.size = R at *
          have HRd : Hid (wN.heap.size = R) := hRd
          clear hRd y0 y1 y2 y3 yl
          have z0 := bS.c0
          have z1 := bS.c1
          have z2 := bS.c2
          have z3 := bS.c 3 (by simp)
          have zl := bS.lt
          have k0 : ¬ x1 ≤ la1 := by omega
          have k1 : ¬ (K : Int) < 0 := by omega
          have k2 : ¬ (k : Int) ≤ (K : Int) := by omega
          go_upto_region 17 with fail
          go_cut [56, 87] from 56 to 207 (fun i c wz => i = .int .i64 (q : Int) ∧ c = .bool D ∧ Hid (Below W4.heap.size W4 wz))
          case first =>
            as_aux_lemma =>
              clear HT HX HE HP HQ HN HF HA1 HE1 HU1 HCON HID HLE HUW HST HBD HB HG
              by_cases c0 : la1 < 0
              · have d0 : decide (la1 < 0) = true := decide_eq_true c0
                have HDt : Hid (D = true) := by show _ = _; rw [HD.out, d0]; rfl
                clear bS
                go_quiet (fail)
                go_wp2_with fail
                go_meet
                case rel => exact ⟨rfl, by rw [HDt.out], below_dr (Below.refl _ _) _⟩
              · have d0 : decide (la1 < 0) = false := decide_eq_false c0
                have hW0 : ¬ W = 0 := by omega
                have ed := Int.tdiv_eq_ediv_of_nonneg (a := x1) (b := W) (by omega)
                have ee := Int.tdiv_eq_ediv_of_nonneg (a := la1) (b := W) (by omega)
                have q0 : 0 ≤ x1 / W := Int.ediv_nonneg (by omega) (by omega)
                have q1 : x1 / W ≤ x1 := Int.ediv_le_self _ (by omega)
                have q2 : 0 ≤ la1 / W := Int.ediv_nonneg (by omega) (by omega)
                have q3 : la1 / W ≤ la1 := Int.ediv_le_self _ (by omega)
                have HDf : Hid (D = !(x1 / W == la1 / W)) := by show _ = _; rw [HD.out, d0]; rfl
                clear bS HD
                generalize x1 / W = P at *
                generalize la1 / W = Q at *
                by_cases c1 : P = Q
                · subst c1
                  have d1 : (P != P) = false := by simp
                  have HDt : Hid (D = false) := by show _ = _; rw [HDf.out]; simp
                  clear HDf
                  go_quiet (fail)
                  go_wp2_with fail
                  go_meet
                  case rel => exact ⟨rfl, by rw [HDt.out], below_dr (Below.refl _ _) _⟩
                · have d1 : (P != Q) = true := by simpa using c1
                  have HDt : Hid (D = true) := by show _ = _; rw [HDf.out]; simpa using c1
                  clear HDf
                  go_quiet (fail)
                  go_wp2_with fail
                  go_meet
                  case rel => exact ⟨rfl, by rw [HDt.out], below_dr (Below.refl _ _) _⟩
          case rest =>
            obtain ⟨rfl, rfl, HW5⟩ := hcut
            clear z0 z1 z2 z3 zl HD k0 k1 k2
            obtain ⟨w5, rfl⟩ : ∃ x, x = wc := ⟨wc, rfl⟩
            have HB5 : Hid (Below R wN w5) := h1.trans (HW5.out.mono (Nat.le_trans (Nat.le_of_eq HRd.out.symm) (by have := h1.size; omega)))
            have bS5 := bS.on HW5.out
            have hz5 : R < w5.heap.size := bS5.lt
            have HS5 : Hid (Bx w5 R [.int .i64 x1, .int .i64 (K : Int), .int .i64 x3, .bool x4]) := bS5
            have ra := HA1.out.lt
            have re := HE1.out.lt
            have ru := HU1.out.lt
            rw [HRd.out] at ra re ru
            have HA5 : Hid (IP w5 A k (fun j => ((f.AT j : Nat) : Int))) := HA1.out.below HB5.out ra
            have HE5 : Hid (IP w5 E k f.ER) := HE1.out.below HB5.out re
            have hU5 := HU1.out.below HB5.out ru
            have HBw5 : Hid (Below A w w5) := HB.out.trans (HB5.out.mono hRn)
            clear h1 HW5 bS bS5 HA1 HE1 HU1 HB HB5
            have hmk := run_make_row' (P := Try.prog) 24 3 (.int .i64 0) 8 Try.underlying24 infoI rfl .i64 .i64 k (by omega) (by omega)
            go_upto_if 87 with fail
            go_cut [11, 56] from 56 to 207 (fun u i wz => ∃ uq, i = .int .i64 (q : Int) ∧ u = .slice (some ⟨uq, 0, none⟩) k k ∧ Hid (IP wz uq k (usW W x1 f)) ∧ Hid (uq ≠ A ∧ uq ≠ E ∧ A ≤ uq ∧ uq ≠ R) ∧ Hid (Below w5.heap.size w5 wz))
            case first =>
              as_aux_lemma =>
                clear HT HX HE HP HQ HN HF HCON HID HLE HST HBD HS5 HBw5
                cases D with
                | true =>
                  have HI := ip_made w5 k
                  have HI2 : Hid (IP (w5.alloc (.cells (madeCells #[.int .i64 0] k) 3)) w5.heap.size k (usW W x1 f)) := HI.congr (fun j _ => by rw [HUW.out, if_pos rfl])
                  have hA6 : Below w5.heap.size w5 (w5.alloc (.cells (madeCells #[.int .i64 0] k) 3)) := (Below.refl _ _).alloc (Nat.le_refl _) _
                  clear HUW HI HA5 HE5 hU5
                  go_wp2_with fail
                  go_meet
                  case rel => exact ⟨w5.heap.size, rfl, rfl, HI2, ⟨by omega, by omega, by omega, by omega⟩, hA6⟩
                | false =>
                  have HI2 : Hid (IP w5 ub k (usW W x1 f)) := hU5.congr (fun j _ => by rw [HUW.out, if_neg (by decide)])
                  clear HUW hmk HA5 HE5 hU5
                  go_wp2_with fail
                  go_meet
                  case rel => exact ⟨ub, rfl, rfl, HI2, ⟨HG.out.1, HG.out.2.1, HG.out.2.2, fun e => HR.out.2.2 e.symm⟩, Below.refl _ _⟩
            case rest =>
              obtain ⟨uq, rfl, rfl, HU6, HG6, HW6⟩ := hcut
              clear hU5 hmk HG HUW
              obtain ⟨w6, rfl⟩ : ∃ x, x = wc := ⟨wc, rfl⟩
              have HS6 : Hid (Bx w6 R [.int .i64 x1, .int .i64 (K : Int), .int .i64 x3, .bool x4]) := HS5.out.on HW6.out
              have HA6 : Hid (IP w6 A k (fun j => ((f.AT j : Nat) : Int))) := HA5.out.below HW6.out HA5.out.lt
              have HE6 : Hid (IP w6 E k f.ER) := HE5.out.below HW6.out HE5.out.lt
              have HB6 : Hid (Below A w w6) := HBw5.out.trans (HW6.out.mono (by omega))
              have hz6 : R < w6.heap.size := HS6.out.lt
              clear HS5 HA5 HE5 HBw5 HW6
              have z0 := HS6.out.c0
              have zl := HS6.out.lt
              have HR0 : Hid (Below w6.heap.size w6 w6) := Below.refl _ _
              go_wp2
              clear z0 zl
              go_loopw [95] (fun i wr => ∃ m : Nat, m ≤ k ∧ i = .int .i64 (m : Int) ∧ Hid (Below w6.heap.size w6 wr)) (fun i _ => k - (intOf i).toNat)
              case atStart => exact ⟨0, Nat.zero_le _, rfl, HR0⟩
              case round =>
                obtain ⟨m, hm, rfl, HR6⟩ := hrel
                clear HR0
                obtain ⟨w7, rfl⟩ : ∃ x, x = wr := ⟨wr, rfl⟩
                have HS7 : Hid (Bx w7 R [.int .i64 x1, .int .i64 (K : Int), .int .i64 x3, .bool x4]) := HS6.out.on HR6.out
                have HA7 : Hid (IP w7 A k (fun j => ((f.AT j : Nat) : Int))) := HA6.out.below HR6.out HA6.out.lt
                have HE7 : Hid (IP w7 E k f.ER) := HE6.out.below HR6.out HE6.out.lt
                have HU7 : Hid (IP w7 uq k (usW W x1 f)) := HU6.out.below HR6.out HU6.out.lt
                have HB7 : Hid (Below A w w7) := HB6.out.trans (HR6.out.mono (by omega))
                by_cases hlm : m < k
                · as_aux_lemma =>
                    have j3 : (0 : Int) ≤ (m : Int) := by omega
                    have j4 : (m : Int) < (k : Int) := by omega
                    have F1 := HT.out.below (show Below w.heap.size w w7 by rw [HAd.out]; exact HB7.out)
                    obtain ⟨b1, o1, rfl, l1, d1⟩ := F1.h.out (by omega)
                    obtain ⟨x0, x1', x2, x3'⟩ := d1 m hlm
                    have hFr := F1.h.fr m hlm
                    clear d1 F1
                    have a0 := HA7.out.c m hlm
                    have e0 := HE7.out.c m hlm
                    have u0 := HU7.out.c m hlm
                    have al := HA7.out.lt
                    have el := HE7.out.lt
                    have ul := HU7.out.lt
                    obtain ⟨⟨hb1, hb2⟩, hb3, hb4⟩ := HBD.out m hlm
                    have hq8 := HQ.out m hlm
                    have HCK : Hid (m = K → conF t (usW W x1 f) f m) := fun e => by rw [e]; exact HCON.out
                    have HIK : Hid (m = K → t.I m (f.AT m) = x3) := fun e => by rw [e]; exact HID.out
                    have HLM : Hid (conF t (usW W x1 f) f m → x3 ≤ t.I m (f.AT m)) := HLE.out m hlm
                    have HCF : Hid (conF t (usW W x1 f) f m ↔ (f.ER m ≠ 255 ∧ f.AT m < t.qm m ∧ usW W x1 f m < t.sh m)) := Iff.rfl
                    have HFC : Hid (f.AT m < t.qm m → ∃ b off, t.qa m = some ⟨b, off, none⟩ ∧ b < w7.heap.size ∧ w7.cell? ⟨b, off + f.AT m * 2, none⟩ = some (.int .i64 (t.I m (f.AT m)))) := fun h => by
                      obtain ⟨b, off, e, hl, hc⟩ := hFr (by omega)
                      exact ⟨b, off, e, hl, (hc _ h).1⟩
                    clear hFr
                    generalize conF t (usW W x1 f) f m = CF at *
                    obtain ⟨X0, q0⟩ : ∃ X, X = t.qa m := ⟨_, rfl⟩
                    obtain ⟨X1, q1⟩ : ∃ X, X = t.qm m := ⟨_, rfl⟩
                    obtain ⟨X2, q2⟩ : ∃ X, X = t.qc m := ⟨_, rfl⟩
                    obtain ⟨X3, q3⟩ : ∃ X, X = t.sh m := ⟨_, rfl⟩
                    obtain ⟨X4, q4⟩ : ∃ X, X = t.er m := ⟨_, rfl⟩
                    obtain ⟨X5, q5⟩ : ∃ X, X = t.of m := ⟨_, rfl⟩
                    rw [← q0, ← q1, ← q2] at x0
                    rw [← q3] at x1'
                    rw [← q4] at x2
                    rw [← q5] at x3'
                    rw [← q1, ← q3] at HCF
                    rw [← q0, ← q1] at HFC
                    rw [← q1] at hq8
                    clear q0 q1 q2 q3 q4 q5
                    generalize t.I m (f.AT m) = XI at *
                    generalize f.AT m = XA at *
                    generalize f.ER m = XE at *
                    generalize usW W x1 f m = XU at *
                    have h1 : Below w7.heap.size w7 (w7.alloc (tkO X0 X1 X2 X3 X4 X5 51)) := (Below.refl _ _).alloc (Nat.le_refl _) _
                    have bT := bx_new (w := w7) (tkL X0 X1 X2 X3 X4 X5) 51 rfl
                    have bS := HS7.out.on h1
                    have a1 := (h1.cell (p := ⟨A, m, none⟩) al).trans a0
                    have e1 := (h1.cell (p := ⟨E, m, none⟩) el).trans e0
                    have u1 := (h1.cell (p := ⟨uq, m, none⟩) ul).trans u0
                    have al1 := Nat.lt_of_lt_of_le al h1.size
                    have el1 := Nat.lt_of_lt_of_le el h1.size
                    have ul1 := Nat.lt_of_lt_of_le ul h1.size
                    have HR8 : Hid (Below w6.heap.size w6 (w7.alloc (tkO X0 X1 X2 X3 X4 X5 51))) := stepA HR6.out h1
                    have HFD : Hid (XA < X1 → ∃ b off, X0 = some ⟨b, off, none⟩ ∧ b < (w7.alloc (tkO X0 X1 X2 X3 X4 X5 51)).heap.size ∧ (w7.alloc (tkO X0 X1 X2 X3 X4 X5 51)).cell? ⟨b, off + XA * 2, none⟩ = some (.int .i64 XI)) := fun h => by
                      obtain ⟨b, off, e, hl, hc⟩ := HFC.out h
                      exact ⟨b, off, e, Nat.lt_of_lt_of_le hl h1.size, (h1.cell (p := ⟨b, _, none⟩) hl).trans hc⟩
                    clear HFC HCON HID HLE
                    go_upto_region 23 with fail
                    generalize hW8 : w7.alloc (tkO X0 X1 X2 X3 X4 X5 51) = w8 at *
                    clear hW8 x0 x1' x2 x3' a0 e0 u0 al el ul h1 HS7 HA7 HE7 HU7 HB7
                    generalize w7.heap.size = TB at *
                    have t0 := bT.c0
                    have t1 := bT.c1
                    have tl := bT.lt
                    have s1 := bS.c1
                    have s2 := bS.c2
                    have sl := bS.lt
                    have HNK : Hid (¬ CF → ((m : Int) == (K : Int)) = false) := fun h => beq_eq_false_iff_ne.2 (fun e => h (HCK.out (by omega)))
                    clear bT bS
                    by_cases cE : XE = 255
                    · subst cE
                      have dK := HNK.out (fun h => (HCF.out.1 h).1 rfl)
                      clear HFD HCK HIK HLM HCF HNK a1 u1 t0 t1
                      go_quiet (fail)
                      have HR9 : Hid (Below w6.heap.size w6 (w8.drewN nq)) := below_dr HR8.out nq
                      go_wp2
                      exact ⟨⟨m + 1, by omega, by go_num, HR9⟩, by simp [intOf]; omega⟩
                    · have dE : (XE == 255) = false := beq_eq_false_iff_ne.2 cE
                      by_cases cA : XA < X1
                      · have dA : decide ((X1 : Int) ≤ (XA : Int)) = false := decide_eq_false (by omega)
                        by_cases cU : XU < X3
                        · have dU : decide (X3 ≤ XU) = false := decide_eq_false (by omega)
                          have hCF : CF := HCF.out.2 ⟨cE, cA, cU⟩
                          have hlx := HLM.out hCF
                          have dI : decide (XI < x3) = false := decide_eq_false (by omega)
                          obtain ⟨b9, o9, rfl, l9, c9⟩ := HFD.out cA
                          have i0 : (0 : Int) ≤ (XA : Int) := by omega
                          have i1 : (XA : Int) < (X1 : Int) := by omega
                          clear HFD HCK HLM HCF HNK hCF
                          go_quiet (fail)
                          have hd := below_dr (Below.refl w8.heap.size w8) nq
                          have HR9 : Hid (Below w6.heap.size w6 (w8.drewN nq)) := below_dr HR8.out nq
                          have t9 := (hd.cell (p := ⟨TB, 0, none⟩) tl).trans t0
                          have s19 := (hd.cell (p := ⟨R, 1, none⟩) sl).trans s1
                          have s29 := (hd.cell (p := ⟨R, 2, none⟩) sl).trans s2
                          have a19 := (hd.cell (p := ⟨A, m, none⟩) al1).trans a1
                          have c99 := (hd.cell (p := ⟨b9, o9 + XA * 2, none⟩) l9).trans c9
                          have tl9 := Nat.lt_of_lt_of_le tl hd.size
                          have sl9 := Nat.lt_of_lt_of_le sl hd.size
                          have al9 := Nat.lt_of_lt_of_le al1 hd.size
                          have l99 := Nat.lt_of_lt_of_le l9 hd.size
                          clear t0 t1 s1 s2 a1 e1 u1 c9 tl sl al1 el1 ul1 l9 hd dE dA dU cE cA cU
                          generalize w8.drewN nq = w9 at *
                          by_cases cK : m = K
                          · have dK : ((m : Int) == (K : Int)) = true := by simp [cK]
                            have hxi := HIK.out cK
                            subst hxi
                            have dX : (XI != XI) = false := by simp
                            clear HIK cK
                            go_upto_region 26 with fail
                            go_quiet (fail)
                            have HR10 : Hid (Below w6.heap.size w6 (w9.drewN nq)) := below_dr HR9.out _
                            go_wp2
                            exact ⟨⟨m + 1, by omega, by go_num, HR10⟩, by simp [intOf]; omega⟩
                          · have dK : ((m : Int) == (K : Int)) = false := beq_eq_false_iff_ne.2 (by omega)
                            clear HIK cK
                            go_upto_region 26 with fail
                            go_quiet (fail)
                            have HR10 : Hid (Below w6.heap.size w6 (w9.drewN nq)) := below_dr HR9.out _
                            go_wp2
                            exact ⟨⟨m + 1, by omega, by go_num, HR10⟩, by simp [intOf]; omega⟩
                        · have dU : decide (X3 ≤ XU) = true := decide_eq_true (by omega)
                          have dK := HNK.out (fun h => cU (HCF.out.1 h).2.2)
                          clear HFD HCK HIK HLM HCF HNK
                          go_quiet (fail)
                          have HR9 : Hid (Below w6.heap.size w6 (w8.drewN nq)) := below_dr HR8.out nq
                          go_wp2
                          exact ⟨⟨m + 1, by omega, by go_num, HR9⟩, by simp [intOf]; omega⟩
                      · have dA : decide ((X1 : Int) ≤ (XA : Int)) = true := decide_eq_true (by omega)
                        have dK := HNK.out (fun h => cA (HCF.out.1 h).2.1)
                        clear HFD HCK HIK HLM HCF HNK u1 t1
                        go_quiet (fail)
                        have HR9 : Hid (Below w6.heap.size w6 (w8.drewN nq)) := below_dr HR8.out nq
                        go_wp2
                        exact ⟨⟨m + 1, by omega, by go_num, HR9⟩, by simp [intOf]; omega⟩
                · as_aux_lemma =>
                    have j4 : ¬ (m : Int) < (k : Int) := by omega
                    have hqK := HBD.out K hK
                    have huK := us_bd (W := W) (rr := x1) (i := K) hqK.2.2
                    have hS7 := HS7.out
                    have hA7 := HA7.out
                    have hE7 := HE7.out
                    have hU7 := HU7.out
                    obtain ⟨g1, g2, g3, g4⟩ := HG6.out
                    clear HCON HID HLE HR6 HS7 HA7 HE7 HU7 HA6 HE6 HU6 HS6 HG6 HBD
                    have j5 : (0 : Int) ≤ (K : Int) := by omega
                    have j6 : (K : Int) < (k : Int) := by omega
                    have u0 := hU7.c K hK
                    have ul := hU7.lt
                    have uf := hU7.fz K
                    have s1 := hS7.c1
                    have s3 := hS7.c 3 (by simp)
                    have sl := hS7.lt
                    have hOU := (Only.refl uq w7).set K (.int .i64 (usW W x1 f K + 1))
                    have hU8 := hU7.set hK (usW W x1 f K + 1)
                    have hA8 := hA7.only hOU (Ne.symm g1)
                    have hE8 := hE7.only hOU (Ne.symm g2)
                    have hS8 := hS7.turns (tn_only hOU) (by omega)
                    have hB8 : Below A w (w7.setCell ⟨uq, K, none⟩ (.int .i64 (usW W x1 f K + 1))) := HB7.out.trans (hOU.below.mono g3)
                    have HUS : Hid (IP (w7.setCell ⟨uq, K, none⟩ (.int .i64 (usW W x1 f K + 1))) uq k (F (q + 1)).US) := hU8.congr (fun j _ => by rw [HST.out]; exact (fs_us W f x1 x3 K x4 j).symm)
                    have HLS : Hid (x1 = (F (q + 1)).last) := by show _ = _; rw [HST.out]; rfl
                    clear hU7 hA7 hE7 hS7 hOU hU8 HB7
                    go_upto_region 30 with fail
                    clear u0 ul uf s1 s3 sl
                    generalize w7.setCell ⟨uq, K, none⟩ (.int .i64 (usW W x1 f K + 1)) = w8 at *
                    have s1 := hS8.c1
                    have s3 := hS8.c 3 (by simp)
                    have sl := hS8.lt
                    cases x4 with
                    | true =>
                      have a0 := hA8.c K hK
                      have al := hA8.lt
                      have af := hA8.fz K
                      have hOA := (Only.refl A w8).set K (.int .i64 ((f.AT K : Int) + 1))
                      have hA9 := hA8.set hK ((f.AT K : Int) + 1)
                      have hE9 := hE8.only hOA (by omega)
                      have HUS9 : Hid (IP (w8.setCell ⟨A, K, none⟩ (.int .i64 ((f.AT K : Int) + 1))) uq k (F (q + 1)).US) := HUS.out.only hOA g1
                      have hS9 := hS8.turns (tn_only hOA) (by omega)
                      have hB9 : Below A w (w8.setCell ⟨A, K, none⟩ (.int .i64 ((f.AT K : Int) + 1))) := hB8.trans hOA.below
                      have HAT : Hid (IP (w8.setCell ⟨A, K, none⟩ (.int .i64 ((f.AT K : Int) + 1))) A k (fun j => (((F (q + 1)).AT j : Nat) : Int))) := hA9.congr (fun j _ => by rw [HST.out]; exact (fs_at_t W f x1 x3 K j).symm)
                      clear HUS hA8 hE8 hS8 hB8 hOA hA9
                      go_upto_region 32 with fail
                      clear a0 al af s1 s3 sl
                      generalize w8.setCell ⟨A, K, none⟩ (.int .i64 ((f.AT K : Int) + 1)) = w9 at *
                      have s1 := hS9.c1
                      have sl := hS9.lt
                      have e0 := hE9.c K hK
                      have el := hE9.lt
                      have ef := hE9.fz K
                      by_cases cE : 0 < f.ER K
                      · have hOE := (Only.refl E w9).set K (.int .i64 (f.ER K - 1))
                        have hE10 := hE9.set hK (f.ER K - 1)
                        have HER : Hid (IP (w9.setCell ⟨E, K, none⟩ (.int .i64 (f.ER K - 1))) E k (F (q + 1)).ER) := hE10.congr (fun j _ => by rw [HST.out]; exact (fs_er_t1 W f x1 x3 K cE j).symm)
                        have HAT2 : Hid (IP (w9.setCell ⟨E, K, none⟩ (.int .i64 (f.ER K - 1))) A k (fun j => (((F (q + 1)).AT j : Nat) : Int))) := HAT.out.only hOE (by omega)
                        have HUS2 : Hid (IP (w9.setCell ⟨E, K, none⟩ (.int .i64 (f.ER K - 1))) uq k (F (q + 1)).US) := HUS9.out.only hOE g2
                        have HB2 : Hid (Below A w (w9.setCell ⟨E, K, none⟩ (.int .i64 (f.ER K - 1)))) := hB9.trans (hOE.below.mono (by omega))
                        have HG2 : Hid (uq ≠ A ∧ uq ≠ E ∧ A ≤ uq) := ⟨g1, g2, g3⟩
                        clear HAT HUS9 hE9 hS9 hB9 hOE hE10
                        go_wp2_with fail
                        go_roundw
                        case rel => exact ⟨q + 1, uq, x1, by omega, by go_num, rfl, HLS, rfl, HAT2, HER, HUS2, HG2, HB2⟩
                        case measure => simp [intOf]; omega
                      · have HER : Hid (IP w9 E k (F (q + 1)).ER) := hE9.congr (fun j _ => by rw [HST.out]; exact (fs_er_t0 W f x1 x3 K cE j).symm)
                        have HB2 : Hid (Below A w w9) := hB9
                        have HG2 : Hid (uq ≠ A ∧ uq ≠ E ∧ A ≤ uq) := ⟨g1, g2, g3⟩
                        clear hE9 hS9 hB9
                        go_wp2_with fail
                        go_roundw
                        case rel => exact ⟨q + 1, uq, x1, by omega, by go_num, rfl, HLS, rfl, HAT, HER, HUS9, HG2, HB2⟩
                        case measure => simp [intOf]; omega
                    | false =>
                      have e0 := hE8.c K hK
                      have el := hE8.lt
                      have ef := hE8.fz K
                      have hOE := (Only.refl E w8).set K (.int .i64 (f.ER K + 8))
                      have hE9 := hE8.set hK (f.ER K + 8)
                      have hS9 := hS8.turns (tn_only hOE) (by omega)
                      have HAT : Hid (IP (w8.setCell ⟨E, K, none⟩ (.int .i64 (f.ER K + 8))) A k (fun j => (((F (q + 1)).AT j : Nat) : Int))) := (hA8.only hOE (by omega)).congr (fun j _ => by rw [HST.out]; exact (fs_at_f W f x1 x3 K j).symm)
                      have HUS9 : Hid (IP (w8.setCell ⟨E, K, none⟩ (.int .i64 (f.ER K + 8))) uq k (F (q + 1)).US) := HUS.out.only hOE g2
                      have hB9 : Below A w (w8.setCell ⟨E, K, none⟩ (.int .i64 (f.ER K + 8))) := hB8.trans (hOE.below.mono (by omega))
                      clear HUS hA8 hE8 hS8 hB8 hOE
                      go_upto_region 35 with fail
                      clear e0 el ef s1 s3 sl
                      generalize w8.setCell ⟨E, K, none⟩ (.int .i64 (f.ER K + 8)) = w9 at *
                      have s1 := hS9.c1
                      have sl := hS9.lt
                      have e0 := hE9.c K hK
                      have el := hE9.lt
                      have ef := hE9.fz K
                      rw [put_at] at e0
                      by_cases cE : 255 < f.ER K + 8
                      · have hOE := (Only.refl E w9).set K (.int .i64 255)
                        have hE10 := hE9.set hK 255
                        have HER : Hid (IP (w9.setCell ⟨E, K, none⟩ (.int .i64 255)) E k (F (q + 1)).ER) := hE10.congr (fun j _ => by rw [HST.out]; exact (fs_er_f1 W f x1 x3 K cE j).symm)
                        have HAT2 : Hid (IP (w9.setCell ⟨E, K, none⟩ (.int .i64 255)) A k (fun j => (((F (q + 1)).AT j : Nat) : Int))) := HAT.out.only hOE (by omega)
                        have HUS2 : Hid (IP (w9.setCell ⟨E, K, none⟩ (.int .i64 255)) uq k (F (q + 1)).US) := HUS9.out.only hOE g2
                        have HB2 : Hid (Below A w (w9.setCell ⟨E, K, none⟩ (.int .i64 255))) := hB9.trans (hOE.below.mono (by omega))
                        have HG2 : Hid (uq ≠ A ∧ uq ≠ E ∧ A ≤ uq) := ⟨g1, g2, g3⟩
                        clear HAT HUS9 hE9 hS9 hB9 hOE hE10
                        go_wp2_with fail
                        go_roundw
                        case rel => exact ⟨q + 1, uq, x1, by omega, by go_num, rfl, HLS, rfl, HAT2, HER, HUS2, HG2, HB2⟩
                        case measure => simp [intOf]; omega
                      · have HER : Hid (IP w9 E k (F (q + 1)).ER) := hE9.congr (fun j _ => by rw [HST.out]; exact (fs_er_f0 W f x1 x3 K cE j).symm)
                        have HB2 : Hid (Below A w w9) := hB9
                        have HG2 : Hid (uq ≠ A ∧ uq ≠ E ∧ A ≤ uq) := ⟨g1, g2, g3⟩
                        clear hE9 hS9 hB9
                        go_wp2_with fail
                        go_roundw
                        case rel => exact ⟨q + 1, uq, x1, by omega, by go_num, rfl, HLS, rfl, HAT, HER, HUS9, HG2, HB2⟩
                        case measure => simp [intOf]; omega
        · as_aux_lemma =>
            have hke : q = L := by omega
            subst hke
            have j2 : ¬ (q : Int) < (q : Int) := by omega
            have HA9 : Hid (IP wN A k (fun j => ((LF j : Nat) : Int))) := HA.out.congr (fun j hj => by rw [(HF.out j hj).1])
            have HE9 : Hid (IP wN E k EC) := HEr.out.congr (fun j hj => (HF.out j hj).2.1)
            have HLQ : Hid (∀ i, i < k → LF i ≤ t.qm i) := fun i hi => (HF.out i hi).2.2
            clear HLA HA HEr HU HG HX HP HF
            have HR0 : Hid (Below wN.heap.size wN wN) := Below.refl _ _
            have hAN : A ≤ wN.heap.size := by have := HA9.out.lt; omega
            go_wp2
            go_loopw [210] (fun i wr => ∃ m : Nat, m ≤ k ∧ i = .int .i64 (m : Int) ∧ Hid (Below wN.heap.size wN wr)) (fun i _ => k - (intOf i).toNat)
            case atStart => exact ⟨0, Nat.zero_le _, rfl, HR0⟩
            case round =>
              obtain ⟨m, hm, rfl, HR6⟩ := hrel
              clear HR0
              obtain ⟨w7, rfl⟩ : ∃ x, x = wr := ⟨wr, rfl⟩
              have HB7 : Hid (Below A w w7) := HB.out.trans (HR6.out.mono hAN)
              by_cases hlm : m < k
              · have j3 : (0 : Int) ≤ (m : Int) := by omega
                have j4 : (m : Int) < (k : Int) := by omega
                have hBw : Below w.heap.size w w7 := by rw [HAd.out]; exact HB7.out
                have F1 := HT.out.below hBw
                have F2 := HE.out.below hBw
                obtain ⟨b1, o1, rfl, l1, d1⟩ := F1.h.out (by omega)
                obtain ⟨b2, o2, rfl, l2, d2⟩ := F2.h.out (by omega)
                have y0 := (d1 m hlm).1
                obtain ⟨z0, z1, z2, z3⟩ := d2 m hlm
                have f1 := F1.fr hlm
                have f2 := F2.fr hlm
                clear d1 F1 d2 F2
                change w7.cell? _ = some (.slice (QA m) (t.qm m - LF m) (QC m)) at z0
                change w7.cell? _ = some (.int .i64 (t.sh m)) at z1
                change w7.cell? _ = some (.int .i64 (EC m)) at z2
                change w7.cell? _ = some (.bool (EC m == 255)) at z3
                change FrF w7 (QA m) (t.qm m - LF m) (fun j => t.I m (LF m + j)) (AA m) (fun j => t.N m (LF m + j)) (CC m) (fun j => S m (LF m + j)) at f2
                have a0 := HA9.out.below HR6.out HA9.out.lt
                have e0 := HE9.out.below HR6.out HE9.out.lt
                have a1 := a0.c m hlm
                have al := a0.lt
                have e1 := e0.c m hlm
                have el := e0.lt
                have hlq := HLQ.out m hlm
                have hq8 := HQ.out m hlm
                have hNm := HN.out m hlm
                obtain ⟨X0, q0⟩ : ∃ X, X = t.qa m := ⟨_, rfl⟩
                obtain ⟨X1, q1⟩ : ∃ X, X = t.qm m := ⟨_, rfl⟩
                obtain ⟨X2, q2⟩ : ∃ X, X = t.qc m := ⟨_, rfl⟩
                rw [← q0, ← q1, ← q2] at y0
                rw [← q0, ← q1] at f1
                rw [← q1] at z0 f2 hlq hq8 hNm
                clear q0 q1 q2
                generalize QA m = Z0 at *
                generalize QC m = Z2 at *
                generalize t.sh m = Z3 at *
                generalize EC m = Z4 at *
                generalize LF m = XL at *
                obtain ⟨M, hM⟩ : ∃ M, M = X1 - XL := ⟨_, rfl⟩
                rw [← hM] at z0 f2
                have HM : Hid (M = X1 - XL) := hM
                have hM8 : M ≤ 8 := by omega
                clear hM
                have HF1 : Hid (FrF w7 X0 X1 (t.I m) (t.A m) (t.N m) (t.C m) (S m)) := f1
                have HF2 : Hid (FrF w7 Z0 M (fun j => t.I m (XL + j)) (AA m) (fun j => t.N m (XL + j)) (CC m) (fun j => S m (XL + j))) := f2
                have HNm : Hid (∀ j, j < X1 → t.N m j ≤ 1048576) := hNm
                clear f1 f2 hNm
                have h1 : Below w7.heap.size w7 (w7.alloc (tkO Z0 M Z2 Z3 Z4 (Z4 == 255) 51)) := (Below.refl _ _).alloc (Nat.le_refl _) _
                have bT := bx_new (w := w7) (tkL Z0 M Z2 Z3 Z4 (Z4 == 255)) 51 rfl
                have y1 := (h1.cell (p := ⟨b1, o1 + m * 4, none⟩) l1).trans y0
                have a2 := (h1.cell (p := ⟨A, m, none⟩) al).trans a1
                have e2 := (h1.cell (p := ⟨E, m, none⟩) el).trans e1
                have ll1 := Nat.lt_of_lt_of_le l1 h1.size
                have al1 := Nat.lt_of_lt_of_le al h1.size
                have el1 := Nat.lt_of_lt_of_le el h1.size
                go_upto_region 41 with fail
                clear z0 z1 z2 z3 y0 a0 a1 e0 e1
                generalize w7.alloc (tkO Z0 M Z2 Z3 Z4 (Z4 == 255) 51) = w8 at *
                skip
                have t0 := bT.c0
                have t2 := bT.c2
                have t3 := bT.c 3 (by simp)
                have tl := bT.lt
                have k0 : (Z4 != Z4) = false := by simp
                have k1 : ((Z4 == 255) != (Z4 == 255)) = false := by simp
                have k2 : ((M : Int) != (X1 : Int) - (XL : Int)) = false := by have := HM.out; simp; omega
                go_quiet (fail)
                clear t2 t3 e2 k0 k1 k2
                have hd : Below w7.heap.size w7 (w8.drewN nq) := below_dr h1 nq
                have bT9 := bT.on (below_dr (Below.refl w8.heap.size w8) nq)
                have y9 := (below_dr (Below.refl w8.heap.size w8) nq).cell (p := ⟨b1, o1 + m * 4, none⟩) ll1 |>.trans y1
                have a9 := (below_dr (Below.refl w8.heap.size w8) nq).cell (p := ⟨A, m, none⟩) al1 |>.trans a2
                have l9 : b1 < (w8.drewN nq).heap.size := ll1
                have al9 : A < (w8.drewN nq).heap.size := al1
                generalize w8.drewN nq = w9 at *
                have HD9 : Hid (Below w7.heap.size w7 w9) := hd
                have t0 := bT9.c0
                have tl := bT9.lt
                have HR0 : Hid (Below w9.heap.size w9 w9) := Below.refl _ _
                clear h1 bT hd y1 a2 ll1 al1 el1 tl
                have tl := bT9.lt
                go_wp2
                clear t0 tl bT9
                go_loopw [252] (fun i wr => ∃ c : Nat, c ≤ M ∧ i = .int .i64 (c : Int) ∧ Hid (Below w9.heap.size w9 wr)) (fun i _ => M - (intOf i).toNat)
                case atStart => exact ⟨0, Nat.zero_le _, rfl, HR0⟩
                case round =>
                  obtain ⟨c, hc, rfl, HRc⟩ := hrel
                  clear HR0
                  obtain ⟨wx, rfl⟩ : ∃ x, x = wr := ⟨wr, rfl⟩
                  by_cases hlc : c < M
                  · have j5 : (0 : Int) ≤ (c : Int) := by omega
                    have j6 : (c : Int) < (M : Int) := by omega
                    have hbx : Below w7.heap.size w7 wx := stepA HD9.out HRc.out
                    have F1 := HF1.out.below hbx
                    have F2 := HF2.out.below hbx
                    have hX1 : 0 < X1 := by have := HM.out; omega
                    obtain ⟨p1, r1, rfl, n1, v1⟩ := F1.h hX1
                    obtain ⟨p2, r2, rfl, n2, v2⟩ := F2.h (by omega)
                    obtain ⟨P, hP⟩ : ∃ P : Nat, P = XL + c := ⟨_, rfl⟩
                    have hPl : P < X1 := by have := HM.out; omega
                    obtain ⟨v10, v11⟩ := v1 P hPl
                    obtain ⟨v20, v21⟩ := v2 c hlc
                    have c1 := F1.y P hPl
                    have c2 := F2.y c hlc
                    have hNP := HNm.out P hPl
                    simp only at v20 v21 c2
                    rw [← hP] at v20 v21 c2
                    clear v1 v2 F1 F2
                    have y10 := (HRc.out.cell (p := ⟨b1, o1 + m * 4, none⟩) l9).trans y9
                    have a10 := (HRc.out.cell (p := ⟨A, m, none⟩) al9).trans a9
                    have l10 := Nat.lt_of_lt_of_le l9 HRc.out.size
                    have al10 := Nat.lt_of_lt_of_le al9 HRc.out.size
                    generalize t.I m P = YI at *
                    generalize t.N m P = YN at *
                    generalize S m P = YS at *
                    generalize t.A m P = YA at *
                    generalize t.C m P = YC at *
                    generalize AA m c = YB at *
                    generalize CC m c = YD at *
                    have h1 : Below wx.heap.size wx (wx.alloc (frvO YI YB YN YD 54)) := (Below.refl _ _).alloc (Nat.le_refl _) _
                    have bF := bx_new (w := wx) (frvL YI YB YN YD) 54 rfl
                    have y11 := (h1.cell (p := ⟨b1, o1 + m * 4, none⟩) l10).trans y10
                    have a11 := (h1.cell (p := ⟨A, m, none⟩) al10).trans a10
                    have v12 := (h1.cell (p := ⟨p1, r1 + P * 2, none⟩) n1).trans v10
                    have v13 := (h1.cell (p := ⟨p1, r1 + P * 2 + 1, none⟩) n1).trans v11
                    have l11 := Nat.lt_of_lt_of_le l10 h1.size
                    have al11 := Nat.lt_of_lt_of_le al10 h1.size
                    have n11 := Nat.lt_of_lt_of_le n1 h1.size
                    have c11 := c1.below h1
                    have c12 := c2.below h1
                    go_upto_region 46 with fail
                    clear v20 v21 y10 a10 v10 v11
                    generalize wx.alloc (frvO YI YB YN YD 54) = wy at *
                    have z0 := bF.c0
                    have z1 := bF.c1
                    have zl := bF.lt
                    have eP : (XL : Int) + (c : Int) = (P : Int) := by omega
                    have eW : IntKind.i64.wrap ((XL : Int) + (c : Int)) = (P : Int) := by rw [eP, IntKind.wrap_i64]; omega
                    have eV : IntKind.i64.wrap (P : Int) = (P : Int) := by rw [IntKind.wrap_i64]; omega
                    clear hP
                    have i0 : (0 : Int) ≤ (P : Int) := by omega
                    have i1 : (P : Int) < (X1 : Int) := by omega
                    have hw0 := Below.refl wy.heap.size wy
                    have kE := fun w2 (hw : Below wy.heap.size wy w2) => sameFr YI YB YA YN YD YC YS w2 hNP (c12.below hw) (c11.below hw)
                    clear c1 c2 c11 c12
                    go_region_held3 (fun w' => w'.cell? ⟨wx.heap.size, 0, none⟩ = some (.int .i64 YI) ∧ w'.cell? ⟨wx.heap.size, 1, none⟩ = some (.slice YB YN YD) ∧ w'.cell? ⟨b1, o1 + m * 4, none⟩ = some (.slice (some ⟨p1, r1, none⟩) X1 X2) ∧ w'.cell? ⟨A, m, none⟩ = some (.int .i64 (XL : Int)) ∧ w'.cell? ⟨p1, r1 + P * 2, none⟩ = some (.int .i64 YI) ∧ w'.cell? ⟨p1, r1 + P * 2 + 1, none⟩ = some (.slice YA YN YC))
                      (first | (exact ⟨keepN z0 zl hw0.drew, keepN z1 zl hw0.drew, keepN y11 l11 hw0.drew, keepN a11 al11 hw0.drew, keepN v12 n11 hw0.drew, keepN v13 n11 hw0.drew⟩) | (exact ⟨keepN z0 zl hw1, keepN z1 zl hw1, keepN y11 l11 hw1, keepN a11 al11 hw1, keepN v12 n11 hw1, keepN v13 n11 hw1⟩) | (fail))
                      ((go_at_call 36; refine (kE _ hw0.drew).mono ?_; rintro e w1x ⟨rfl, hbn⟩; have hw1 := stepA hw0.drew hbn; clear hbn))
                    have HR9 : Hid (Below w9.heap.size w9 w1x) := stepA HRc.out (stepA h1 hw1)
                    go_wp2
                    go_roundw
                    case rel => exact ⟨c + 1, by omega, by go_num, HR9⟩
                    case measure => simp [intOf]; omega
                  · have j6 : ¬ (c : Int) < (M : Int) := by omega
                    have HR9 : Hid (Below wN.heap.size wN wx) := stepA HR6.out (stepA HD9.out HRc.out)
                    go_wp2_with fail
                    go_roundw
                    case rel => exact ⟨m + 1, by omega, by go_num, HR9⟩
                    case measure => simp [intOf]; omega
              · have j4 : ¬ (m : Int) < (k : Int) := by omega
                go_wp2
                go_ret
                exact ⟨rfl, by rw [HAd.out]; exact HB7.out⟩
end Go.Proofs.Ytldagjgpapnfpaa
