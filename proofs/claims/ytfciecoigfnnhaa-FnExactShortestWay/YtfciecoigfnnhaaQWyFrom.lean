/- The least costs of all cells, as the specification finds them. -/
import Derived.Test.YtfciecoigfnnhaaQWyFrB
import Derived.Test.YtfciecoigfnnhaaQClSFree
import Derived.Test.YtfciecoigfnnhaaQWyStep
import Derived.Test.YtfciecoigfnnhaaQWyCmp
import Derived.Test.YtfciecoigfnnhaaQWyCost
import Derived.Deep.LoopGhost
import Derived.BigQuiet
import Derived.Deep.CutRange
namespace Go.Proofs.Ytfciecoigfnnhaa
open Go.RowKit

theorem Rx.mono {st : Nat → Nat → Int} {n t : Nat} {A B : Nat → Int} {D : Nat → Bool} {u0 : Nat} {S S' : Nat → Prop} (h : Rx st n t A B D u0 S) (hS : ∀ i, S' i → S i) : Rx st n t A B D u0 S' :=
  ⟨h.src, h.real, h.bnd, h.bnd0, h.neg, h.d0, fun u hu hd => ⟨(h.rel u hu hd).1, fun k hk hs q => (h.rel u hu hd).2 k hk hs (fun e => hS k (q e))⟩, h.ord, h.top⟩
/-- the first j of a list -/
def Seen (L : List Int) (j i : Nat) : Prop := ∃ p, p < j ∧ gl L p = (i : Int)
theorem seen_next {L : List Int} {j k i : Nat} (hk : gl L j = (k : Int)) (h : Seen L (j + 1) i) : Seen L j i ∨ i = k := by
  obtain ⟨p, h1, h2⟩ := h
  by_cases e : p = j
  · subst e; right; omega
  · exact .inl ⟨p, by omega, h2⟩
theorem ar_cells {W : Int} {n : Nat} {a : Int} (hs : sizedB W n = true) {j : Nat} (hj : j < (arK W n a 9).length) : ∃ k : Nat, gl (arK W n a 9) j = (k : Int) ∧ k < n := by
  have hm : gl (arK W n a 9) j ∈ arK W n a 9 := by
    unfold gl
    rw [List.getD_eq_getElem?_getD, List.getElem?_eq_getElem hj]
    exact List.getElem_mem hj
  obtain ⟨p, _, h2, h3⟩ := mem_arK.1 hm
  have := arV_in hs h2
  refine ⟨(gl (arK W n a 9) j).toNat, ?_, ?_⟩ <;> omega
theorem ar_all {W : Int} {n : Nat} {f : Nat → Int} (hs : sizedB W n = true) {u k : Nat} (h : stN W n f u k ≠ 0) : Seen (arK W n (u : Int) 9) (arK W n (u : Int) 9).length k := by
  obtain ⟨p, h1, h2, h3⟩ := step_in hs h
  have hm : (k : Int) ∈ arK W n (u : Int) 9 := mem_arK.2 ⟨p, h1, h2, h3⟩
  obtain ⟨i, hi, he⟩ := List.getElem_of_mem hm
  exact ⟨i, hi, by unfold gl; rw [List.getD_eq_getElem?_getD, List.getElem?_eq_getElem hi]; exact he⟩

set_option maxRecDepth 20000 in
set_option maxHeartbeats 8000000 in
theorem sFrom (W : Int) (q : Option Addr) (n c : Nat) (f : Nat → Int) (tt : Nat) (w : World) (hs : sizedB W n = true) (hf : IL w q n f) (hto : tt < n) :
    Calls Try.prog 46 #[cel W q n c, .int .i64 (tt : Int)] w fun e w' => AnsF w w' e W n f tt ∧ Below w.heap.size w w' := by
  have hn2 := sized_le hs
  have hmkI := run_make_row' (P := Try.prog) 23 3 (.int .i64 0) 8 Try.underlying23 infoI rfl .i64 .i64 n (by omega) (by omega)
  have hmkB := run_make_row' (P := Try.prog) 121 4 (.bool false) 1 Try.underlying121 infoBl rfl .i64 .i64 n (by omega) (by omega)
  have G0 := frm_new w W q n c
  have P0 := fap_new w
  have bA := bx_new (w := w) (celL W q n c) 25 rfl
  have x1 := bA.c1
  have t0 : (0 : Int) ≤ (tt : Int) := by omega
  have t1 : (tt : Int) < (n : Int) := by omega
  go_enter Try.func46, Try.ntmps46
  go_wp2
  clear hmkI hmkB x1 bA
  generalize (((w.alloc (celO W q n c 25)).alloc (.cells (madeCells #[.int .i64 0] n) 3)).alloc (.cells (madeCells #[.int .i64 0] n) 3)).alloc (.cells (madeCells #[.bool false] n) 4) = w1 at G0 ⊢
  generalize hgd : w.heap.size + 1 + 1 + 1 = gd at G0 P0 ⊢
  generalize hgb : w.heap.size + 1 + 1 = gb at G0 P0 ⊢
  generalize hga : w.heap.size + 1 = ga at G0 P0 ⊢
  clear hgd hgb hga
  go_loopw [29] (fun i wr => ∃ k : Nat, k ≤ n ∧ i = .int .i64 k ∧ Frm w wr W q n c ga gb gd (fun i => if i < k then -1 else 0) (fun i => if i < k then -1 else 0) (fun _ => false)) (fun i _ => n - (intOf i).toNat)
  case atStart => exact ⟨0, Nat.zero_le _, rfl, G0.congr (fun i _ => by simp) (fun i _ => by simp)⟩
  case round =>
    obtain ⟨k, hk, rfl, G⟩ := hrel
    clear G0
    by_cases hlt : k < n
    · have j0 : (0 : Int) ≤ (k : Int) := by omega
      have j1 : (k : Int) < (n : Int) := by omega
      have y0 := G.a.c k hlt
      have z0 := G.a.fz k
      have G1 := G.putA P0 hlt (-1)
      have y1 := G1.b.c k hlt
      have z1 := G1.b.fz k
      have G2 := G1.putB P0 hlt (-1)
      have G3 := G2.congr (A' := fun i => if i < k + 1 then -1 else 0) (B' := fun i => if i < k + 1 then -1 else 0)
        (fun i _ => by unfold put; by_cases e : i = k; { subst e; simp }; { by_cases e2 : i < k; { simp [e, e2]; omega }; { simp [e, e2]; omega } })
        (fun i _ => by unfold put; by_cases e : i = k; { subst e; simp }; { by_cases e2 : i < k; { simp [e, e2]; omega }; { simp [e, e2]; omega } })
      clear G G1 G2
      go_wp2
      exact ⟨⟨k + 1, by omega, by go_num, G3⟩, by simp [intOf]; omega⟩
    · have hkn : n = k := by omega
      subst hkn
      have G1 := G.congr (A' := fun _ => -1) (B' := fun _ => -1) (fun i hi => by simp [hi]) (fun i hi => by simp [hi])
      have y0 := G1.a.c tt hto
      have z0 := G1.a.fz tt
      have G2 := G1.putA P0 hto 0
      have y1 := G2.b.c tt hto
      have z1 := G2.b.fz tt
      have G3 := G2.putB P0 hto 0
      have hD0 := Dj.start (stN W n f) n tt
      have HD0 : Hid _ := hD0
      clear G G1 G2 hD0
      go_wp2
      clear y0 z0 y1 z1
      generalize ((wr.setCell ⟨ga, tt, none⟩ (.int .i64 0)).setCell ⟨gb, tt, none⟩ (.int .i64 0)) = w2 at G3 ⊢
      have hsy : ∀ i k, stN W n f i k = stN W n f k i := fun i k => step_sym W n f i k
      have HSY : Hid _ := hsy
      clear hsy
      go_loopg [11] n (fun g _ wr => ∃ (A B : Nat → Int) (D : Nat → Bool), Frm w wr W q n c ga gb gd A B D ∧ Dj (stN W n f) n tt A B D ∧ n ≤ g + cntD D n)
      case atStart => exact ⟨_, _, _, G3, HD0.out, by omega⟩
      case round =>
        obtain ⟨A, B, D, G, hD, hg⟩ := hrel
        clear G3 HD0
        have HD : Hid _ := hD
        clear hD
        obtain ⟨w3, hw3⟩ : ∃ w3, w3 = wr := ⟨wr, rfl⟩
        subst hw3
        go_wp2
        go_loopw [11, 47] (fun b i wx => ∃ (k : Nat) (v : Int), k ≤ n ∧ i = .int .i64 k ∧ b = .int .i64 v ∧ Bst n A B D k v ∧ ∃ m, wx = w3.drewN m) (fun _ i _ => n - (intOf i).toNat)
        case atStart => exact ⟨0, -1, Nat.zero_le _, rfl, rfl, Bst.start n A B D, 0, rfl⟩
        case round =>
          obtain ⟨k, v, hk, rfl, rfl, hb, m, hwx⟩ := hrel
          have HB : Hid (Bst n A B D k v) := hb
          clear hb
          have Gx : Frm w wr W q n c ga gb gd A B D := by rw [hwx]; exact G.on (below_dr (Below.refl _ _) m)
          have HW : Hid _ := hwx
          clear hwx
          by_cases hlt : k < n
          · have j0 : (0 : Int) ≤ (k : Int) := by omega
            have j1 : (k : Int) < (n : Int) := by omega
            have a0 := Gx.a.c k hlt
            have b0 := Gx.b.c k hlt
            have d0 := Gx.d.c k hlt
            have hbk : Hid (0 ≤ A k → 0 ≤ B k ∧ A k + B k ≤ 256) := fun h => (by have := HD.out.bnd k hlt h; have := cntD_le D n; omega : _ ∧ _)
            by_cases c1 : 0 ≤ A k
            · have c1' : decide (0 ≤ A k) = true := by simpa using c1
              cases c2 : D k with
              | true =>
                have hbest := Bst.same HB.out (.inr c2)
                have HN : Hid (Bst n A B D (k + 1) _) := hbest
                rw [c2] at d0
                clear hbest HB hbk c2 b0
                generalize A k = ak at a0 c1 c1'
                go_wp2
                go_quiet (fail)
                go_wp2
                exact ⟨⟨k + 1, v, by omega, by go_num, rfl, HN.out, _, by rw [HW.out, World.drewN_drewN]⟩, by simp [intOf]; omega⟩
              | false =>
                rw [c2] at d0
                obtain ⟨bk0, bk1⟩ := hbk.out c1
                clear hbk
                have hv : v = -1 ∨ ∃ u : Nat, v = (u : Int) ∧ u < n ∧ 0 ≤ A u := by
                  rcases HB.out with ⟨e, _⟩ | ⟨u, e, _, h2, h3, _⟩
                  · exact .inl e
                  · exact .inr ⟨u, e, h2, h3⟩
                rcases hv with rfl | ⟨u, rfl, hu, hu0⟩
                · have hbest := Bst.first HB.out hlt c1 c2
                  have HN : Hid (Bst n A B D (k + 1) _) := hbest
                  clear hbest HB c2 b0
                  generalize A k = ak at a0 c1 c1' bk1
                  generalize B k = bk at bk0 bk1
                  go_wp2
                  go_quiet (fail)
                  go_wp2
                  exact ⟨⟨k + 1, (k : Int), by omega, by go_num, rfl, HN.out, _, by rw [HW.out, World.drewN_drewN]⟩, by simp [intOf]; omega⟩
                · have a1 := Gx.a.c u hu
                  have b1 := Gx.b.c u hu
                  have hbu : 0 ≤ B u ∧ A u + B u ≤ 256 := by have := HD.out.bnd u hu hu0; have := cntD_le D n; omega
                  obtain ⟨bu0, bu1⟩ := hbu
                  have u0 : (0 : Int) ≤ (u : Int) := by omega
                  have u1 : (u : Int) < (n : Int) := by omega
                  have u2 : decide ((u : Int) < 0) = false := by simp
                  have kc := fun w => sCmp (A k - A u) (B k - B u) w (by omega) (by omega) (by omega) (by omega)
                  have ek : cmpV (A k - A u) (B k - B u) = sgI (ky (A k) (B k) - ky (A u) (B u)) := by
                    rw [cmp_key (by omega) (by omega)]; congr 1; unfold ky; omega
                  rw [ek] at kc
                  by_cases c3 : ky (A k) (B k) < ky (A u) (B u)
                  · have c4 : decide (sgI (ky (A k) (B k) - ky (A u) (B u)) < 0) = true := decide_eq_true (sg_lt.2 (by omega))
                    have hbest := Bst.better HB.out hlt c1 c2 c3
                    have HN : Hid (Bst n A B D (k + 1) _) := hbest
                    generalize sgI (ky (A k) (B k) - ky (A u) (B u)) = rr at kc c4
                    clear hbest HB c2 c3 ek
                    generalize A k = ak at *
                    generalize B k = bk at *
                    generalize A u = au at *
                    generalize B u = bu at *
                    go_wp2
                    go_quiet ((go_at_call 49; exact Calls.quiet_of_same (kc _)))
                    go_wp2
                    exact ⟨⟨k + 1, (k : Int), by omega, by go_num, rfl, HN.out, _, by rw [HW.out, World.drewN_drewN]⟩, by simp [intOf]; omega⟩
                  · have c4 : decide (sgI (ky (A k) (B k) - ky (A u) (B u)) < 0) = false := decide_eq_false (fun h => c3 (by have := sg_lt.1 h; omega))
                    have hbest := Bst.worse HB.out c3
                    have HN : Hid (Bst n A B D (k + 1) _) := hbest
                    generalize sgI (ky (A k) (B k) - ky (A u) (B u)) = rr at kc c4
                    clear hbest HB c2 c3 ek
                    generalize A k = ak at *
                    generalize B k = bk at *
                    generalize A u = au at *
                    generalize B u = bu at *
                    go_wp2
                    go_quiet ((go_at_call 49; exact Calls.quiet_of_same (kc _)))
                    go_wp2
                    exact ⟨⟨k + 1, (u : Int), by omega, by go_num, rfl, HN.out, _, by rw [HW.out, World.drewN_drewN]⟩, by simp [intOf]; omega⟩
            · have c1' : decide (0 ≤ A k) = false := by simpa using c1
              have hbest := Bst.same HB.out (.inl c1)
              have HN : Hid (Bst n A B D (k + 1) _) := hbest
              clear hbest HB hbk b0 d0
              generalize A k = ak at a0 c1 c1'
              go_wp2
              go_quiet (fail)
              go_wp2
              exact ⟨⟨k + 1, v, by omega, by go_num, rfl, HN.out, _, by rw [HW.out, World.drewN_drewN]⟩, by simp [intOf]; omega⟩
          · have hkn : n = k := by omega
            subst hkn
            rcases HB.out with ⟨e, hall⟩ | ⟨u, e, _, hu, hu0, hud, hmin⟩
            · subst e
              have HX : Hid (Dst (stN W n f) n tt A B) := Dj.done HD.out (by omega) hto HSY.out (fun i k h => step_lt h) (fun i hi h0 => hall i hi h0)
              have HS0 : Hid (A tt = 0 ∧ B tt = 0) := HD.out.src
              have p1 := P0.a
              have p2 := P0.b
              clear HB hall HD hg
              go_wp2
              go_ret2
              exact ⟨⟨ga, gb, A, B, rfl, Gx.a, Gx.b, by omega, by omega, by omega, HX.out, HS0.out.1, HS0.out.2⟩, Gx.be⟩
            · subst e
              have HR : Hid (Rx (stN W n f) n tt A B (putD D u) u (Seen (arK W n (u : Int) 9) 0)) := Rx.mono (Dj.take HD.out hu hu0 hud (fun i hi h0 hd => hmin i hi h0 hd)) (fun i h => by obtain ⟨p, h1, _⟩ := h; omega)
              have HC : Hid (cntD (putD D u) n = cntD D n + 1 ∧ cntD D n < n) := (by have h1 := cntD_put (n := n) hud; rw [if_pos hu] at h1; exact ⟨h1, cntD_lt hud hu⟩ : _ ∧ _)
              have d0 := Gx.d.c u hu
              have z0 := Gx.d.fz u
              rw [hud] at d0
              have G1 := Gx.putD P0 hu
              have y0 := G1.x.c0
              have y1 := G1.x.c1
              have u0 : (0 : Int) ≤ (u : Int) := by omega
              have u1 : (u : Int) < (n : Int) := by omega
              have u2 : decide ((u : Int) < 0) = false := by simp
              have HL1 : Hid (∀ j, j < (arK W n (u : Int) 9).length → ∃ k : Nat, gl (arK W n (u : Int) 9) j = (k : Int) ∧ k < n) := fun j hj => ar_cells hs hj
              have HL2 : Hid (∀ k, stN W n f u k ≠ 0 → Seen (arK W n (u : Int) 9) (arK W n (u : Int) 9).length k) := fun k h => ar_all hs h
              have hlen := arK_len W n (u : Int) 9
              have kar := fun w => sAround W q n c (u : Int) w hs u0 u1
              generalize arK W n (u : Int) 9 = L at HR HL1 HL2 hlen kar
              have HG : Hid (n ≤ gk + cntD D n) := hg
              clear HB hmin hud hu0 HD hg G HW
              go_wp2_with fail
              refine (kar _).mono ?_
              rintro e w5 ⟨⟨la, lc, rfl, hLQ⟩, hb5⟩
              have G2 := G1.on hb5
              have hlo : ga < (wr.setCell ⟨gd, u, none⟩ (.bool true)).heap.size ∧ gb < (wr.setCell ⟨gd, u, none⟩ (.bool true)).heap.size := ⟨G1.a.lt, G1.b.lt⟩
              clear kar d0 z0 G1 y0 y1 Gx hb5
              generalize (wr.setCell ⟨gd, u, none⟩ (.bool true)).heap.size = lo at hLQ hlo
              generalize w5.heap.size = hi' at hLQ
              go_wp2
              go_loopw [101] (fun i wx => ∃ (j : Nat) (A B : Nat → Int), j ≤ L.length ∧ i = .int .i64 j ∧ Frm w wx W q n c ga gb gd A B (putD D u) ∧ Rx (stN W n f) n tt A B (putD D u) u (Seen L j) ∧ LQ wx lo hi' la L.length (gl L)) (fun i _ => L.length - (intOf i).toNat)
              case atStart => exact ⟨0, A, B, Nat.zero_le _, rfl, G2, HR.out, hLQ⟩
              case round =>
                obtain ⟨j, A2, B2, hj, rfl, G, hR, hQ⟩ := hrel
                clear hLQ G2 HR
                have HR : Hid (Rx (stN W n f) n tt A2 B2 (putD D u) u (Seen L j)) := hR
                clear hR
                by_cases hlj : j < L.length
                · obtain ⟨kn, hkn, hkl⟩ := HL1.out j hlj
                  have HK : Hid (gl L j = (kn : Int)) := hkn
                  obtain ⟨bl, rfl, hb1, hb2, hP⟩ := hQ (by omega)
                  have c0 := hP.c j hlj
                  rw [hkn] at c0
                  have y0 := G.x.c0
                  have y1 := G.x.c1
                  have j0 : (0 : Int) ≤ (j : Int) := by omega
                  have j1 : (j : Int) < (L.length : Int) := by omega
                  have k0 : (0 : Int) ≤ (kn : Int) := by omega
                  have k1 : (kn : Int) < (n : Int) := by omega
                  have ks := sStep W q n c f (u : Int) (kn : Int) wr hs (hf.below G.be)
                  have hin := stepV_in W n f (u : Int) (kn : Int)
                  have Q := lq_of hP hb1 hb2
                  have hst : stN W n f u kn = stepV W n f (u : Int) (kn : Int) := rfl
                  generalize stepV W n f (u : Int) (kn : Int) = sv at ks hin hst
                  have HS : Hid (stN W n f u kn = sv) := hst
                  have hdu := HR.out.d0.1
                  have hau := (HR.out.rel u hu hdu).1
                  have hbu := HR.out.bnd u hu hau
                  have hbu2 := HR.out.bnd0
                  have hcn := cntD_le (putD D u) n
                  have HBK : Hid (0 ≤ A2 kn → 0 ≤ B2 kn ∧ A2 kn + B2 kn ≤ 256) := fun h => (by have := HR.out.bnd kn hkl h; omega : _ ∧ _)
                  have hau1 : 0 ≤ A2 u ∧ 0 ≤ B2 u ∧ A2 u + B2 u ≤ 255 := by omega
                  obtain ⟨v0, v1, v2⟩ := hau1
                  clear hkn hst hP hQ HL1 HL2 HC HG hau hbu hbu2 hcn hdu hb1 hb2
                  go_wp2_with fail
                  refine ks.mono ?_
                  rintro e w6 ⟨rfl, hb6⟩
                  have G6 := G.on hb6
                  have Q6 := Q.on hb6
                  have da := G6.d.c kn hkl
                  have aU := G6.a.c u hu
                  have bU := G6.b.c u hu
                  have aK := G6.a.c kn hkl
                  have bK := G6.b.c kn hkl
                  clear ks c0 y0 y1 G Q hb6
                  have y0 := G6.x.c0
                  have y1 := G6.x.c1
                  rcases hin with rfl | rfl | rfl
                  · have HN : Hid _ := Rx.mono (Rx.skip HR.out (k := kn) (fun _ h => absurd HS.out h)) (fun i => seen_next HK.out)
                    clear HR HBK HS HK da aU bU aK bK
                    go_wp2
                    exact ⟨⟨j + 1, _, _, by omega, by go_num, G6, HN.out, Q6⟩, by simp [intOf]; omega⟩
                  · cases dk : putD D u kn with
                    | true =>
                      rw [dk] at da
                      have HN : Hid _ := Rx.mono (Rx.doneCell HR.out dk) (fun i => seen_next HK.out)
                      clear HR HBK HS HK aU bU aK bK dk
                      go_wp2
                      exact ⟨⟨j + 1, _, _, by omega, by go_num, G6, HN.out, Q6⟩, by simp [intOf]; omega⟩
                    | false =>
                      rw [dk] at da
                      have eX : nxA 1 (A2 u) = A2 u + 1 := by simp [nxA]
                      have eY : nxB 1 (B2 u) = B2 u := by simp [nxB]
                      have hput := fun h => Rx.mono (rx_put HR.out hkl dk (.inl HS.out) HSY.out h) (fun i => seen_next HK.out)
                      rw [HS.out, eX, eY] at hput
                      have hskip := fun h => Rx.mono (Rx.skip HR.out (k := kn) (fun _ _ => h)) (fun i => seen_next HK.out)
                      have hkn1 := ky_nx 1 (A2 u) (B2 u)
                      rw [eX, eY] at hkn1
                      rw [HS.out, ← hkn1] at hskip
                      have HPUT : Hid _ := hput
                      have HSKIP : Hid _ := hskip
                      have hbK := HBK.out
                      have hcm : ¬ A2 kn < 0 → cmpV (A2 u + 1 - A2 kn) (B2 u - B2 kn) = sgI (ky (A2 u + 1) (B2 u) - ky (A2 kn) (B2 kn)) := fun h => by
                        have := hbK (by omega)
                        rw [cmp_key (by omega) (by omega)]; congr 1; unfold ky; omega
                      clear hput hskip eX eY hkn1 HR HBK HK HS HSY
                      generalize A2 kn = ak at *
                      generalize B2 kn = bk at *
                      generalize A2 u = au at *
                      generalize B2 u = bu at *
                      go_upto_region 33 with fail
                      go_cut [151] from 131 to 151 (fun s wx => s = .bool (decide (ak < 0) || decide (ky (au + 1) (bu) < ky ak bk)) ∧ ∃ m, wx = w6.drewN m)
                      case first =>
                        by_cases c1 : ak < 0
                        · have c1' : decide (ak < 0) = true := decide_eq_true c1
                          clear HPUT HSKIP hcm hbK
                          go_quiet (fail)
                          go_wp2_with fail
                          go_meet
                          case rel => exact ⟨by simp [c1], _, rfl⟩
                        · have c1' : decide (ak < 0) = false := decide_eq_false c1
                          have hb3 := hbK (by omega)
                          have kc := fun w => sCmp (au + 1 - ak) (bu - bk) w (by omega) (by omega) (by omega) (by omega)
                          rw [hcm (by omega)] at kc
                          by_cases c3 : ky (au + 1) (bu) < ky ak bk
                          · have c4 : decide (sgI (ky (au + 1) (bu) - ky ak bk) < 0) = true := decide_eq_true (sg_lt.2 (by omega))
                            have C3 : Hid _ := c3
                            clear HPUT HSKIP hcm hbK c3
                            generalize sgI (ky (au + 1) (bu) - ky ak bk) = rr at kc c4
                            go_quiet ((go_at_call 49; exact Calls.quiet_of_same (kc _)))
                            go_wp2_with fail
                            go_meet
                            case rel => exact ⟨by simp [C3.out], _, rfl⟩
                          · have c4 : decide (sgI (ky (au + 1) (bu) - ky ak bk) < 0) = false := decide_eq_false (fun h => c3 (by have := sg_lt.1 h; omega))
                            have C3 : Hid ((decide (ak < 0) || decide (ky (au + 1) (bu) < ky ak bk)) = false) := (by rw [c1', decide_eq_false c3]; rfl : _ = _)
                            clear HPUT HSKIP hcm hbK c3
                            generalize sgI (ky (au + 1) (bu) - ky ak bk) = rr at kc c4
                            go_quiet ((go_at_call 49; exact Calls.quiet_of_same (kc _)))
                            go_wp2_with fail
                            go_meet
                            case rel => exact ⟨by rw [C3.out], _, rfl⟩
                      case rest =>
                        obtain ⟨rfl, m, hwc⟩ := hcut
                        have hdr : Below w6.heap.size w6 wc := by rw [hwc]; exact below_dr (Below.refl _ _) m
                        have G8 := G6.on hdr
                        have Q8 := Q6.on hdr
                        clear hcm hbK hwc hdr
                        cases el : (decide (ak < 0) || decide (ky (au + 1) (bu) < ky ak bk)) with
                        | true =>
                          have HN := HPUT.out (by simpa using el)
                          have g1 := G8.a.c kn hkl
                          have f1 := G8.a.fz kn
                          have G9 := G8.putA P0 hkl (au + 1)
                          have g2 := G9.b.c kn hkl
                          have f2 := G9.b.fz kn
                          have G10 := G9.putB P0 hkl (bu)
                          have Q9 := lq_set (lq_set Q8 (b := ga) (k := kn) (.int .i64 (au + 1)) (.inl hlo.1)) (b := gb) (k := kn) (.int .i64 (bu)) (.inl hlo.2)
                          have HN' : Hid _ := HN
                          clear HN HPUT HSKIP el G8 G9 Q8 G6 Q6 aK bK aU bU da y0 y1
                          go_wp2
                          exact ⟨⟨j + 1, _, _, by omega, by go_num, G10, HN'.out, Q9⟩, by simp [intOf]; omega⟩
                        | false =>
                          have el2 : ¬ ak < 0 ∧ ¬ ky (au + 1) (bu) < ky ak bk := by simpa using el
                          have HN := HSKIP.out ⟨by omega, by omega⟩
                          have HN' : Hid _ := HN
                          clear HN HPUT HSKIP el el2
                          go_wp2
                          exact ⟨⟨j + 1, _, _, by omega, by go_num, G8, HN'.out, Q8⟩, by simp [intOf]; omega⟩
                  · cases dk : putD D u kn with
                    | true =>
                      rw [dk] at da
                      have HN : Hid _ := Rx.mono (Rx.doneCell HR.out dk) (fun i => seen_next HK.out)
                      clear HR HBK HS HK aU bU aK bK dk
                      go_wp2
                      exact ⟨⟨j + 1, _, _, by omega, by go_num, G6, HN.out, Q6⟩, by simp [intOf]; omega⟩
                    | false =>
                      rw [dk] at da
                      have eX : nxA 2 (A2 u) = A2 u := by simp [nxA]
                      have eY : nxB 2 (B2 u) = B2 u + 1 := by simp [nxB]
                      have hput := fun h => Rx.mono (rx_put HR.out hkl dk (.inr HS.out) HSY.out h) (fun i => seen_next HK.out)
                      rw [HS.out, eX, eY] at hput
                      have hskip := fun h => Rx.mono (Rx.skip HR.out (k := kn) (fun _ _ => h)) (fun i => seen_next HK.out)
                      have hkn1 := ky_nx 2 (A2 u) (B2 u)
                      rw [eX, eY] at hkn1
                      rw [HS.out, ← hkn1] at hskip
                      have HPUT : Hid _ := hput
                      have HSKIP : Hid _ := hskip
                      have hbK := HBK.out
                      have hcm : ¬ A2 kn < 0 → cmpV (A2 u - A2 kn) (B2 u + 1 - B2 kn) = sgI (ky (A2 u) (B2 u + 1) - ky (A2 kn) (B2 kn)) := fun h => by
                        have := hbK (by omega)
                        rw [cmp_key (by omega) (by omega)]; congr 1; unfold ky; omega
                      clear hput hskip eX eY hkn1 HR HBK HK HS HSY
                      generalize A2 kn = ak at *
                      generalize B2 kn = bk at *
                      generalize A2 u = au at *
                      generalize B2 u = bu at *
                      go_upto_region 33 with fail
                      go_cut [151] from 131 to 151 (fun s wx => s = .bool (decide (ak < 0) || decide (ky (au) (bu + 1) < ky ak bk)) ∧ ∃ m, wx = w6.drewN m)
                      case first =>
                        by_cases c1 : ak < 0
                        · have c1' : decide (ak < 0) = true := decide_eq_true c1
                          clear HPUT HSKIP hcm hbK
                          go_quiet (fail)
                          go_wp2_with fail
                          go_meet
                          case rel => exact ⟨by simp [c1], _, rfl⟩
                        · have c1' : decide (ak < 0) = false := decide_eq_false c1
                          have hb3 := hbK (by omega)
                          have kc := fun w => sCmp (au - ak) (bu + 1 - bk) w (by omega) (by omega) (by omega) (by omega)
                          rw [hcm (by omega)] at kc
                          by_cases c3 : ky (au) (bu + 1) < ky ak bk
                          · have c4 : decide (sgI (ky (au) (bu + 1) - ky ak bk) < 0) = true := decide_eq_true (sg_lt.2 (by omega))
                            have C3 : Hid _ := c3
                            clear HPUT HSKIP hcm hbK c3
                            generalize sgI (ky (au) (bu + 1) - ky ak bk) = rr at kc c4
                            go_quiet ((go_at_call 49; exact Calls.quiet_of_same (kc _)))
                            go_wp2_with fail
                            go_meet
                            case rel => exact ⟨by simp [C3.out], _, rfl⟩
                          · have c4 : decide (sgI (ky (au) (bu + 1) - ky ak bk) < 0) = false := decide_eq_false (fun h => c3 (by have := sg_lt.1 h; omega))
                            have C3 : Hid ((decide (ak < 0) || decide (ky (au) (bu + 1) < ky ak bk)) = false) := (by rw [c1', decide_eq_false c3]; rfl : _ = _)
                            clear HPUT HSKIP hcm hbK c3
                            generalize sgI (ky (au) (bu + 1) - ky ak bk) = rr at kc c4
                            go_quiet ((go_at_call 49; exact Calls.quiet_of_same (kc _)))
                            go_wp2_with fail
                            go_meet
                            case rel => exact ⟨by rw [C3.out], _, rfl⟩
                      case rest =>
                        obtain ⟨rfl, m, hwc⟩ := hcut
                        have hdr : Below w6.heap.size w6 wc := by rw [hwc]; exact below_dr (Below.refl _ _) m
                        have G8 := G6.on hdr
                        have Q8 := Q6.on hdr
                        clear hcm hbK hwc hdr
                        cases el : (decide (ak < 0) || decide (ky (au) (bu + 1) < ky ak bk)) with
                        | true =>
                          have HN := HPUT.out (by simpa using el)
                          have g1 := G8.a.c kn hkl
                          have f1 := G8.a.fz kn
                          have G9 := G8.putA P0 hkl (au)
                          have g2 := G9.b.c kn hkl
                          have f2 := G9.b.fz kn
                          have G10 := G9.putB P0 hkl (bu + 1)
                          have Q9 := lq_set (lq_set Q8 (b := ga) (k := kn) (.int .i64 (au)) (.inl hlo.1)) (b := gb) (k := kn) (.int .i64 (bu + 1)) (.inl hlo.2)
                          have HN' : Hid _ := HN
                          clear HN HPUT HSKIP el G8 G9 Q8 G6 Q6 aK bK aU bU da y0 y1
                          go_wp2
                          exact ⟨⟨j + 1, _, _, by omega, by go_num, G10, HN'.out, Q9⟩, by simp [intOf]; omega⟩
                        | false =>
                          have el2 : ¬ ak < 0 ∧ ¬ ky (au) (bu + 1) < ky ak bk := by simpa using el
                          have HN := HSKIP.out ⟨by omega, by omega⟩
                          have HN' : Hid _ := HN
                          clear HN HPUT HSKIP el el2
                          go_wp2
                          exact ⟨⟨j + 1, _, _, by omega, by go_num, G8, HN'.out, Q8⟩, by simp [intOf]; omega⟩
                · have hje : L.length = j := by omega
                  have HJ : Hid (Dj (stN W n f) n tt A2 B2 (putD D u)) := Rx.all HR.out (fun k _ h => hje ▸ HL2.out k h)
                  have j1 : ¬ (j : Int) < (L.length : Int) := by omega
                  have hcc := HC.out
                  have hgg := HG.out
                  have H1 : Hid (gk - 1 < gk) := (by omega : _ < _)
                  have H2 : Hid (n ≤ gk - 1 + cntD (putD D u) n) := (by omega : _ ≤ _)
                  clear HR HL1 HL2 HC hcc hgg HG hQ
                  go_wp2
                  go_roundg (gk - 1)
                  case measure => exact H1.out
                  case rel => exact ⟨A2, B2, putD D u, G, HJ.out, H2.out⟩
end Go.Proofs.Ytfciecoigfnnhaa
