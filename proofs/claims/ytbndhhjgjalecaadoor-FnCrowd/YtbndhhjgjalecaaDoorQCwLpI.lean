/- The least path, as the program tells it. -/
import Derived.Test.YtbndhhjgjalecaaDoorQCwTrip1
import Derived.Deep.RegionHeld
import Derived.Deep.Cut
namespace Go.Proofs.YtbndhhjgjalecaaDoor
open Go.RowKit

/-- what leastPath tells -/
def AnsLp (W : Int) (n : Nat) (f : Nat → Int) (R : Nat → Nat → Int) (J : Nat) (s t : Int) (T : Nat) (w w' : World) (r : Ending) : Prop :=
  (∃ (P : Nat → Int) (g cap : Nat), Bp W n f R J s t T P ∧ r = .returned (.tuple #[.slice (some ⟨g, 0, none⟩) (T + 1) cap, .bool true]) ∧ w.heap.size ≤ g ∧ T + 1 ≤ cap ∧ IP w' g (T + 1) P ∧ ∀ i, i ≤ T → 0 ≤ P i ∧ P i < (n : Int)) ∨ ((∀ P, ¬ Vp W n f R J s t T P) ∧ r = .returned (.tuple #[.slice none 0 0, .bool false]))
theorem run_great (x y : Int) (ts : Array TypeId) (t : TypeId) (w : World) : (Builtin.max_ ts t #[.int .i64 x, .int .i64 y]).run Tryd.prog w = .ok (.int .i64 (max x y)) w := by
  by_cases h : x ≤ y
  · rw [Int.max_eq_right h]
    simp [Builtin.max_, Builtin.max2]
    intro h2; omega
  · rw [Int.max_eq_left (by omega)]
    simp [Builtin.max_, Builtin.max2]
    intro h2; omega
/-- an append goes on behind the calls of its region -/
theorem held_append {P : Program} {o : Oper} {a : Act} {w w' : World} {K : Act → World → Prop} {Q : Exit → Act → World → Prop} {b : Prop} [Decidable b] (hb : b) (s x : Operand) (t : TypeId) (ho : o.op = .call { callee := .builtin .append, args := #[s, x], argTypes := #[t, t] }) {v vx v' : Value} (hs : a.eval s = v) (hx : a.eval x = vx) (hr : (Builtin.append_ #[t, t] o.type #[v, vx]).run P w = .ok v' w') (h : K (a.put o.dst v') w') : if b then Oper.wp P o a w K Q else K (a.put o.dst undef) w := by
  rw [if_pos hb]
  unfold Oper.wp execOp
  simp only [ho, resolve, invoke, builtin, Sem.run_bind, Sem.run_pure, Result.andThen_ok, List.map_toArray, List.map_cons, List.map_nil, hs, hx, hr]
  exact h
/-- an append of one leaves what the old slice held -/
theorem append_kept {P : Program} (w : World) (base : Nat) (t ty e : TypeId) (i : TypeInfo) (z : Value) (bytes : Nat) (ht : P.underlying t = some (.slice e)) (hi : P.info? e = some i) (hz : i.zero = some z) (hsize : i.size = 1) (hby : i.bytes = bytes) (g n cap : Nat) (xs : List Value) (hown : w.ownsRow base e 1 (.slice (some ⟨g, 0, none⟩) n cap) n xs) (a : Addr) (c : Nat) (x : Value) (hnews : ∀ j u, [x][j]? = some u → w.cell? (a.add j) = some u) (h1 : ∀ u ∈ [x], u.oneCell' = true) (h63 : n + 1 ≤ maxLen) (hbytes : (n + 1) * bytes ≤ 140737488355328) {v' : Value} {w' : World} (hrun : (Builtin.append_ #[t, t] ty #[.slice (some ⟨g, 0, none⟩) n cap, .slice (some a) 1 c]).run P w = .ok v' w') (hown' : w'.ownsRow base e 1 v' (n + 1) (xs ++ [x])) (j : Nat) (u : Value) (hj : xs[j]? = some u) : w'.cell? ((⟨g, 0, none⟩ : Addr).add j) = some u := by
  subst hby
  have hsmall : n + 1 ≤ 9223372036854775807 := by simp only [maxLen] at h63; omega
  have holds : ∀ j u, xs[j]? = some u → w.cell? ((⟨g, 0, none⟩ : Addr).add j) = some u := hown.cells (g := g) rfl
  rcases hown.2 with ⟨h9, -⟩ | ⟨g', cap', cur, h9, hbg, hg, hnc, hcm, hcs, htake⟩
  · cases h9
  · cases h9
    by_cases hroom : n + 1 ≤ cap
    · have hfit : n * i.size + [x].length ≤ cur.size := by rw [hsize, hcs]; simp; omega
      have hr := run_append_room (P := P) w t ty e i ht hi g n cap cur hg a 1 c [x] (by rw [hsize]; rfl) hnews h1 hroom hfit
      rw [hrun] at hr
      injection hr with e1 e2
      subst e1
      exact hown'.cells (g := g) rfl j u (by rw [List.getElem?_append_left (by have := (List.getElem?_eq_some_iff.1 hj).1; exact this)]; exact hj)
    · have hr := run_append_grow (P := P) w t ty e i z ht hi hz ⟨g, 0, none⟩ n cap xs (by rw [hsize]; exact hown.1) holds a 1 c [x] (by rw [hsize]; rfl) hnews (by omega) (by omega) (growslice_fits (by omega) hbytes)
      rw [hrun] at hr
      injection hr with e1 e2
      rw [e2]
      have hgl : g < w.heap.size := (World.ownsRow.lt hown g rfl).2
      refine Eq.trans ?_ (holds j u hj)
      exact (((Below.refl w.heap.size w).drew).alloc (by simp) _).cell (p := (⟨g, 0, none⟩ : Addr).add j) (by simpa [Addr.add_lit] using hgl)
set_option maxRecDepth 20000 in
set_option maxHeartbeats 8000000 in
theorem leastPath_any (W : Int) (a : Option Addr) (n c : Nat) (f : Nat → Int) (R : Nat → Nat → Int) (J Mb cnt : Nat) (t : Int) (Db T : Nat) (B : Nat → Nat) (D : Nat → Nat → Int) (S : Nat) (w : World) (hs : sizedB W n = true) (hf : IL w a n f) (hT : Tab w) (hT2 : T ≤ 1000) (hm : MS w Mb cnt (mR R T J)) (hD : Dt w Db T n B D 0) (hdue : ∀ k, k ≤ T + 1 → ∀ q, q < n → DueIs W n f R J t T k (q : Int) (D k q)) (hu : Uq R T J) (ht : frB n f t = true) (hS : S < n) (hSf : f S = 0) :
    Calls Tryd.prog 37 #[olv W (hgt W n) a n c Mb t Db (T + 2), .int .i64 (S : Int)] w fun r w' => AnsLp W n f R J (S : Int) t T w w' r ∧ Below w.heap.size w w' := by
  have hn := sized_le hs
  obtain ⟨i0, hi, hzz⟩ := Option.map_eq_some_iff.1 infoI
  simp only [Prod.mk.injEq] at hzz
  obtain ⟨hz0, hz1, hz2⟩ := hzz
  have hd0 := hdue 0 (by omega) S hS
  have hlo := hd0.lo
  have hhi := hd0.hi
  have kNv := fun H w => never_any W H a n c Mb t Db T w hT2
  have kNx := fun tk p e x w h1 h2 h3 h4 h5 h6 h7 => leastNext_any W a n c f R J Mb cnt t Db T B D tk p e x w hs h1 h2 hT2 h3 h4 h5 h6 h7
  obtain ⟨H, eH⟩ : ∃ H, hgt W n = H := ⟨_, rfl⟩
  rw [eH] at kNx ⊢
  clear eH
  have b0 := bx_new (w := w) (olL W H a n c Mb t Db (T + 2)) 75 rfl
  have hb0 : Below w.heap.size w (w.alloc (.cells (olL W H a n c Mb t Db (T + 2)).toArray 75)) := (Below.refl _ _).alloc (Nat.le_refl _) _
  obtain ⟨Ln, hLn⟩ : ∃ Ln, T + 2 = Ln := ⟨_, rfl⟩
  have hlnc : ((Ln : Nat) : Int) = (T : Int) + 2 := by omega
  rw [hLn] at kNv kNx b0 hb0 ⊢
  clear hLn
  have x0 := b0.c0
  have x1 := b0.c1
  have x2 := b0.c2
  have x3 := b0.c3
  have x4 := b0.c4
  have x5 := b0.c5
  have hD1 := hD.on hb0
  have z0 := hD1.cell 0 (Nat.le_refl _) (by omega)
  have z1 := (hD1.row 0 (Nat.le_refl _) (by omega)).c S hS
  have j0 : (0 : Int) < ((Ln : Nat) : Int) := by omega
  have j1 : (0 : Int) ≤ (S : Int) := by omega
  have j2 : (S : Int) < (n : Int) := by omega
  have HNONE : Hid (D 0 S = (T : Int) + 1 → AnsLp W n f R J (S : Int) t T w w (.returned (.tuple #[.slice none 0 0, .bool false]))) := fun h => .inr ⟨fun P => due_none hd0 h (frB_mk ⟨by omega, by omega, by simpa using hSf⟩) P, rfl⟩
  obtain ⟨d0, hd0e⟩ : ∃ d0, D 0 S = d0 := ⟨_, rfl⟩
  have HD0 : Hid (D 0 S = d0) := hd0e
  rw [hd0e] at z1 hlo hhi
  clear hd0e
  go_enter Tryd.func37, Tryd.ntmps37
  go_wp2_with fail
  clear z0 z1 x0 x1 x2 x3 x4 x5
  generalize w.alloc (.cells (olL W H a n c Mb t Db Ln).toArray 75) = w1 at *
  refine (kNv H w1).mono ?_
  rintro r w2 ⟨rfl, hb2⟩
  have hB2 := stepA hb0 hb2
  have b2 := b0.on hb2
  clear hb2 b0 hD1
  cases r1 : (d0 == (T : Int) + 1) with
  | true =>
    have HR : Hid (∀ w', AnsLp W n f R J (S : Int) t T w w' (.returned (.tuple #[.slice none 0 0, .bool false]))) := fun w' => by
      rcases HNONE.out (by rw [HD0.out]; simpa using r1) with ⟨P, g, cap, -, h9, -⟩ | h9
      · simp at h9
      · exact .inr h9
    clear HNONE kNx kNv
    go_wp2
    go_ret2
    exact ⟨HR.out _, hB2⟩
  | false =>
    have hne : d0 ≠ (T : Int) + 1 := by simpa using r1
    obtain ⟨e, he⟩ : ∃ e : Nat, d0 = (e : Int) := ⟨d0.toNat, by omega⟩
    have heT : e ≤ T := by omega
    subst he
    have HP0 : Hid (Pth W n f R J (S : Int) t T D e (fun _ => (S : Int)) 0) := pth_start hdue hS hSf heT HD0.out
    have HNX : Hid (∀ (P : Nat → Int) (k : Nat), Pth W n f R J (S : Int) t T D e P k → k < T → ∃ x, (nbL W n f (P k).toNat).find? (opB R T J (k + 1) (P k).toNat (D (k + 1)) (max (e : Int) ((k : Int) + 1))) = some x ∧ Pth W n f R J (S : Int) t T D e (put P (k + 1) x) (k + 1)) := fun P k h1 h2 => pth_next hu hs ht hdue heT (by rw [Int.toNat_natCast]; exact HD0.out) ⟨by omega, by omega⟩ h1 h2
    have HEN : Hid (∀ P, Pth W n f R J (S : Int) t T D e P T → Bp W n f R J (S : Int) t T P) := fun P h => pth_end hs ht hdue heT (by rw [Int.toNat_natCast]; exact HD0.out) ⟨by omega, by omega⟩ h
    have hown0 := own_lit1 w2 w2.heap.size (S : Int) (fun _ => (S : Int)) rfl (Nat.le_refl _)
    have HO0 : Hid (Own (w2.alloc (.cells #[.int .i64 (S : Int)] 3)) w2.heap.size (.slice (some ⟨w2.heap.size, 0, none⟩) 1 1) 1 (fun _ => (S : Int))) := hown0
    have hal : Below w2.heap.size w2 (w2.alloc (.cells #[.int .i64 (S : Int)] 3)) := (Below.refl _ _).alloc (Nat.le_refl _) _
    have b3 := b2.on hal
    have x0 := b3.c0
    have x1 := b3.c1
    have x2 := b3.c2
    have x3 := b3.c3
    have x4 := b3.c4
    have x5 := b3.c5
    clear hown0 hdue hu ht hne HNONE hd0
    go_wp2_with fail
    clear x0 x1 x2 x3 x4 x5
    refine (kNv H _).mono ?_
    rintro r w4 ⟨rfl, hb4⟩
    have hB4 : Below w2.heap.size w2 w4 := stepA hal hb4
    have HO4 : Hid (Own w4 w2.heap.size (.slice (some ⟨w2.heap.size, 0, none⟩) 1 1) 1 (fun _ => (S : Int))) := HO0.out.below hb4
    obtain ⟨bs, hbs⟩ : ∃ bs, bs = w2.heap.size := ⟨_, rfl⟩
    have hbsw : w.heap.size < bs := by rw [hbs]; exact b2.lt
    have HB2 : Hid (Below w.heap.size w w2) := hB2
    have HBX : Hid (Bx w2 w.heap.size (olL W H a n c Mb t Db Ln)) := b2
    rw [← hbs] at HO4 hB4 ⊢
    have HBS : Hid (bs = w2.heap.size) := hbs
    clear kNv hb4 hal b2 b3 HO0 hbs hB2
    have hTe : (T : Int) + 1 - 1 = (T : Int) := by omega
    go_wp2
    go_loopw [7, 25] (fun v i wr => ∃ (k : Nat) (P : Nat → Int), k ≤ T ∧ i = .int .i64 (k : Int) ∧ Own wr bs v (k + 1) P ∧ Hid (Pth W n f R J (S : Int) t T D e P k) ∧ Below bs w2 wr) (fun _ i _ => T - (intOf i).toNat)
    case atStart => exact ⟨0, _, Nat.zero_le _, rfl, HO4.out, HP0, hB4⟩
    case round =>
      obtain ⟨k, P, hk, rfl, hown, HPt, hB⟩ := hrel
      clear HO4 HP0
      have hBw : Below w.heap.size w wr := Below.trans HB2.out (hB.mono (by omega))
      have hsz : bs ≤ wr.heap.size := by have := hB.size; have := HBS.out; omega
      obtain ⟨g, cap, rfl, hg1, hcap, hIP⟩ := own_some2 hown (by omega)
      by_cases hlt : k < T
      · obtain ⟨x, hx, hPt2⟩ := HNX.out P k HPt.out hlt
        obtain ⟨r0, r1'⟩ := (HPt.out : Pth W n f R J (S : Int) t T D e P k).rng k (Nat.le_refl _)
        obtain ⟨p, hp⟩ : ∃ p : Nat, P k = (p : Int) := ⟨(P k).toNat, by omega⟩
        have hpn : p < n := by omega
        rw [hp, Int.toNat_natCast] at hx
        have hpc := hIP.c k (by omega)
        rw [hp] at hpc
        have hgl := hIP.lt
        have bO : Bx wr w.heap.size (olL W H a n c Mb t Db Ln) := Bx.below HBX.out hB (by omega)
        have y0 := bO.c0
        have y1 := bO.c1
        have y2 := bO.c2
        have y3 := bO.c3
        have y4 := bO.c4
        have y5 := bO.c5
        have hmx := run_great (e : Int) ((k : Int) + 1)
        obtain ⟨mx, hmxe⟩ : ∃ mx, max (e : Int) ((k : Int) + 1) = mx := ⟨_, rfl⟩
        rw [hmxe] at hmx hx
        have kN := fun w6 (hb6 : Below wr.heap.size wr w6) => kNx (k + 1) p mx x w6 (hf.below (stepA hBw hb6)) (hT.on (stepA hBw hb6)) (MI.on hm (stepA hBw hb6)) (hD.on (stepA hBw hb6)) (by omega) hpn hx
        have hk1 : ((k + 1 : Nat) : Int) = (k : Int) + 1 := by omega
        rw [hk1] at kN
        have hw0 := Below.refl wr.heap.size wr
        have i0' : (k : Int) < (T : Int) := by omega
        have i1 : (0 : Int) ≤ (k : Int) := by omega
        have i2 : (k : Int) < ((k + 1 : Nat) : Int) := by omega
        have HOW : Hid (Own wr bs (.slice (some ⟨g, 0, none⟩) (k + 1) cap) (k + 1) P) := hown
        have HPK : Hid (P k = (p : Int)) := hp
        have HP2 : Hid (Pth W n f R J (S : Int) t T D e (put P (k + 1) x) (k + 1)) := hPt2
        clear hIP hown hx hPt2 hp HPt r0 r1' hmxe hk1
        go_upto_region 8 with fail
        refine wp_region_held (S := (fun w' => w'.cell? ⟨w.heap.size, 0, none⟩ = some (.int .i64 W) ∧ w'.cell? ⟨w.heap.size, 1, none⟩ = some (.int .i64 H) ∧ w'.cell? ⟨w.heap.size, 2, none⟩ = some (.slice a n c) ∧ w'.cell? ⟨w.heap.size, 3, none⟩ = some (.map (some Mb)) ∧ w'.cell? ⟨w.heap.size, 4, none⟩ = some (.int .i64 t) ∧ w'.cell? ⟨w.heap.size, 5, none⟩ = some (.slice (some ⟨Db, 0, none⟩) Ln Ln) ∧ w'.cell? ⟨g, k, none⟩ = some (.int .i64 (p : Int)))) (by kernel_rfl) ?_
        change wpAnyH _ _ _ _ _ _ _ _ (World.drew _)
        have hSw := (⟨y0, y1, y2, y3, y4, y5, hpc⟩ : _ ∧ _ ∧ _ ∧ _ ∧ _ ∧ _ ∧ _)
        refine wpAnyH_take (i := 0) (v := .slice (some ⟨g, 0, none⟩) (k + 1) cap) rfl (by kernel_rfl) (by kernel_rfl) (by kernel_rfl) (fun _ _ _ h => h) (Or.inl ⟨by rfl, ?_⟩) hSw ?_
        · intro wz hsz
          obtain ⟨z0, z1, z2, z3, z4, z5, z6⟩ := hsz
          go_simp
        try simp [Act.put]
        refine wpAnyH_take (i := 1) (v := olv W H a n c Mb t Db Ln) rfl (by kernel_rfl) (by kernel_rfl) (by kernel_rfl) (fun _ _ _ h => h) (Or.inl ⟨by rfl, ?_⟩) hSw ?_
        · intro wz hsz
          obtain ⟨z0, z1, z2, z3, z4, z5, z6⟩ := hsz
          go_simp
        try simp [Act.put]
        refine wpAnyH_take (i := 2) (v := .int .i64 (k : Int)) rfl (by kernel_rfl) (by kernel_rfl) (by kernel_rfl) (fun _ _ _ h => h) (Or.inl ⟨by rfl, ?_⟩) hSw ?_
        · intro wz hsz
          obtain ⟨z0, z1, z2, z3, z4, z5, z6⟩ := hsz
          go_simp
        try simp [Act.put]
        refine wpAnyH_take (i := 3) (v := .int .i64 ((k : Int) + 1)) rfl (by kernel_rfl) (by kernel_rfl) (by kernel_rfl) (fun _ _ _ h => h) (Or.inl ⟨by rfl, ?_⟩) hSw ?_
        · intro wz hsz
          obtain ⟨z0, z1, z2, z3, z4, z5, z6⟩ := hsz
          go_simp
          try exact IntWalk.i64_in _ ⟨by omega, by omega⟩
        try simp [Act.put]
        refine wpAnyH_take (i := 4) (v := .slice (some ⟨g, 0, none⟩) (k + 1) cap) rfl (by kernel_rfl) (by kernel_rfl) (by kernel_rfl) (fun _ _ _ h => h) (Or.inl ⟨by rfl, ?_⟩) hSw ?_
        · intro wz hsz
          obtain ⟨z0, z1, z2, z3, z4, z5, z6⟩ := hsz
          go_simp
        try simp [Act.put]
        refine wpAnyH_take (i := 5) (v := .int .i64 (k : Int)) rfl (by kernel_rfl) (by kernel_rfl) (by kernel_rfl) (fun _ _ _ h => h) (Or.inl ⟨by rfl, ?_⟩) hSw ?_
        · intro wz hsz
          obtain ⟨z0, z1, z2, z3, z4, z5, z6⟩ := hsz
          go_simp
        try simp [Act.put]
        refine wpAnyH_take (i := 6) (v := .pointer (some ⟨g, k, none⟩)) rfl (by kernel_rfl) (by kernel_rfl) (by kernel_rfl) (fun _ _ _ h => h) (Or.inl ⟨by rfl, ?_⟩) hSw ?_
        · intro wz hsz
          obtain ⟨z0, z1, z2, z3, z4, z5, z6⟩ := hsz
          go_simp
          try (intro h9; omega)
        try simp [Act.put]
        refine wpAnyH_take (i := 7) (v := .int .i64 (p : Int)) rfl (by kernel_rfl) (by kernel_rfl) (by kernel_rfl) (fun _ _ _ h => h) (Or.inl ⟨by rfl, ?_⟩) hSw ?_
        · intro wz hsz
          obtain ⟨z0, z1, z2, z3, z4, z5, z6⟩ := hsz
          go_simp
        try simp [Act.put]
        refine wpAnyH_take (i := 8) (v := .int .i64 (e : Int)) rfl (by kernel_rfl) (by kernel_rfl) (by kernel_rfl) (fun _ _ _ h => h) (Or.inl ⟨by rfl, ?_⟩) hSw ?_
        · intro wz hsz
          obtain ⟨z0, z1, z2, z3, z4, z5, z6⟩ := hsz
          go_simp
        try simp [Act.put]
        refine wpAnyH_take (i := 9) (v := .int .i64 (k : Int)) rfl (by kernel_rfl) (by kernel_rfl) (by kernel_rfl) (fun _ _ _ h => h) (Or.inl ⟨by rfl, ?_⟩) hSw ?_
        · intro wz hsz
          obtain ⟨z0, z1, z2, z3, z4, z5, z6⟩ := hsz
          go_simp
        try simp [Act.put]
        refine wpAnyH_take (i := 10) (v := .int .i64 ((k : Int) + 1)) rfl (by kernel_rfl) (by kernel_rfl) (by kernel_rfl) (fun _ _ _ h => h) (Or.inl ⟨by rfl, ?_⟩) hSw ?_
        · intro wz hsz
          obtain ⟨z0, z1, z2, z3, z4, z5, z6⟩ := hsz
          go_simp
          try exact IntWalk.i64_in _ ⟨by omega, by omega⟩
        try simp [Act.put]
        refine wpAnyH_take (i := 11) (v := .int .i64 mx) rfl (by kernel_rfl) (by kernel_rfl) (by kernel_rfl) (fun _ _ _ h => h) (Or.inl ⟨by rfl, ?_⟩) hSw ?_
        · intro wz hsz
          obtain ⟨z0, z1, z2, z3, z4, z5, z6⟩ := hsz
          go_simp
        try simp [Act.put]
        refine wpAnyH_ready (rs := [12]) (by kernel_rfl) (by simp) ?_
        refine AllReadyH.cons rfl (fun K hK => ?_) AllReadyH.nil
        go_simp
        go_wp2_with (first | (go_at_call 66; refine (kN _ hw0.drew).mono ?_; rintro r w6 ⟨rfl, hb6⟩) | (fail))
        have hbb := stepA hw0.drew hb6
        refine hK.out _ _ (⟨(bO.on hbb).c0, (bO.on hbb).c1, (bO.on hbb).c2, (bO.on hbb).c3, (bO.on hbb).c4, (bO.on hbb).c5, (hbb.cell (p := ⟨g, k, none⟩) hgl).trans hpc⟩) (fun hSn => ?_)
        clear hK K hSw
        have hSw := hSn
        clear hSn
        try simp [Act.put]
        refine wpAnyH_ready (rs := [13]) (by kernel_rfl) (by simp) ?_
        refine AllReadyH.cons rfl (fun K hK => ?_) AllReadyH.nil
        go_simp
        have hbc : Below wr.heap.size wr (w6.alloc (.cells #[.int .i64 x] 3)) := hbb.alloc hbb.size _
        refine hK.out _ _ (⟨(bO.on hbc).c0, (bO.on hbc).c1, (bO.on hbc).c2, (bO.on hbc).c3, (bO.on hbc).c4, (bO.on hbc).c5, (hbc.cell (p := ⟨g, k, none⟩) hgl).trans hpc⟩) (fun hSn => ?_)
        clear hK K hSw
        have hSw := hSn
        clear hSn
        try simp [Act.put]
        obtain ⟨v', w7, hrun7, hown7, hgr7, -⟩ := run_append_own (P := Tryd.prog) (w6.alloc (.cells #[.int .i64 x] 3)) bs 23 23 3 i0 (.int .i64 0) 1 8 Tryd.underlying23 hi hz0 hz1 hz2 rfl (by decide) (.slice (some ⟨g, 0, none⟩) (k + 1) cap) (k + 1) (vL P (k + 1)) (World.ownsRow.alloc (HOW.out.below hbb) _) ⟨w6.heap.size, 0, none⟩ 1 1 [.int .i64 x] rfl (cell_one_new _ _ _) (fun u hu => by simp at hu; subst hu; rfl) (by unfold maxLen; omega) (by omega) (by simp; have := hbb.size; omega)
        have hb7 : Below bs w6 w7 := ((Below.refl _ _).alloc (by have := hbb.size; omega) _).grown hgr7 (by simp; have := hbb.size; omega) (fun q hq => (World.ownsRow.lt HOW.out q hq).1)
        have hk7 : w7.cell? ⟨g, k, none⟩ = some (.int .i64 (p : Int)) := by
          have h8 := append_kept (P := Tryd.prog) (w6.alloc (.cells #[.int .i64 x] 3)) bs 23 23 3 i0 (.int .i64 0) 8 Tryd.underlying23 hi hz0 hz1 hz2 g (k + 1) cap (vL P (k + 1)) (World.ownsRow.alloc (HOW.out.below hbb) _) ⟨w6.heap.size, 0, none⟩ 1 (.int .i64 x) (cell_one_new _ _ _) (fun u hu => by simp at hu; subst hu; rfl) (by unfold maxLen; omega) (by omega) hrun7 hown7 k (.int .i64 (p : Int)) (by unfold vL; simp [HPK.out])
          simpa [Addr.add_lit] using h8
        have hbd : Below w.heap.size w w7 := Below.trans (stepA hBw hbb) (hb7.mono (by omega))
        refine wpAnyH_ready (rs := [14]) (by kernel_rfl) (by simp) ?_
        refine AllReadyH.cons rfl (fun K hK => ?_) AllReadyH.nil
        refine held_append (by kernel_rfl) (.tmp 28) (.tmp 41) 23 rfl rfl rfl hrun7 ?_
        have bO7 : Bx w7 w.heap.size (olL W H a n c Mb t Db Ln) := Bx.below (bO.on hbb) hb7 (by omega)
        refine hK.out _ _ (⟨bO7.c0, bO7.c1, bO7.c2, bO7.c3, bO7.c4, bO7.c5, hk7⟩) (fun hSn => ?_)
        clear hK K hSw
        have hSw := hSn
        clear hSn
        try simp [Act.put]
        have HO7 : Hid (Own w7 bs v' (k + 1 + 1) (put P (k + 1) x)) := own_put hown7
        have HB7 : Hid (Below bs w2 w7) := Below.trans (hB.trans (hbb.mono hsz)) hb7
        clear hown7 hgr7 hrun7 hk7 hb7 hbc hbb hbd bO7
        refine wpAnyH_ready (rs := [15]) (by kernel_rfl) (by simp) ?_
        refine AllReadyH.cons rfl (fun K hK => ?_) AllReadyH.nil
        go_simp
        refine hK.out _ _ hSw (fun hSn => ?_)
        clear hK K hSw hSn
        try simp [Act.put]
        refine wpAnyH_done (by kernel_rfl) ?_ _
        go_wp2
        refine ⟨⟨k + 1, _, by omega, rfl, HO7.out, HP2, HB7.out⟩, ?_⟩
        simp [intOf]
        omega
      · have hke : k = T := by omega
        subst hke
        have HR : Hid (AnsLp W n f R J (S : Int) t k w wr (.returned (.tuple #[.slice (some ⟨g, 0, none⟩) (k + 1) cap, .bool true]))) := .inl ⟨P, g, cap, HEN.out P HPt.out, rfl, by omega, hcap, hIP, fun i hi => (HPt.out : Pth W n f R J (S : Int) t k D e P k).rng i hi⟩
        clear hown hIP HPt
        go_wp2
        go_ret2
        exact ⟨HR.out, hBw⟩
end Go.Proofs.YtbndhhjgjalecaaDoor
