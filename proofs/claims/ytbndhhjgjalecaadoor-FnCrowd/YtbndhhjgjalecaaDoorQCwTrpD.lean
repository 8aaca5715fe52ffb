/- What FnCrowd draws: trips. -/
import Derived.Test.YtbndhhjgjalecaaDoorQCwOw2
import Derived.Test.YtbndhhjgjalecaaDoorQPlTn
import Derived.Deep.CutRange
import Derived.Deep.RegionHeld
namespace Go.Proofs.YtbndhhjgjalecaaDoor
open Go.RowKit

/-- what stands while trips are drawn -/
structure Td (w w1 wx : World) (C : Nat) (a : Option Addr) (len cap n' : Nat) (la : Option Addr) (l : List Int) (v : Value) (k : Nat) (G : Nat → Int) : Prop where
  cur : Cur wx C a len cap n'
  own : Own2 wx w1.heap.size v k G
  pl : LQ wx (C + 1) w1.heap.size la l.length (gl l)
  t : Turns C (C + 1) w wx
  sz : w1.heap.size ≤ wx.heap.size
theorem Td.step {w w1 wx wy : World} {C : Nat} {a : Option Addr} {len cap n' n2 : Nat} {la : Option Addr} {l : List Int} {v : Value} {k : Nat} {G : Nat → Int} (h : Td w w1 wx C a len cap n' la l v k G) (hc : Cur wy C a len cap n2) (o : Only C wx wy) (hC : C < w1.heap.size) : Td w w1 wy C a len cap n2 la l v k G :=
  ⟨hc, h.own.turns (on_turns o) (by omega), h.pl.turns (on_turns o) (.inr (by omega)), h.t.trans (on_turns o), by rw [o.size]; exact h.sz⟩
theorem Td.al {w w1 wx wy : World} {C : Nat} {a : Option Addr} {len cap n' : Nat} {la : Option Addr} {l : List Int} {v : Value} {k : Nat} {G : Nat → Int} (h : Td w w1 wx C a len cap n' la l v k G) (b : Below wx.heap.size wx wy) : Td w w1 wy C a len cap n' la l v k G :=
  ⟨h.cur.below b h.cur.lt, h.own.on b, h.pl.on b, h.t.trans (turns_of b), Nat.le_trans h.sz b.size⟩
theorem Td.tn {w w1 wx wy : World} {C : Nat} {a : Option Addr} {len cap n' n2 : Nat} {la : Option Addr} {l : List Int} {v : Value} {k : Nat} {G : Nat → Int} (h : Td w w1 wx C a len cap n' la l v k G) (b : Turns C (C + 1) wx wy) (hc : Cur wy C a len cap n2) (hC : C < w1.heap.size) : Td w w1 wy C a len cap n2 la l v k G :=
  ⟨hc, h.own.turns b (by omega), h.pl.turns b (.inr (by omega)), h.t.trans b, Nat.le_trans h.sz b.size⟩
theorem Td.app {w w1 wx w3 : World} {C : Nat} {a : Option Addr} {len cap n' : Nat} {la : Option Addr} {l : List Int} {v v' : Value} {k : Nat} {G : Nat → Int} {o : Obj} {x y : Int} (h : Td w w1 wx C a len cap n' la l v k G) (ho : w3.ownsRow w1.heap.size 34 2 v' (k + 1) (vL G (k * 2) ++ [.int .i64 x, .int .i64 y])) (hg : (wx.alloc o).grownBy w3 v.ownBlock) (hC : C < w1.heap.size ∧ w.heap.size ≤ w1.heap.size) : Td w w1 w3 C a len cap n' la l v' (k + 1) (put (put G (k * 2) x) (k * 2 + 1) y) := by
  have hb : Below w1.heap.size wx w3 := ((Below.refl _ _).alloc h.sz o).grown hg (by simp; have := h.sz; omega) (fun q hq => (World.ownsRow.lt h.own q hq).1)
  exact ⟨h.cur.below hb hC.1, own2_put ho, h.pl.below hb (Nat.le_refl _), turns_below h.t hb hC.2, Nat.le_trans h.sz hb.size⟩
theorem cell_two_trp (w : World) (x y : Value) (t : TypeId) : ∀ j u, [x, y][j]? = some u → (w.alloc (.cells #[x, y] t)).cell? ((⟨w.heap.size, 0, none⟩ : Addr).add j) = some u := by
  intro j u h
  have b := bx_new (w := w) [x, y] t rfl
  match j, h with
  | 0, h =>
    have e : x = u := by simpa using h
    subst e
    exact b.c0
  | 1, h =>
    have e : y = u := by simpa using h
    subst e
    exact b.c1
  | j + 2, h => simp at h
theorem Td.dr {w w1 wx : World} {C : Nat} {a : Option Addr} {len cap n' : Nat} {la : Option Addr} {l : List Int} {v : Value} {k : Nat} {G : Nat → Int} (h : Td w w1 wx C a len cap n' la l v k G) : Td w w1 wx.drew C a len cap n' la l v k G := h.al ((Below.refl _ _).drew)
theorem ip_on1 {C g n : Nat} {w w' : World} {F : Nat → Int} (h : IP w g n F) (o : Only C w w') (hg : C < g) : IP w' g n F := h.only o (by omega)
/-- the answer: some trips -/
def AnsTp (w w' : World) (e : Ending) (C : Nat) (a : Option Addr) (len cap n : Nat) : Prop := ∃ (b : Option Addr) (m d : Nat) (G : Nat → Int) (n' : Nat), e = .returned (.slice b m d) ∧ (m ≤ 20 ∧ m ≤ d) ∧ LQ w' w.heap.size w'.heap.size b (m * 2) G ∧ n' ≤ n + 200 ∧ Cur w' C a len cap n' ∧ Turns C (C + 1) w w'
set_option maxRecDepth 20000 in
set_option maxHeartbeats 8000000 in
theorem trips_any (C : Nat) (a : Option Addr) (len cap n : Nat) (W : Int) (q : Option Addr) (N c : Nat) (f : Nat → Int) (w : World) (h : Cur w C a len cap n) (hn : n ≤ 700000) (hN : N ≤ 300) (hf : IL w q N f) :
    Calls Tryd.prog 34 #[.pointer (some ⟨C, 0, none⟩), cel W q N c] w fun e w' => AnsTp w w' e C a len cap n := by
  have hC := h.lt
  have hb0 : Below w.heap.size w (w.alloc (celO W q N c 25)) := (Below.refl _ _).alloc (Nat.le_refl _) _
  have b0 := bx_new (w := w) (celL W q N c) 25 rfl
  have x0 := b0.c0
  have x1 := b0.c1
  have hlN := apl_len W N f
  go_enter Tryd.func34, Tryd.ntmps34
  go_wp2_with fail
  refine (specAll W q N c f _ (by omega) (hf.below hb0)).mono ?_
  rintro e w1 ⟨⟨la, lc, rfl, hL1⟩, hb1⟩
  have hB1 := stepA hb0 hb1
  have hsz1 := hb1.size
  simp only [size_al] at hL1 hsz1
  have hc1 := h.below hB1 hC
  have hT1 : Turns C (C + 1) w w1 := turns_of hB1
  have HTd : Hid (Td w w1 w1 C a len cap n la (apl W N f) (.slice none 0 0) 0 (fun _ => 0)) := ⟨hc1, own2_nil _ _ _, hL1.wide (by omega) (Nat.le_refl _), hT1, Nat.le_refl _⟩
  generalize apl W N f = l at *
  clear x0 x1 b0 hb0 hb1 hB1 hL1 hT1 h hf
  go_wp2_with fail
  refine (pick_any C a len cap n 3 _ hc1 (by omega)).mono ?_
  rintro e w2 ⟨x, n2, rfl, hx0, hx1, -, hn2, hc2, hO2⟩
  have hx1 := hx1 (by omega)
  have HT2 : Hid (Td w w1 w2 C a len cap n2 la l (.slice none 0 0) 0 (fun _ => 0)) := HTd.out.step hc2 hO2 (by omega)
  clear HTd hO2 hc1
  go_wp2_with fail
  refine (one_any C a len cap n2 12 _ hc2 (by omega)).mono ?_
  rintro e w3 ⟨u, n3, rfl, hn3, hc3, hO3⟩
  have HT3 : Hid (Td w w1 w3 C a len cap n3 la l (.slice none 0 0) 0 (fun _ => 0)) := HT2.out.step hc3 hO3 (by omega)
  clear HT2 hO3 hc2
  go_upto_if 18 with fail
  go_cut [7] from 19 to 20 (fun i wx => ∃ (y : Nat) (n4 : Nat), i = .int .i64 (y : Int) ∧ y ≤ 7 ∧ n4 ≤ n + 8 ∧ Hid (Td w w1 wx C a len cap n4 la l (.slice none 0 0) 0 (fun _ => 0)))
  case first =>
    cases u with
    | false =>
      go_wp2_with fail
      go_meet
      case rel => exact ⟨(1 + x).toNat, n3, by rw [Int.toNat_of_nonneg (by omega)], by omega, by omega, HT3⟩
    | true =>
      go_wp2_with fail
      refine (pick_any C a len cap n3 7 _ hc3 (by omega)).mono ?_
      rintro e w4 ⟨y, n4, rfl, hy0, hy1, -, hn4, hc4, hO4⟩
      have hy1 := hy1 (by omega)
      have HT4 : Hid (Td w w1 w4 C a len cap n4 la l (.slice none 0 0) 0 (fun _ => 0)) := HT3.out.step hc4 hO4 (by omega)
      clear HT3 hO4
      go_wp2_with fail
      go_meet
      case rel => exact ⟨y.toNat, n4, by rw [Int.toNat_of_nonneg (by omega)], by omega, by omega, HT4⟩
  case rest =>
    obtain ⟨y, n4, rfl, hy, hn4, HT4⟩ := hcut
    clear HT3 hc3
    go_wp2_with fail
    go_loopw [6, 7] (fun v i wx => ∃ (z k n' : Nat) (G : Nat → Int), i = .int .i64 (z : Int) ∧ z + k ≤ 7 ∧ n' + 6 * z ≤ n + 50 ∧ Hid (Td w w1 wx C a len cap n' la l v k G)) (fun _ i _ => (intOf i).toNat)
    case atStart => exact ⟨y, 0, n4, _, rfl, by omega, by omega, HT4⟩
    case round =>
      obtain ⟨z, k, n5, G, rfl, hzk, hn5, HT5⟩ := hrel
      clear HT4
      obtain ⟨sa, sc, rfl⟩ := HT5.out.own.shape
      by_cases hgo : 0 < z ∧ 0 < l.length
      case neg =>
        have hd := HT5.out
        have hAns : AnsTp w wr (.returned (.slice sa k sc)) C a len cap n := ⟨sa, k, sc, G, n5, rfl, ⟨by omega, own2_cap hd.own⟩, hd.own.lq.wide (by omega) (Nat.le_refl _), by omega, hd.cur, hd.t⟩
        have HA : Hid (AnsTp w wr (.returned (.slice sa k sc)) C a len cap n) := hAns
        clear hAns hd HT5
        by_cases hz : z = 0
        · subst hz
          go_wp2
          go_ret
          exact HA.out
        · have hz' : (0 : Int) < (z : Int) := by omega
          have hl0 : ¬ (0 : Int) < (l.length : Int) := by omega
          go_wp2
          go_ret
          exact HA.out
      case pos =>
        obtain ⟨hz, hl⟩ := hgo
        obtain ⟨Z, rfl⟩ : ∃ Z, z = Z + 1 := ⟨z - 1, by omega⟩
        have hz' : (0 : Int) < (Z : Int) + 1 := by omega
        have hl' : (0 : Int) < (l.length : Int) := by omega
        rw [show ((Z + 1 : Nat) : Int) = (Z : Int) + 1 by omega]
        obtain ⟨g, rfl, hg1, hg2, hgP⟩ := HT5.out.pl hl
        go_upto_region 8 with fail
        generalize gl l = gf at hgP
        have hPz : IP wr.drew g l.length gf := hgP.below ((Below.refl wr.heap.size wr).drew) hgP.lt
        have t5 := HT5.out.dr
        refine wp_region_held (S := fun w' => IP w' g l.length gf) (by kernel_rfl) ?_
        change wpAnyH _ _ _ _ _ _ _ _ (World.drew _)
        have hSw := hPz
        refine wpAnyH_take (i := 0) (v := .slice (some ⟨g, 0, none⟩) l.length lc) rfl (by kernel_rfl) (by kernel_rfl) (by kernel_rfl) (fun _ _ _ h => h) (Or.inl ⟨by rfl, ?_⟩) hSw ?_
        · intro wz hsz
          obtain ⟨hl9, hc9, -⟩ := hsz
          go_simp
        try simp [Act.put]
        refine wpAnyH_take (i := 1) (v := .pointer (some ⟨C, 0, none⟩)) rfl (by kernel_rfl) (by kernel_rfl) (by kernel_rfl) (fun _ _ _ h => h) (Or.inl ⟨by rfl, ?_⟩) hSw ?_
        · intro wz hsz
          obtain ⟨hl9, hc9, -⟩ := hsz
          go_simp
        try simp [Act.put]
        refine wpAnyH_take (i := 2) (v := .slice (some ⟨g, 0, none⟩) l.length lc) rfl (by kernel_rfl) (by kernel_rfl) (by kernel_rfl) (fun _ _ _ h => h) (Or.inl ⟨by rfl, ?_⟩) hSw ?_
        · intro wz hsz
          obtain ⟨hl9, hc9, -⟩ := hsz
          go_simp
        try simp [Act.put]
        refine wpAnyH_take (i := 3) (v := .int .i64 (l.length : Int)) rfl (by kernel_rfl) (by kernel_rfl) (by kernel_rfl) (fun _ _ _ h => h) (Or.inl ⟨by rfl, ?_⟩) hSw ?_
        · intro wz hsz
          obtain ⟨hl9, hc9, -⟩ := hsz
          go_simp
        try simp [Act.put]
        refine wpAnyH_take (i := 7) (v := .slice (some ⟨g, 0, none⟩) l.length lc) rfl (by kernel_rfl) (by kernel_rfl) (by kernel_rfl) (fun _ _ _ h => h) (Or.inl ⟨by rfl, ?_⟩) hSw ?_
        · intro wz hsz
          obtain ⟨hl9, hc9, -⟩ := hsz
          go_simp
        try simp [Act.put]
        refine wpAnyH_take (i := 8) (v := .pointer (some ⟨C, 0, none⟩)) rfl (by kernel_rfl) (by kernel_rfl) (by kernel_rfl) (fun _ _ _ h => h) (Or.inl ⟨by rfl, ?_⟩) hSw ?_
        · intro wz hsz
          obtain ⟨hl9, hc9, -⟩ := hsz
          go_simp
        try simp [Act.put]
        refine wpAnyH_take (i := 9) (v := .slice (some ⟨g, 0, none⟩) l.length lc) rfl (by kernel_rfl) (by kernel_rfl) (by kernel_rfl) (fun _ _ _ h => h) (Or.inl ⟨by rfl, ?_⟩) hSw ?_
        · intro wz hsz
          obtain ⟨hl9, hc9, -⟩ := hsz
          go_simp
        try simp [Act.put]
        refine wpAnyH_take (i := 10) (v := .int .i64 (l.length : Int)) rfl (by kernel_rfl) (by kernel_rfl) (by kernel_rfl) (fun _ _ _ h => h) (Or.inl ⟨by rfl, ?_⟩) hSw ?_
        · intro wz hsz
          obtain ⟨hl9, hc9, -⟩ := hsz
          go_simp
        try simp [Act.put]
        refine wpAnyH_ready (rs := [4, 15]) (by kernel_rfl) (by simp) ?_
        refine AllReadyH.cons rfl (fun K hK => ?_) (AllReadyH.cons rfl (fun K hK => ?_) AllReadyH.nil)
        · go_simp
          have sx := t5.sz
          go_at_call 31
          refine (pick_any C a len cap n5 (l.length : Int) _ t5.cur (by omega)).mono ?_
          rintro e9 w6 ⟨p6, n6, rfl, h60, h61, -, hn6, hc6, hO6⟩
          have t6 := t5.step hc6 hO6 (by omega)
          have h61 := h61 (by omega)
          have hP6 : IP w6 g l.length gf := ip_on1 (hPz) hO6 (by omega)
          refine hK.out _ _ (hP6) (fun hSn => ?_)
          clear hK K hSw
          have hSw := hSn
          clear hSn
          try simp [Act.put]
          refine wpAnyH_take (i := 5) (v := .pointer (some ⟨g, p6.toNat, none⟩)) rfl (by kernel_rfl) (by kernel_rfl) (by kernel_rfl) (fun _ _ _ h => h) (Or.inl ⟨by rfl, ?_⟩) hSw ?_
          · intro wz hsz
            obtain ⟨hl9, hc9, -⟩ := hsz
            have j0 : ¬ p6 < 0 := (by omega); have j1 : ¬ (l.length : Int) ≤ p6 := (by omega)
            go_simp
          try simp [Act.put]
          refine wpAnyH_take (i := 6) (v := .int .i64 (gf p6.toNat)) rfl (by kernel_rfl) (by kernel_rfl) (by kernel_rfl) (fun _ _ _ h => h) (Or.inl ⟨by rfl, ?_⟩) hSw ?_
          · intro wz hsz
            obtain ⟨hl9, hc9, -⟩ := hsz
            have i6 := hc9 p6.toNat (by omega)
            go_simp
          try simp [Act.put]
          have hPy := hP6
          refine wpAnyH_ready (rs := [11, 15]) (by kernel_rfl) (by simp) ?_
          refine AllReadyH.cons rfl (fun K hK => ?_) (AllReadyH.cons rfl (fun K hK => ?_) AllReadyH.nil)
          · go_simp
            have sx := t6.sz
            go_at_call 31
            refine (pick_any C a len cap n6 (l.length : Int) _ t6.cur (by omega)).mono ?_
            rintro e9 w7 ⟨p7, n7, rfl, h70, h71, -, hn7, hc7, hO7⟩
            have t7 := t6.step hc7 hO7 (by omega)
            have h71 := h71 (by omega)
            have hP7 : IP w7 g l.length gf := ip_on1 (hPy) hO7 (by omega)
            refine hK.out _ _ (hP7) (fun hSn => ?_)
            clear hK K hSw
            have hSw := hSn
            clear hSn
            try simp [Act.put]
            refine wpAnyH_take (i := 12) (v := .pointer (some ⟨g, p7.toNat, none⟩)) rfl (by kernel_rfl) (by kernel_rfl) (by kernel_rfl) (fun _ _ _ h => h) (Or.inl ⟨by rfl, ?_⟩) hSw ?_
            · intro wz hsz
              obtain ⟨hl9, hc9, -⟩ := hsz
              have j0 : ¬ p7 < 0 := (by omega); have j1 : ¬ (l.length : Int) ≤ p7 := (by omega)
              go_simp
            try simp [Act.put]
            refine wpAnyH_take (i := 13) (v := .int .i64 (gf p7.toNat)) rfl (by kernel_rfl) (by kernel_rfl) (by kernel_rfl) (fun _ _ _ h => h) (Or.inl ⟨by rfl, ?_⟩) hSw ?_
            · intro wz hsz
              obtain ⟨hl9, hc9, -⟩ := hsz
              have i7 := hc9 p7.toNat (by omega)
              go_simp
            try simp [Act.put]
            refine wpAnyH_take (i := 14) (v := .agg #[.int .i64 (gf p6.toNat), .int .i64 (gf p7.toNat)]) rfl (by kernel_rfl) (by kernel_rfl) (by kernel_rfl) (fun _ _ _ h => h) (Or.inl ⟨by rfl, ?_⟩) hSw ?_
            · intro wz hsz
              obtain ⟨hl9, hc9, -⟩ := hsz
              go_simp
            try simp [Act.put]
            refine wpAnyH_ready (rs := [15]) (by kernel_rfl) (by simp) ?_
            refine AllReadyH.cons rfl (fun K hK => ?_) AllReadyH.nil
            go_simp
            have sa9 := t7.sz
            have sa8 : w1.heap.size ≤ wr.heap.size := t5.sz
            have hba : Below w7.heap.size w7 (w7.alloc (.cells #[.int .i64 0, .int .i64 0] 34)) := (Below.refl _ _).alloc (Nat.le_refl _) _
            have bb : Bx (w7.alloc (.cells #[.int .i64 0, .int .i64 0] 34)) w7.heap.size [.int .i64 0, .int .i64 0] := bx_new (w := w7) [.int .i64 0, .int .i64 0] 34 rfl
            have ta := t7.al hba
            have hPa := hP7.below hba hP7.lt
            refine hK.out _ _ (hPa) (fun hSn => ?_)
            clear hK K hSw
            have hSw := hSn
            clear hSn
            try simp [Act.put]
            refine wpAnyH_ready (rs := [16]) (by kernel_rfl) (by simp) ?_
            refine AllReadyH.cons rfl (fun K hK => ?_) AllReadyH.nil
            go_simp
            have y0 := bb.c0
            have y1 := bb.c1
            have f0 := bb.fz 0
            have f1 := bb.fz 1
            have l7 := bb.lt
            try go_simp
            refine hK.out _ _ (hP7.below ((Below.refl _ _).alloc (Nat.le_refl _) _) hP7.lt) (fun hSn => ?_)
            clear hK K hSw
            have hSw := hSn
            clear hSn
            try simp [Act.put]
            refine wpAnyH_done (by kernel_rfl) ?_ _
            have t8 := t7.al ((Below.refl w7.heap.size w7).alloc (Nat.le_refl _) (.cells #[.int .i64 (gf p6.toNat), .int .i64 (gf p7.toNat)] 34))
            have b8 := bx_new (w := w7) [.int .i64 (gf p6.toNat), .int .i64 (gf p7.toNat)] 34 rfl
            generalize w7.alloc (.cells #[.int .i64 (gf p6.toNat), .int .i64 (gf p7.toNat)] 34) = w8 at *
            have hTB : w1.heap.size ≤ w7.heap.size := t7.sz
            generalize w7.heap.size = TB at *
            have HT8 : Hid (Td w w1 w8 C a len cap n7 (some ⟨g, 0, none⟩) l (.slice sa k sc) k G) := t8
            generalize gf p6.toNat = X at *
            generalize gf p7.toNat = Y at *
            have hn7' : n7 ≤ n5 + 4 := by omega
            have HB8 : Hid (Bx w8 TB [.int .i64 X, .int .i64 Y]) := b8
            clear hSw t8 hn6 hn7 b8
            go_wp2_with fail
            go_loopw [9, 47] (fun u i wx => ∃ (b : Bool) (j : Nat), u = .bool b ∧ i = .int .i64 (j : Int) ∧ j ≤ k ∧ Below w8.heap.size w8 wx) (fun _ i _ => k - (intOf i).toNat)
            case atStart => exact ⟨false, 0, rfl, rfl, Nat.zero_le _, Below.refl _ _⟩
            case round =>
              obtain ⟨b, j, rfl, rfl, hj, hB9⟩ := hrel
              have b9 := HB8.out.on hB9
              by_cases hjk : j < k
              case pos =>
                obtain ⟨og, oc, e0, ho1, hoP⟩ := HT8.out.own.some (by omega)
                cases e0
                obtain ⟨y0, y1⟩ := ip_two (hoP.below hB9 hoP.lt) hjk
                have hbt : Below wr.heap.size wr (wr.alloc (.cells #[.int .i64 (G (j * 2)), .int .i64 (G (j * 2 + 1))] 34)) := (Below.refl _ _).alloc (Nat.le_refl _) _
                have b10 := bx_new (w := wr) [.int .i64 (G (j * 2)), .int .i64 (G (j * 2 + 1))] 34 rfl
                have b11 := b9.on hbt
                have z0 := b10.c0
                have z1 := b10.c1
                have z2 := b11.c0
                have z3 := b11.c1
                have i0 : (0 : Int) ≤ (j : Int) := by omega
                have i1 : (j : Int) < (k : Int) := by omega
                have hB10 := stepA hB9 hbt
                clear hoP b9 b10 b11 hbt
                generalize G (j * 2) = X2 at *
                generalize G (j * 2 + 1) = Y2 at *
                cases b with
                | true =>
                  go_wp2_with fail
                  go_roundw
                  case rel => exact ⟨true, j + 1, rfl, by go_num, by omega, hB10⟩
                  case measure => simp [intOf]; omega
                | false =>
                  cases r1 : (X2 == X) with
                  | true =>
                    go_wp2_with fail
                    go_roundw
                    case rel => exact ⟨true, j + 1, rfl, by go_num, by omega, hB10⟩
                    case measure => simp [intOf]; omega
                  | false =>
                    go_wp2_with fail
                    go_roundw
                    case rel => exact ⟨_, j + 1, rfl, by go_num, by omega, hB10⟩
                    case measure => simp [intOf]; omega
              case neg =>
                have hje : j = k := by omega
                subst hje
                have HT9 : Hid (Td w w1 wr C a len cap n7 (some ⟨g, 0, none⟩) l (.slice sa j sc) j G) := HT8.out.al hB9
                obtain ⟨i0', hi, hzz⟩ := Option.map_eq_some_iff.1 infoTp
                simp only [Prod.mk.injEq] at hzz
                obtain ⟨hz0, hz1, hz2⟩ := hzz
                clear HT8 HB8
                cases b with
                | false =>
                  have z2 := b9.c0
                  have z3 := b9.c1
                  have hbs : w1.heap.size ≤ wr.heap.size := HT9.out.sz
                  go_wp2_with (at_builtin; refine wpList_append_own _ rfl _ _ 26 rfl w1.heap.size 34 i0' (.agg #[.int .i64 0, .int .i64 0]) 2 16 Tryd.underlying26 hi hz0 hz1 hz2 rfl (by decide) _ _ _ rfl (World.ownsRow.alloc (HT9.out.own) _) ⟨wr.heap.size, 0, none⟩ 1 1 [.int .i64 X, .int .i64 Y] rfl rfl (cell_two_trp _ _ _ _) (fun x hx => by simp at hx; rcases hx with rfl | rfl <;> rfl) (by unfold maxLen; omega) (by omega) (by simp; omega) ?_; intro v' w12 hown' hgrow3 _)
                  have hG6 := HT9.out.app hown' hgrow3 (by omega)
                  obtain ⟨ta, tc, rfl⟩ := hG6.own.shape
                  have HT10 : Hid (Td w w1 w12 C a len cap n7 (some ⟨g, 0, none⟩) l (.slice ta (j + 1) tc) (j + 1) (put (put G (j * 2) X) (j * 2 + 1) Y)) := hG6
                  clear hG6 hown' hgrow3 hi hz0 hz1 hz2
                  try go_wp2_with fail
                  go_roundw
                  case rel => exact ⟨Z, j + 1, n7, _, by go_num, by omega, by omega, HT10⟩
                  case measure => simp [intOf]
                | true =>
                  go_wp2_with fail
                  refine (one_any C a len cap n7 24 _ HT9.out.cur (by omega)).mono ?_
                  rintro e9 w11 ⟨ub, n11, rfl, hn11, hc11, hO11⟩
                  have HT11 : Hid (Td w w1 w11 C a len cap n11 (some ⟨g, 0, none⟩) l (.slice sa j sc) j G) := HT9.out.step hc11 hO11 (by omega)
                  have b12 := b9.turns (on_turns hO11) (.inr (by omega))
                  clear HT9 b9 hO11 hc11
                  cases ub with
                  | false =>
                    go_wp2_with fail
                    go_roundw
                    case rel => exact ⟨Z, j, n11, G, by go_num, by omega, by omega, HT11⟩
                    case measure => simp [intOf]
                  | true =>
                    have z2 := b12.c0
                    have z3 := b12.c1
                    have hbs : w1.heap.size ≤ w11.heap.size := HT11.out.sz
                    go_wp2_with (at_builtin; refine wpList_append_own _ rfl _ _ 26 rfl w1.heap.size 34 i0' (.agg #[.int .i64 0, .int .i64 0]) 2 16 Tryd.underlying26 hi hz0 hz1 hz2 rfl (by decide) _ _ _ rfl (World.ownsRow.alloc (HT11.out.own) _) ⟨w11.heap.size, 0, none⟩ 1 1 [.int .i64 X, .int .i64 Y] rfl rfl (cell_two_trp _ _ _ _) (fun x hx => by simp at hx; rcases hx with rfl | rfl <;> rfl) (by unfold maxLen; omega) (by omega) (by simp; omega) ?_; intro v' w12 hown' hgrow3 _)
                    have hG6 := HT11.out.app hown' hgrow3 (by omega)
                    obtain ⟨ta, tc, rfl⟩ := hG6.own.shape
                    have HT12 : Hid (Td w w1 w12 C a len cap n11 (some ⟨g, 0, none⟩) l (.slice ta (j + 1) tc) (j + 1) (put (put G (j * 2) X) (j * 2 + 1) Y)) := hG6
                    clear hG6 hown' hgrow3 hi hz0 hz1 hz2
                    try go_wp2_with fail
                    go_roundw
                    case rel => exact ⟨Z, j + 1, n11, _, by go_num, by omega, by omega, HT12⟩
                    case measure => simp [intOf]
          · go_simp
            have sa9 := t6.sz
            have sa8 : w1.heap.size ≤ wr.heap.size := t5.sz
            have hba : Below w6.heap.size w6 (w6.alloc (.cells #[.int .i64 0, .int .i64 0] 34)) := (Below.refl _ _).alloc (Nat.le_refl _) _
            have bb : Bx (w6.alloc (.cells #[.int .i64 0, .int .i64 0] 34)) w6.heap.size [.int .i64 0, .int .i64 0] := bx_new (w := w6) [.int .i64 0, .int .i64 0] 34 rfl
            have ta := t6.al hba
            have hPa := hP6.below hba hP6.lt
            refine hK.out _ _ (hPa) (fun hSn => ?_)
            clear hK K hSw
            have hSw := hSn
            clear hSn
            try simp [Act.put]
            have hPy := hPa
            refine wpAnyH_ready (rs := [11]) (by kernel_rfl) (by simp) ?_
            refine AllReadyH.cons rfl (fun K hK => ?_) AllReadyH.nil
            go_simp
            have sx := ta.sz
            go_at_call 31
            refine (pick_any C a len cap n6 (l.length : Int) _ ta.cur (by omega)).mono ?_
            rintro e9 w7 ⟨p7, n7, rfl, h70, h71, -, hn7, hc7, hO7⟩
            have t7 := ta.step hc7 hO7 (by omega)
            have h71 := h71 (by omega)
            have hP7 : IP w7 g l.length gf := ip_on1 (hPy) hO7 (by omega)
            have bbb := bb.turns (on_turns hO7) (.inr (by omega))
            refine hK.out _ _ (hP7) (fun hSn => ?_)
            clear hK K hSw
            have hSw := hSn
            clear hSn
            try simp [Act.put]
            refine wpAnyH_take (i := 12) (v := .pointer (some ⟨g, p7.toNat, none⟩)) rfl (by kernel_rfl) (by kernel_rfl) (by kernel_rfl) (fun _ _ _ h => h) (Or.inl ⟨by rfl, ?_⟩) hSw ?_
            · intro wz hsz
              obtain ⟨hl9, hc9, -⟩ := hsz
              have j0 : ¬ p7 < 0 := (by omega); have j1 : ¬ (l.length : Int) ≤ p7 := (by omega)
              go_simp
            try simp [Act.put]
            refine wpAnyH_take (i := 13) (v := .int .i64 (gf p7.toNat)) rfl (by kernel_rfl) (by kernel_rfl) (by kernel_rfl) (fun _ _ _ h => h) (Or.inl ⟨by rfl, ?_⟩) hSw ?_
            · intro wz hsz
              obtain ⟨hl9, hc9, -⟩ := hsz
              have i7 := hc9 p7.toNat (by omega)
              go_simp
            try simp [Act.put]
            refine wpAnyH_take (i := 14) (v := .agg #[.int .i64 (gf p6.toNat), .int .i64 (gf p7.toNat)]) rfl (by kernel_rfl) (by kernel_rfl) (by kernel_rfl) (fun _ _ _ h => h) (Or.inl ⟨by rfl, ?_⟩) hSw ?_
            · intro wz hsz
              obtain ⟨hl9, hc9, -⟩ := hsz
              go_simp
            try simp [Act.put]
            refine wpAnyH_ready (rs := [16]) (by kernel_rfl) (by simp) ?_
            refine AllReadyH.cons rfl (fun K hK => ?_) AllReadyH.nil
            go_simp
            have y0 := bbb.c0
            have y1 := bbb.c1
            have f0 := bbb.fz 0
            have f1 := bbb.fz 1
            have l7 := bbb.lt
            try go_simp
            refine hK.out _ _ ((hP7.only ((Only.refl _ _).set 0 _) (by omega)).only ((Only.refl _ _).set 1 _) (by omega)) (fun hSn => ?_)
            clear hK K hSw
            have hSw := hSn
            clear hSn
            try simp [Act.put]
            refine wpAnyH_done (by kernel_rfl) ?_ _
            have s66 : w1.heap.size ≤ w6.heap.size := t6.sz
            have b8 := (bbb.set 0 (by simp) (.int .i64 (gf p6.toNat))).set 1 (by simp) (.int .i64 (gf p7.toNat))
            have hTT : Turns C (C + 1) w6 ((w7.setCell ⟨w6.heap.size, 0, none⟩ (.int .i64 (gf p6.toNat))).setCell ⟨w6.heap.size, 1, none⟩ (.int .i64 (gf p7.toNat))) := turns_below ((al_turns w6 _).trans (on_turns hO7)) (((Below.refl w6.heap.size w7).setCell (p := ⟨w6.heap.size, 0, none⟩) (Nat.le_refl _) _).setCell (p := ⟨w6.heap.size, 1, none⟩) (Nat.le_refl _) _) (Nat.le_refl _)
            have hc8 := hc7.below (((Below.refl (C + 1) w7).setCell (p := ⟨w6.heap.size, 0, none⟩) (by show C + 1 ≤ w6.heap.size; omega) (.int .i64 (gf p6.toNat))).setCell (p := ⟨w6.heap.size, 1, none⟩) (by show C + 1 ≤ w6.heap.size; omega) (.int .i64 (gf p7.toNat))) (Nat.lt_succ_self _)
            have t8 := t6.tn hTT hc8 (by omega)
            generalize (w7.setCell ⟨w6.heap.size, 0, none⟩ (.int .i64 (gf p6.toNat))).setCell ⟨w6.heap.size, 1, none⟩ (.int .i64 (gf p7.toNat)) = w8 at *
            have hTB : w1.heap.size ≤ w6.heap.size := t6.sz
            generalize w6.heap.size = TB at *
            have HT8 : Hid (Td w w1 w8 C a len cap n7 (some ⟨g, 0, none⟩) l (.slice sa k sc) k G) := t8
            generalize gf p6.toNat = X at *
            generalize gf p7.toNat = Y at *
            have hn7' : n7 ≤ n5 + 4 := by omega
            have HB8 : Hid (Bx w8 TB [.int .i64 X, .int .i64 Y]) := b8
            clear hSw t8 hn6 hn7 b8
            go_wp2_with fail
            go_loopw [9, 47] (fun u i wx => ∃ (b : Bool) (j : Nat), u = .bool b ∧ i = .int .i64 (j : Int) ∧ j ≤ k ∧ Below w8.heap.size w8 wx) (fun _ i _ => k - (intOf i).toNat)
            case atStart => exact ⟨false, 0, rfl, rfl, Nat.zero_le _, Below.refl _ _⟩
            case round =>
              obtain ⟨b, j, rfl, rfl, hj, hB9⟩ := hrel
              have b9 := HB8.out.on hB9
              by_cases hjk : j < k
              case pos =>
                obtain ⟨og, oc, e0, ho1, hoP⟩ := HT8.out.own.some (by omega)
                cases e0
                obtain ⟨y0, y1⟩ := ip_two (hoP.below hB9 hoP.lt) hjk
                have hbt : Below wr.heap.size wr (wr.alloc (.cells #[.int .i64 (G (j * 2)), .int .i64 (G (j * 2 + 1))] 34)) := (Below.refl _ _).alloc (Nat.le_refl _) _
                have b10 := bx_new (w := wr) [.int .i64 (G (j * 2)), .int .i64 (G (j * 2 + 1))] 34 rfl
                have b11 := b9.on hbt
                have z0 := b10.c0
                have z1 := b10.c1
                have z2 := b11.c0
                have z3 := b11.c1
                have i0 : (0 : Int) ≤ (j : Int) := by omega
                have i1 : (j : Int) < (k : Int) := by omega
                have hB10 := stepA hB9 hbt
                clear hoP b9 b10 b11 hbt
                generalize G (j * 2) = X2 at *
                generalize G (j * 2 + 1) = Y2 at *
                cases b with
                | true =>
                  go_wp2_with fail
                  go_roundw
                  case rel => exact ⟨true, j + 1, rfl, by go_num, by omega, hB10⟩
                  case measure => simp [intOf]; omega
                | false =>
                  cases r1 : (X2 == X) with
                  | true =>
                    go_wp2_with fail
                    go_roundw
                    case rel => exact ⟨true, j + 1, rfl, by go_num, by omega, hB10⟩
                    case measure => simp [intOf]; omega
                  | false =>
                    go_wp2_with fail
                    go_roundw
                    case rel => exact ⟨_, j + 1, rfl, by go_num, by omega, hB10⟩
                    case measure => simp [intOf]; omega
              case neg =>
                have hje : j = k := by omega
                subst hje
                have HT9 : Hid (Td w w1 wr C a len cap n7 (some ⟨g, 0, none⟩) l (.slice sa j sc) j G) := HT8.out.al hB9
                obtain ⟨i0', hi, hzz⟩ := Option.map_eq_some_iff.1 infoTp
                simp only [Prod.mk.injEq] at hzz
                obtain ⟨hz0, hz1, hz2⟩ := hzz
                clear HT8 HB8
                cases b with
                | false =>
                  have z2 := b9.c0
                  have z3 := b9.c1
                  have hbs : w1.heap.size ≤ wr.heap.size := HT9.out.sz
                  go_wp2_with (at_builtin; refine wpList_append_own _ rfl _ _ 26 rfl w1.heap.size 34 i0' (.agg #[.int .i64 0, .int .i64 0]) 2 16 Tryd.underlying26 hi hz0 hz1 hz2 rfl (by decide) _ _ _ rfl (World.ownsRow.alloc (HT9.out.own) _) ⟨wr.heap.size, 0, none⟩ 1 1 [.int .i64 X, .int .i64 Y] rfl rfl (cell_two_trp _ _ _ _) (fun x hx => by simp at hx; rcases hx with rfl | rfl <;> rfl) (by unfold maxLen; omega) (by omega) (by simp; omega) ?_; intro v' w12 hown' hgrow3 _)
                  have hG6 := HT9.out.app hown' hgrow3 (by omega)
                  obtain ⟨ta, tc, rfl⟩ := hG6.own.shape
                  have HT10 : Hid (Td w w1 w12 C a len cap n7 (some ⟨g, 0, none⟩) l (.slice ta (j + 1) tc) (j + 1) (put (put G (j * 2) X) (j * 2 + 1) Y)) := hG6
                  clear hG6 hown' hgrow3 hi hz0 hz1 hz2
                  try go_wp2_with fail
                  go_roundw
                  case rel => exact ⟨Z, j + 1, n7, _, by go_num, by omega, by omega, HT10⟩
                  case measure => simp [intOf]
                | true =>
                  go_wp2_with fail
                  refine (one_any C a len cap n7 24 _ HT9.out.cur (by omega)).mono ?_
                  rintro e9 w11 ⟨ub, n11, rfl, hn11, hc11, hO11⟩
                  have HT11 : Hid (Td w w1 w11 C a len cap n11 (some ⟨g, 0, none⟩) l (.slice sa j sc) j G) := HT9.out.step hc11 hO11 (by omega)
                  have b12 := b9.turns (on_turns hO11) (.inr (by omega))
                  clear HT9 b9 hO11 hc11
                  cases ub with
                  | false =>
                    go_wp2_with fail
                    go_roundw
                    case rel => exact ⟨Z, j, n11, G, by go_num, by omega, by omega, HT11⟩
                    case measure => simp [intOf]
                  | true =>
                    have z2 := b12.c0
                    have z3 := b12.c1
                    have hbs : w1.heap.size ≤ w11.heap.size := HT11.out.sz
                    go_wp2_with (at_builtin; refine wpList_append_own _ rfl _ _ 26 rfl w1.heap.size 34 i0' (.agg #[.int .i64 0, .int .i64 0]) 2 16 Tryd.underlying26 hi hz0 hz1 hz2 rfl (by decide) _ _ _ rfl (World.ownsRow.alloc (HT11.out.own) _) ⟨w11.heap.size, 0, none⟩ 1 1 [.int .i64 X, .int .i64 Y] rfl rfl (cell_two_trp _ _ _ _) (fun x hx => by simp at hx; rcases hx with rfl | rfl <;> rfl) (by unfold maxLen; omega) (by omega) (by simp; omega) ?_; intro v' w12 hown' hgrow3 _)
                    have hG6 := HT11.out.app hown' hgrow3 (by omega)
                    obtain ⟨ta, tc, rfl⟩ := hG6.own.shape
                    have HT12 : Hid (Td w w1 w12 C a len cap n11 (some ⟨g, 0, none⟩) l (.slice ta (j + 1) tc) (j + 1) (put (put G (j * 2) X) (j * 2 + 1) Y)) := hG6
                    clear hG6 hown' hgrow3 hi hz0 hz1 hz2
                    try go_wp2_with fail
                    go_roundw
                    case rel => exact ⟨Z, j + 1, n11, _, by go_num, by omega, by omega, HT12⟩
                    case measure => simp [intOf]
        · go_simp
          have sa9 := t5.sz
          have sa8 : w1.heap.size ≤ wr.heap.size := t5.sz
          have hba : Below wr.drew.heap.size wr.drew (wr.drew.alloc (.cells #[.int .i64 0, .int .i64 0] 34)) := (Below.refl _ _).alloc (Nat.le_refl _) _
          have bb : Bx (wr.drew.alloc (.cells #[.int .i64 0, .int .i64 0] 34)) wr.heap.size [.int .i64 0, .int .i64 0] := bx_new (w := wr.drew) [.int .i64 0, .int .i64 0] 34 rfl
          have ta := t5.al hba
          have hPa := hPz.below hba hPz.lt
          refine hK.out _ _ (hPa) (fun hSn => ?_)
          clear hK K hSw
          have hSw := hSn
          clear hSn
          try simp [Act.put]
          have hPz := hPa
          refine wpAnyH_ready (rs := [4]) (by kernel_rfl) (by simp) ?_
          refine AllReadyH.cons rfl (fun K hK => ?_) AllReadyH.nil
          go_simp
          have sx := ta.sz
          go_at_call 31
          refine (pick_any C a len cap n5 (l.length : Int) _ ta.cur (by omega)).mono ?_
          rintro e9 w6 ⟨p6, n6, rfl, h60, h61, -, hn6, hc6, hO6⟩
          have t6 := ta.step hc6 hO6 (by omega)
          have h61 := h61 (by omega)
          have hP6 : IP w6 g l.length gf := ip_on1 (hPz) hO6 (by omega)
          have bbb := bb.turns (on_turns hO6) (.inr (by omega))
          refine hK.out _ _ (hP6) (fun hSn => ?_)
          clear hK K hSw
          have hSw := hSn
          clear hSn
          try simp [Act.put]
          refine wpAnyH_take (i := 5) (v := .pointer (some ⟨g, p6.toNat, none⟩)) rfl (by kernel_rfl) (by kernel_rfl) (by kernel_rfl) (fun _ _ _ h => h) (Or.inl ⟨by rfl, ?_⟩) hSw ?_
          · intro wz hsz
            obtain ⟨hl9, hc9, -⟩ := hsz
            have j0 : ¬ p6 < 0 := (by omega); have j1 : ¬ (l.length : Int) ≤ p6 := (by omega)
            go_simp
          try simp [Act.put]
          refine wpAnyH_take (i := 6) (v := .int .i64 (gf p6.toNat)) rfl (by kernel_rfl) (by kernel_rfl) (by kernel_rfl) (fun _ _ _ h => h) (Or.inl ⟨by rfl, ?_⟩) hSw ?_
          · intro wz hsz
            obtain ⟨hl9, hc9, -⟩ := hsz
            have i6 := hc9 p6.toNat (by omega)
            go_simp
          try simp [Act.put]
          have hPy := hP6
          refine wpAnyH_ready (rs := [11]) (by kernel_rfl) (by simp) ?_
          refine AllReadyH.cons rfl (fun K hK => ?_) AllReadyH.nil
          go_simp
          have sx := t6.sz
          go_at_call 31
          refine (pick_any C a len cap n6 (l.length : Int) _ t6.cur (by omega)).mono ?_
          rintro e9 w7 ⟨p7, n7, rfl, h70, h71, -, hn7, hc7, hO7⟩
          have t7 := t6.step hc7 hO7 (by omega)
          have h71 := h71 (by omega)
          have hP7 : IP w7 g l.length gf := ip_on1 (hPy) hO7 (by omega)
          have bbbb := bbb.turns (on_turns hO7) (.inr (by omega))
          refine hK.out _ _ (hP7) (fun hSn => ?_)
          clear hK K hSw
          have hSw := hSn
          clear hSn
          try simp [Act.put]
          refine wpAnyH_take (i := 12) (v := .pointer (some ⟨g, p7.toNat, none⟩)) rfl (by kernel_rfl) (by kernel_rfl) (by kernel_rfl) (fun _ _ _ h => h) (Or.inl ⟨by rfl, ?_⟩) hSw ?_
          · intro wz hsz
            obtain ⟨hl9, hc9, -⟩ := hsz
            have j0 : ¬ p7 < 0 := (by omega); have j1 : ¬ (l.length : Int) ≤ p7 := (by omega)
            go_simp
          try simp [Act.put]
          refine wpAnyH_take (i := 13) (v := .int .i64 (gf p7.toNat)) rfl (by kernel_rfl) (by kernel_rfl) (by kernel_rfl) (fun _ _ _ h => h) (Or.inl ⟨by rfl, ?_⟩) hSw ?_
          · intro wz hsz
            obtain ⟨hl9, hc9, -⟩ := hsz
            have i7 := hc9 p7.toNat (by omega)
            go_simp
          try simp [Act.put]
          refine wpAnyH_take (i := 14) (v := .agg #[.int .i64 (gf p6.toNat), .int .i64 (gf p7.toNat)]) rfl (by kernel_rfl) (by kernel_rfl) (by kernel_rfl) (fun _ _ _ h => h) (Or.inl ⟨by rfl, ?_⟩) hSw ?_
          · intro wz hsz
            obtain ⟨hl9, hc9, -⟩ := hsz
            go_simp
          try simp [Act.put]
          refine wpAnyH_ready (rs := [16]) (by kernel_rfl) (by simp) ?_
          refine AllReadyH.cons rfl (fun K hK => ?_) AllReadyH.nil
          go_simp
          have y0 := bbbb.c0
          have y1 := bbbb.c1
          have f0 := bbbb.fz 0
          have f1 := bbbb.fz 1
          have l7 := bbbb.lt
          try go_simp
          refine hK.out _ _ ((hP7.only ((Only.refl _ _).set 0 _) (by have : w1.heap.size ≤ wr.heap.size := t5.sz; show g ≠ wr.heap.size; omega)).only ((Only.refl _ _).set 1 _) (by have : w1.heap.size ≤ wr.heap.size := t5.sz; show g ≠ wr.heap.size; omega)) (fun hSn => ?_)
          clear hK K hSw
          have hSw := hSn
          clear hSn
          try simp [Act.put]
          refine wpAnyH_done (by kernel_rfl) ?_ _
          have s66 : w1.heap.size ≤ wr.heap.size := t5.sz
          have b8 := (bbbb.set 0 (by simp) (.int .i64 (gf p6.toNat))).set 1 (by simp) (.int .i64 (gf p7.toNat))
          have hTT : Turns C (C + 1) wr.drew ((w7.setCell ⟨wr.heap.size, 0, none⟩ (.int .i64 (gf p6.toNat))).setCell ⟨wr.heap.size, 1, none⟩ (.int .i64 (gf p7.toNat))) := turns_below (((al_turns wr.drew _).trans (on_turns hO6)).trans (on_turns hO7)) (((Below.refl wr.heap.size w7).setCell (p := ⟨wr.heap.size, 0, none⟩) (Nat.le_refl _) _).setCell (p := ⟨wr.heap.size, 1, none⟩) (Nat.le_refl _) _) (Nat.le_refl _)
          have hc8 := hc7.below (((Below.refl (C + 1) w7).setCell (p := ⟨wr.heap.size, 0, none⟩) (by show C + 1 ≤ wr.heap.size; omega) (.int .i64 (gf p6.toNat))).setCell (p := ⟨wr.heap.size, 1, none⟩) (by show C + 1 ≤ wr.heap.size; omega) (.int .i64 (gf p7.toNat))) (Nat.lt_succ_self _)
          have t8 := t5.tn hTT hc8 (by omega)
          generalize (w7.setCell ⟨wr.heap.size, 0, none⟩ (.int .i64 (gf p6.toNat))).setCell ⟨wr.heap.size, 1, none⟩ (.int .i64 (gf p7.toNat)) = w8 at *
          have hTB : w1.heap.size ≤ wr.heap.size := t5.sz
          generalize wr.heap.size = TB at *
          have HT8 : Hid (Td w w1 w8 C a len cap n7 (some ⟨g, 0, none⟩) l (.slice sa k sc) k G) := t8
          generalize gf p6.toNat = X at *
          generalize gf p7.toNat = Y at *
          have hn7' : n7 ≤ n5 + 4 := by omega
          have HB8 : Hid (Bx w8 TB [.int .i64 X, .int .i64 Y]) := b8
          clear hSw t8 hn6 hn7 b8
          go_wp2_with fail
          go_loopw [9, 47] (fun u i wx => ∃ (b : Bool) (j : Nat), u = .bool b ∧ i = .int .i64 (j : Int) ∧ j ≤ k ∧ Below w8.heap.size w8 wx) (fun _ i _ => k - (intOf i).toNat)
          case atStart => exact ⟨false, 0, rfl, rfl, Nat.zero_le _, Below.refl _ _⟩
          case round =>
            obtain ⟨b, j, rfl, rfl, hj, hB9⟩ := hrel
            have b9 := HB8.out.on hB9
            by_cases hjk : j < k
            case pos =>
              obtain ⟨og, oc, e0, ho1, hoP⟩ := HT8.out.own.some (by omega)
              cases e0
              obtain ⟨y0, y1⟩ := ip_two (hoP.below hB9 hoP.lt) hjk
              have hbt : Below wr.heap.size wr (wr.alloc (.cells #[.int .i64 (G (j * 2)), .int .i64 (G (j * 2 + 1))] 34)) := (Below.refl _ _).alloc (Nat.le_refl _) _
              have b10 := bx_new (w := wr) [.int .i64 (G (j * 2)), .int .i64 (G (j * 2 + 1))] 34 rfl
              have b11 := b9.on hbt
              have z0 := b10.c0
              have z1 := b10.c1
              have z2 := b11.c0
              have z3 := b11.c1
              have i0 : (0 : Int) ≤ (j : Int) := by omega
              have i1 : (j : Int) < (k : Int) := by omega
              have hB10 := stepA hB9 hbt
              clear hoP b9 b10 b11 hbt
              generalize G (j * 2) = X2 at *
              generalize G (j * 2 + 1) = Y2 at *
              cases b with
              | true =>
                go_wp2_with fail
                go_roundw
                case rel => exact ⟨true, j + 1, rfl, by go_num, by omega, hB10⟩
                case measure => simp [intOf]; omega
              | false =>
                cases r1 : (X2 == X) with
                | true =>
                  go_wp2_with fail
                  go_roundw
                  case rel => exact ⟨true, j + 1, rfl, by go_num, by omega, hB10⟩
                  case measure => simp [intOf]; omega
                | false =>
                  go_wp2_with fail
                  go_roundw
                  case rel => exact ⟨_, j + 1, rfl, by go_num, by omega, hB10⟩
                  case measure => simp [intOf]; omega
            case neg =>
              have hje : j = k := by omega
              subst hje
              have HT9 : Hid (Td w w1 wr C a len cap n7 (some ⟨g, 0, none⟩) l (.slice sa j sc) j G) := HT8.out.al hB9
              obtain ⟨i0', hi, hzz⟩ := Option.map_eq_some_iff.1 infoTp
              simp only [Prod.mk.injEq] at hzz
              obtain ⟨hz0, hz1, hz2⟩ := hzz
              clear HT8 HB8
              cases b with
              | false =>
                have z2 := b9.c0
                have z3 := b9.c1
                have hbs : w1.heap.size ≤ wr.heap.size := HT9.out.sz
                go_wp2_with (at_builtin; refine wpList_append_own _ rfl _ _ 26 rfl w1.heap.size 34 i0' (.agg #[.int .i64 0, .int .i64 0]) 2 16 Tryd.underlying26 hi hz0 hz1 hz2 rfl (by decide) _ _ _ rfl (World.ownsRow.alloc (HT9.out.own) _) ⟨wr.heap.size, 0, none⟩ 1 1 [.int .i64 X, .int .i64 Y] rfl rfl (cell_two_trp _ _ _ _) (fun x hx => by simp at hx; rcases hx with rfl | rfl <;> rfl) (by unfold maxLen; omega) (by omega) (by simp; omega) ?_; intro v' w12 hown' hgrow3 _)
                have hG6 := HT9.out.app hown' hgrow3 (by omega)
                obtain ⟨ta, tc, rfl⟩ := hG6.own.shape
                have HT10 : Hid (Td w w1 w12 C a len cap n7 (some ⟨g, 0, none⟩) l (.slice ta (j + 1) tc) (j + 1) (put (put G (j * 2) X) (j * 2 + 1) Y)) := hG6
                clear hG6 hown' hgrow3 hi hz0 hz1 hz2
                try go_wp2_with fail
                go_roundw
                case rel => exact ⟨Z, j + 1, n7, _, by go_num, by omega, by omega, HT10⟩
                case measure => simp [intOf]
              | true =>
                go_wp2_with fail
                refine (one_any C a len cap n7 24 _ HT9.out.cur (by omega)).mono ?_
                rintro e9 w11 ⟨ub, n11, rfl, hn11, hc11, hO11⟩
                have HT11 : Hid (Td w w1 w11 C a len cap n11 (some ⟨g, 0, none⟩) l (.slice sa j sc) j G) := HT9.out.step hc11 hO11 (by omega)
                have b12 := b9.turns (on_turns hO11) (.inr (by omega))
                clear HT9 b9 hO11 hc11
                cases ub with
                | false =>
                  go_wp2_with fail
                  go_roundw
                  case rel => exact ⟨Z, j, n11, G, by go_num, by omega, by omega, HT11⟩
                  case measure => simp [intOf]
                | true =>
                  have z2 := b12.c0
                  have z3 := b12.c1
                  have hbs : w1.heap.size ≤ w11.heap.size := HT11.out.sz
                  go_wp2_with (at_builtin; refine wpList_append_own _ rfl _ _ 26 rfl w1.heap.size 34 i0' (.agg #[.int .i64 0, .int .i64 0]) 2 16 Tryd.underlying26 hi hz0 hz1 hz2 rfl (by decide) _ _ _ rfl (World.ownsRow.alloc (HT11.out.own) _) ⟨w11.heap.size, 0, none⟩ 1 1 [.int .i64 X, .int .i64 Y] rfl rfl (cell_two_trp _ _ _ _) (fun x hx => by simp at hx; rcases hx with rfl | rfl <;> rfl) (by unfold maxLen; omega) (by omega) (by simp; omega) ?_; intro v' w12 hown' hgrow3 _)
                  have hG6 := HT11.out.app hown' hgrow3 (by omega)
                  obtain ⟨ta, tc, rfl⟩ := hG6.own.shape
                  have HT12 : Hid (Td w w1 w12 C a len cap n11 (some ⟨g, 0, none⟩) l (.slice ta (j + 1) tc) (j + 1) (put (put G (j * 2) X) (j * 2 + 1) Y)) := hG6
                  clear hG6 hown' hgrow3 hi hz0 hz1 hz2
                  try go_wp2_with fail
                  go_roundw
                  case rel => exact ⟨Z, j + 1, n11, _, by go_num, by omega, by omega, HT12⟩
                  case measure => simp [intOf]
end Go.Proofs.YtbndhhjgjalecaaDoor
