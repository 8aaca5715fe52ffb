/- The search from the end: what it costs from every place. -/
import Derived.Test.YtfciecoigfnnhaaQWyCutT
import Derived.Test.YtfciecoigfnnhaaQWyMs
import Derived.Deep.LoopGhost
import Derived.Deep.RegionHeld
import Derived.Deep.RegionHeld3
import Derived.Deep.CutRange
import Derived.Deep.Cut
namespace Go.Proofs.Ytfciecoigfnnhaa
open Go.RowKit

theorem ret_srch {fn : Func} {t : Tmp} {R : Ending → World → Prop} {a : Act} {w : World} {b : Nat} {v0 v1 v2 v3 v4 v5 : Value} (h : fn.results = #[.cell t 83]) (hp : a.tmps.getD t undef = .pointer (some ⟨b, 0, none⟩)) (c : Bx w b [v0, v1, v2, v3, v4, v5]) (hd : a.defers = [])
    (hR : R (.returned (.agg #[v0, v1, v2, v3, v4, v5])) w) : bodyPost Try.prog fn R .ret a w := by
  refine bodyPost_ret ?_ hd hR
  have hp' : a.tmps[t]?.getD undef = .pointer (some ⟨b, 0, none⟩) := by simpa using hp
  have c0 := c.c 0 (by simp)
  have c1 := c.c 1 (by simp)
  have c2 := c.c 2 (by simp)
  have c3 := c.c 3 (by simp)
  have c4 := c.c 4 (by simp)
  have c5 := c.c 5 (by simp)
  simp at c0 c1 c2 c3 c4 c5
  simp [results, h, hp', asAddr, loadVar, go_sem, c0, c1, c2, c3, c4, c5]
/-- what loop 1 has put into the map -/
def LpM (w1 wr : World) (Sb Tb Mb : Nat) (W H : Int) (q : Option Addr) (n c : Nat) (f : Nat → Int) (k : Nat) : Prop :=
  LM wr Mb k (fun x => decide (0 ≤ x) && decide (x < (k : Int)) && frB n f x) ∧ Bx wr Sb (srL W H q n c Tb Mb) ∧ IP wr Tb (n * 2) (fun _ => 0) ∧ Below w1.heap.size w1 wr

set_option maxHeartbeats 8000000 in
set_option maxRecDepth 20000 in
theorem search_any (W H : Int) (q : Option Addr) (n c : Nat) (f : Nat → Int) (st : Nat → Nat → Int) (tt : Nat) (w : World) (hsz : sizedB W n = true) (hHe : H = hgt W n) (hst0 : st = stN W n f) (hf : IL w q n f) (ht : frB n f (tt : Int) = true) :
    Calls Try.prog 42 #[gr W H q n c, .int .i64 (tt : Int)] w fun e w' => AnsSch w w' W H q n c tt st f e := by
  have hn2 := sized_le hsz
  have hn : n ≤ 1048576 := by omega
  have htn : tt < n := by have := frB_t ht; omega
  have hmk := run_make_tolls n hn
  have hmm := @run_makeMap Try.prog
  have bG := (bx_new (w := w) [.int .i64 W, .int .i64 H, .slice q n c] 73 rfl).alloc srZ
  have bR := bx_new (w := w.alloc (.cells #[.int .i64 W, .int .i64 H, .slice q n c] 73)) (b := w.heap.size + 1) [.int .i64 0, .int .i64 0, .slice none 0 0, .slice none 0 0, .map none, .slice none 0 0] 83 (by simp)
  have hb0 : Below w.heap.size w ((w.alloc (.cells #[.int .i64 W, .int .i64 H, .slice q n c] 73)).alloc srZ) := ((Below.refl _ _).alloc (Nat.le_refl _) _).alloc (by simp) _
  have hs1 : Hid (((w.alloc (.cells #[.int .i64 W, .int .i64 H, .slice q n c] 73)).alloc srZ).heap.size = w.heap.size + 2) := (by simp : _ = _)
  have HHe : Hid (H = hgt W n) := hHe
  have HST0 : Hid (st = stN W n f) := hst0
  have HTF : Hid (frB n f (tt : Int) = true) := ht
  have HFW : Hid (IL w q n f) := hf
  clear hHe hst0 ht
  go_enter Try.func42, Try.ntmps42
  go_upto_region 1 with fail
  generalize (w.alloc (.cells #[.int .i64 W, .int .i64 H, .slice q n c] 73)).alloc srZ = w1 at *
  have hw0 := Below.refl w1.heap.size w1
  go_cut [5] from 9 to 16 (fun s wx => CutI w1 wx W H q n c s)
  case first =>
    refine wp_region_held (S := fun w' => w'.cell? ⟨w.heap.size, 0, none⟩ = some (.int .i64 W) ∧ w'.cell? ⟨w.heap.size, 1, none⟩ = some (.int .i64 H) ∧ w'.cell? ⟨w.heap.size, 2, none⟩ = some (.slice q n c)) (by kernel_rfl) ?_
    change wpAnyH _ _ _ _ _ _ _ _ (World.drew _)
    have hSw := (⟨(bG.on hw0.drew).c0, (bG.on hw0.drew).c1, (bG.on hw0.drew).c2⟩ : _ ∧ _ ∧ _)
    refine wpAnyH_take (i := 0) (v := gr W H q n c) rfl (by kernel_rfl) (by kernel_rfl) (by kernel_rfl) (fun _ _ _ h => h) (Or.inl ⟨by rfl, ?_⟩) hSw ?_
    · intro wz hsz
      obtain ⟨z0, z1, z2⟩ := hsz
      go_simp
    try simp [Act.put]
    refine wpAnyH_take (i := 1) (v := .pointer (some ⟨w.heap.size, 2, none⟩)) rfl (by kernel_rfl) (by kernel_rfl) (by kernel_rfl) (fun _ _ _ h => h) (Or.inl ⟨by rfl, ?_⟩) hSw ?_
    · intro wz hsz
      obtain ⟨z0, z1, z2⟩ := hsz
      go_simp
    try simp [Act.put]
    refine wpAnyH_take (i := 2) (v := .slice q n c) rfl (by kernel_rfl) (by kernel_rfl) (by kernel_rfl) (fun _ _ _ h => h) (Or.inl ⟨by rfl, ?_⟩) hSw ?_
    · intro wz hsz
      obtain ⟨z0, z1, z2⟩ := hsz
      go_simp
    try simp [Act.put]
    refine wpAnyH_take (i := 3) (v := .int .i64 (n : Int)) rfl (by kernel_rfl) (by kernel_rfl) (by kernel_rfl) (fun _ _ _ h => h) (Or.inl ⟨by rfl, ?_⟩) hSw ?_
    · intro wz hsz
      obtain ⟨z0, z1, z2⟩ := hsz
      go_simp
    try simp [Act.put]
    refine wpAnyH_ready (rs := [4, 5, 7]) (by kernel_rfl) (by simp) ?_
    refine (AllReadyH.cons rfl (fun K hK => ?_) (AllReadyH.cons rfl (fun K hK => ?_) (AllReadyH.cons rfl (fun K hK => ?_) AllReadyH.nil)))
    · go_simp
      refine hK.out _ _ (⟨(bG.on (hw0.drew.alloc hw0.drew.size _)).c0, (bG.on (hw0.drew.alloc hw0.drew.size _)).c1, (bG.on (hw0.drew.alloc hw0.drew.size _)).c2⟩) (fun hSn => ?_)
      clear hK K hSw
      have hSw := hSn
      clear hSn
      try simp [Act.put]
      refine wpAnyH_ready (rs := [5, 7]) (by kernel_rfl) (by simp) ?_
      refine (AllReadyH.cons rfl (fun K hK => ?_) (AllReadyH.cons rfl (fun K hK => ?_) AllReadyH.nil))
      · go_simp
        refine hK.out _ _ (⟨(bG.on ((hw0.drew.alloc hw0.drew.size _).alloc (hw0.drew.alloc hw0.drew.size _).size _)).c0, (bG.on ((hw0.drew.alloc hw0.drew.size _).alloc (hw0.drew.alloc hw0.drew.size _).size _)).c1, (bG.on ((hw0.drew.alloc hw0.drew.size _).alloc (hw0.drew.alloc hw0.drew.size _).size _)).c2⟩) (fun hSn => ?_)
        clear hK K hSw
        have hSw := hSn
        clear hSn
        try simp [Act.put]
        refine wpAnyH_take (i := 6) (v := .agg #[.int .i64 W, .int .i64 H, .slice q n c, .slice (some ⟨w1.heap.size, 0, none⟩) n n, .map (some (w1.heap.size + 1)), .slice none 0 0]) rfl (by kernel_rfl) (by kernel_rfl) (by kernel_rfl) (fun _ _ _ h => h) (Or.inl ⟨by rfl, ?_⟩) hSw ?_
        · intro wz hsz
          obtain ⟨z0, z1, z2⟩ := hsz
          go_simp
        try simp [Act.put]
        refine wpAnyH_ready (rs := [7]) (by kernel_rfl) (by simp) ?_
        refine (AllReadyH.cons rfl (fun K hK => ?_) AllReadyH.nil)
        · go_simp
          refine hK.out _ _ (⟨(bG.on (((hw0.drew.alloc hw0.drew.size _).alloc (hw0.drew.alloc hw0.drew.size _).size _).alloc ((hw0.drew.alloc hw0.drew.size _).alloc (hw0.drew.alloc hw0.drew.size _).size _).size _)).c0, (bG.on (((hw0.drew.alloc hw0.drew.size _).alloc (hw0.drew.alloc hw0.drew.size _).size _).alloc ((hw0.drew.alloc hw0.drew.size _).alloc (hw0.drew.alloc hw0.drew.size _).size _).size _)).c1, (bG.on (((hw0.drew.alloc hw0.drew.size _).alloc (hw0.drew.alloc hw0.drew.size _).size _).alloc ((hw0.drew.alloc hw0.drew.size _).alloc (hw0.drew.alloc hw0.drew.size _).size _).size _)).c2⟩) (fun hSn => ?_)
          clear hK K hSw
          have hSw := hSn
          clear hSn
          try simp [Act.put]
          refine wpAnyH_ready (rs := [8]) (by kernel_rfl) (by simp) ?_
          refine AllReadyH.cons rfl (fun K hK => ?_) AllReadyH.nil
          go_simp
          refine hK.out _ _ (⟨(bG.on (al3_drew w1 _ _ _)).c0, (bG.on (al3_drew w1 _ _ _)).c1, (bG.on (al3_drew w1 _ _ _)).c2⟩) (fun hSn => ?_)
          clear hK K hSw
          have hSw := hSn
          clear hSn
          try simp [Act.put]
          refine wpAnyH_done (by kernel_rfl) ?_ _
          go_wp2_with fail
          go_meet
          case rel =>
            have nb := bx_drew ((bx_new (w := ((w1.alloc (tlsO n)).alloc (.map #[] 0))) (b := w1.heap.size + 1 + 1) (srL W H q n c (w1.heap.size) (w1.heap.size + 1)) 83 (by simp)).on (Below.refl (((w1.alloc (tlsO n)).alloc (.map #[] 0)).alloc (.cells (srL W H q n c (w1.heap.size) (w1.heap.size + 1)).toArray 83)).heap.size (((w1.alloc (tlsO n)).alloc (.map #[] 0)).alloc (.cells (srL W H q n c (w1.heap.size) (w1.heap.size + 1)).toArray 83))))
            have tb : IP (((w1.alloc (tlsO n)).alloc (.map #[] 0)).alloc (.cells (srL W H q n c (w1.heap.size) (w1.heap.size + 1)).toArray 83)).drew (w1.heap.size) (n * 2) (fun _ => 0) := by have := ip_drew ((made_tolls w1 n).below (al2_keep (w1.alloc (tlsO n)) (.map #[] 0) (.cells (srL W H q n c (w1.heap.size) (w1.heap.size + 1)).toArray 83)) (made_tolls w1 n).lt); have e : w1.heap.size = w1.heap.size := (by simp); rw [e] at this; exact this
            have lm : LM (((w1.alloc (tlsO n)).alloc (.map #[] 0)).alloc (.cells (srL W H q n c (w1.heap.size) (w1.heap.size + 1)).toArray 83)).drew (w1.heap.size + 1) 0 (fun _ => false) := by have := lm_made (w1.alloc (tlsO n)); have e : (w1.alloc (tlsO n)).heap.size = w1.heap.size + 1 := (by simp); rw [e] at this; exact LM.heap (LM.heap this ((al_keep ((w1.alloc (tlsO n)).alloc (.map #[] 0)) (.cells (srL W H q n c (w1.heap.size) (w1.heap.size + 1)).toArray 83)).block _ (by simp <;> omega))) rfl
            exact ⟨w1.heap.size + 1 + 1, w1.heap.size, w1.heap.size + 1, rfl, by omega, by omega, by omega, by omega, by omega, by omega, nb, tb, lm, al3_drew w1 _ _ _⟩
      · go_simp
        refine hK.out _ _ (⟨(bG.on ((hw0.drew.alloc hw0.drew.size _).alloc (hw0.drew.alloc hw0.drew.size _).size _)).c0, (bG.on ((hw0.drew.alloc hw0.drew.size _).alloc (hw0.drew.alloc hw0.drew.size _).size _)).c1, (bG.on ((hw0.drew.alloc hw0.drew.size _).alloc (hw0.drew.alloc hw0.drew.size _).size _)).c2⟩) (fun hSn => ?_)
        clear hK K hSw
        have hSw := hSn
        clear hSn
        try simp [Act.put]
        refine wpAnyH_ready (rs := [5]) (by kernel_rfl) (by simp) ?_
        refine (AllReadyH.cons rfl (fun K hK => ?_) AllReadyH.nil)
        · go_simp
          refine hK.out _ _ (⟨(bG.on (((hw0.drew.alloc hw0.drew.size _).alloc (hw0.drew.alloc hw0.drew.size _).size _).alloc ((hw0.drew.alloc hw0.drew.size _).alloc (hw0.drew.alloc hw0.drew.size _).size _).size _)).c0, (bG.on (((hw0.drew.alloc hw0.drew.size _).alloc (hw0.drew.alloc hw0.drew.size _).size _).alloc ((hw0.drew.alloc hw0.drew.size _).alloc (hw0.drew.alloc hw0.drew.size _).size _).size _)).c1, (bG.on (((hw0.drew.alloc hw0.drew.size _).alloc (hw0.drew.alloc hw0.drew.size _).size _).alloc ((hw0.drew.alloc hw0.drew.size _).alloc (hw0.drew.alloc hw0.drew.size _).size _).size _)).c2⟩) (fun hSn => ?_)
          clear hK K hSw
          have hSw := hSn
          clear hSn
          try simp [Act.put]
          refine wpAnyH_take (i := 6) (v := .agg #[.int .i64 W, .int .i64 H, .slice q n c, .slice (some ⟨w1.heap.size, 0, none⟩) n n, .map (some (w1.heap.size + 1 + 1)), .slice none 0 0]) rfl (by kernel_rfl) (by kernel_rfl) (by kernel_rfl) (fun _ _ _ h => h) (Or.inl ⟨by rfl, ?_⟩) hSw ?_
          · intro wz hsz
            obtain ⟨z0, z1, z2⟩ := hsz
            go_simp
          try simp [Act.put]
          refine wpAnyH_ready (rs := [8]) (by kernel_rfl) (by simp) ?_
          refine AllReadyH.cons rfl (fun K hK => ?_) AllReadyH.nil
          go_simp
          refine hK.out _ _ (⟨(bG.on (al3_drew w1 _ _ _)).c0, (bG.on (al3_drew w1 _ _ _)).c1, (bG.on (al3_drew w1 _ _ _)).c2⟩) (fun hSn => ?_)
          clear hK K hSw
          have hSw := hSn
          clear hSn
          try simp [Act.put]
          refine wpAnyH_done (by kernel_rfl) ?_ _
          go_wp2_with fail
          go_meet
          case rel =>
            have nb := bx_drew ((bx_new (w := (w1.alloc (tlsO n))) (b := w1.heap.size + 1) (srL W H q n c (w1.heap.size) (w1.heap.size + 1 + 1)) 83 (by simp)).on (al_keep ((w1.alloc (tlsO n)).alloc (.cells (srL W H q n c (w1.heap.size) (w1.heap.size + 1 + 1)).toArray 83)) (.map #[] 0)))
            have tb : IP (((w1.alloc (tlsO n)).alloc (.cells (srL W H q n c (w1.heap.size) (w1.heap.size + 1 + 1)).toArray 83)).alloc (.map #[] 0)).drew (w1.heap.size) (n * 2) (fun _ => 0) := by have := ip_drew ((made_tolls w1 n).below (al2_keep (w1.alloc (tlsO n)) (.cells (srL W H q n c (w1.heap.size) (w1.heap.size + 1 + 1)).toArray 83) (.map #[] 0)) (made_tolls w1 n).lt); have e : w1.heap.size = w1.heap.size := (by simp); rw [e] at this; exact this
            have lm : LM (((w1.alloc (tlsO n)).alloc (.cells (srL W H q n c (w1.heap.size) (w1.heap.size + 1 + 1)).toArray 83)).alloc (.map #[] 0)).drew (w1.heap.size + 1 + 1) 0 (fun _ => false) := by have := lm_made ((w1.alloc (tlsO n)).alloc (.cells (srL W H q n c (w1.heap.size) (w1.heap.size + 1 + 1)).toArray 83)); have e : ((w1.alloc (tlsO n)).alloc (.cells (srL W H q n c (w1.heap.size) (w1.heap.size + 1 + 1)).toArray 83)).heap.size = w1.heap.size + 1 + 1 := (by simp); rw [e] at this; exact LM.heap (LM.heap this ((Below.refl (((w1.alloc (tlsO n)).alloc (.cells (srL W H q n c (w1.heap.size) (w1.heap.size + 1 + 1)).toArray 83)).alloc (.map #[] 0)).heap.size (((w1.alloc (tlsO n)).alloc (.cells (srL W H q n c (w1.heap.size) (w1.heap.size + 1 + 1)).toArray 83)).alloc (.map #[] 0))).block _ (by simp <;> omega))) rfl
            exact ⟨w1.heap.size + 1, w1.heap.size, w1.heap.size + 1 + 1, rfl, by omega, by omega, by omega, by omega, by omega, by omega, nb, tb, lm, al3_drew w1 _ _ _⟩
    · go_simp
      refine hK.out _ _ (⟨(bG.on (hw0.drew.alloc hw0.drew.size _)).c0, (bG.on (hw0.drew.alloc hw0.drew.size _)).c1, (bG.on (hw0.drew.alloc hw0.drew.size _)).c2⟩) (fun hSn => ?_)
      clear hK K hSw
      have hSw := hSn
      clear hSn
      try simp [Act.put]
      refine wpAnyH_ready (rs := [4, 7]) (by kernel_rfl) (by simp) ?_
      refine (AllReadyH.cons rfl (fun K hK => ?_) (AllReadyH.cons rfl (fun K hK => ?_) AllReadyH.nil))
      · go_simp
        refine hK.out _ _ (⟨(bG.on ((hw0.drew.alloc hw0.drew.size _).alloc (hw0.drew.alloc hw0.drew.size _).size _)).c0, (bG.on ((hw0.drew.alloc hw0.drew.size _).alloc (hw0.drew.alloc hw0.drew.size _).size _)).c1, (bG.on ((hw0.drew.alloc hw0.drew.size _).alloc (hw0.drew.alloc hw0.drew.size _).size _)).c2⟩) (fun hSn => ?_)
        clear hK K hSw
        have hSw := hSn
        clear hSn
        try simp [Act.put]
        refine wpAnyH_take (i := 6) (v := .agg #[.int .i64 W, .int .i64 H, .slice q n c, .slice (some ⟨w1.heap.size + 1, 0, none⟩) n n, .map (some (w1.heap.size)), .slice none 0 0]) rfl (by kernel_rfl) (by kernel_rfl) (by kernel_rfl) (fun _ _ _ h => h) (Or.inl ⟨by rfl, ?_⟩) hSw ?_
        · intro wz hsz
          obtain ⟨z0, z1, z2⟩ := hsz
          go_simp
        try simp [Act.put]
        refine wpAnyH_ready (rs := [7]) (by kernel_rfl) (by simp) ?_
        refine (AllReadyH.cons rfl (fun K hK => ?_) AllReadyH.nil)
        · go_simp
          refine hK.out _ _ (⟨(bG.on (((hw0.drew.alloc hw0.drew.size _).alloc (hw0.drew.alloc hw0.drew.size _).size _).alloc ((hw0.drew.alloc hw0.drew.size _).alloc (hw0.drew.alloc hw0.drew.size _).size _).size _)).c0, (bG.on (((hw0.drew.alloc hw0.drew.size _).alloc (hw0.drew.alloc hw0.drew.size _).size _).alloc ((hw0.drew.alloc hw0.drew.size _).alloc (hw0.drew.alloc hw0.drew.size _).size _).size _)).c1, (bG.on (((hw0.drew.alloc hw0.drew.size _).alloc (hw0.drew.alloc hw0.drew.size _).size _).alloc ((hw0.drew.alloc hw0.drew.size _).alloc (hw0.drew.alloc hw0.drew.size _).size _).size _)).c2⟩) (fun hSn => ?_)
          clear hK K hSw
          have hSw := hSn
          clear hSn
          try simp [Act.put]
          refine wpAnyH_ready (rs := [8]) (by kernel_rfl) (by simp) ?_
          refine AllReadyH.cons rfl (fun K hK => ?_) AllReadyH.nil
          go_simp
          refine hK.out _ _ (⟨(bG.on (al3_drew w1 _ _ _)).c0, (bG.on (al3_drew w1 _ _ _)).c1, (bG.on (al3_drew w1 _ _ _)).c2⟩) (fun hSn => ?_)
          clear hK K hSw
          have hSw := hSn
          clear hSn
          try simp [Act.put]
          refine wpAnyH_done (by kernel_rfl) ?_ _
          go_wp2_with fail
          go_meet
          case rel =>
            have nb := bx_drew ((bx_new (w := ((w1.alloc (.map #[] 0)).alloc (tlsO n))) (b := w1.heap.size + 1 + 1) (srL W H q n c (w1.heap.size + 1) (w1.heap.size)) 83 (by simp)).on (Below.refl (((w1.alloc (.map #[] 0)).alloc (tlsO n)).alloc (.cells (srL W H q n c (w1.heap.size + 1) (w1.heap.size)).toArray 83)).heap.size (((w1.alloc (.map #[] 0)).alloc (tlsO n)).alloc (.cells (srL W H q n c (w1.heap.size + 1) (w1.heap.size)).toArray 83))))
            have tb : IP (((w1.alloc (.map #[] 0)).alloc (tlsO n)).alloc (.cells (srL W H q n c (w1.heap.size + 1) (w1.heap.size)).toArray 83)).drew (w1.heap.size + 1) (n * 2) (fun _ => 0) := by have := ip_drew ((made_tolls (w1.alloc (.map #[] 0)) n).below (al_keep ((w1.alloc (.map #[] 0)).alloc (tlsO n)) (.cells (srL W H q n c (w1.heap.size + 1) (w1.heap.size)).toArray 83)) (made_tolls (w1.alloc (.map #[] 0)) n).lt); have e : (w1.alloc (.map #[] 0)).heap.size = w1.heap.size + 1 := (by simp); rw [e] at this; exact this
            have lm : LM (((w1.alloc (.map #[] 0)).alloc (tlsO n)).alloc (.cells (srL W H q n c (w1.heap.size + 1) (w1.heap.size)).toArray 83)).drew (w1.heap.size) 0 (fun _ => false) := by have := lm_made w1; have e : w1.heap.size = w1.heap.size := (by simp); rw [e] at this; exact LM.heap (LM.heap this ((al2_keep (w1.alloc (.map #[] 0)) (tlsO n) (.cells (srL W H q n c (w1.heap.size + 1) (w1.heap.size)).toArray 83)).block _ (by simp <;> omega))) rfl
            exact ⟨w1.heap.size + 1 + 1, w1.heap.size + 1, w1.heap.size, rfl, by omega, by omega, by omega, by omega, by omega, by omega, nb, tb, lm, al3_drew w1 _ _ _⟩
      · go_simp
        refine hK.out _ _ (⟨(bG.on ((hw0.drew.alloc hw0.drew.size _).alloc (hw0.drew.alloc hw0.drew.size _).size _)).c0, (bG.on ((hw0.drew.alloc hw0.drew.size _).alloc (hw0.drew.alloc hw0.drew.size _).size _)).c1, (bG.on ((hw0.drew.alloc hw0.drew.size _).alloc (hw0.drew.alloc hw0.drew.size _).size _)).c2⟩) (fun hSn => ?_)
        clear hK K hSw
        have hSw := hSn
        clear hSn
        try simp [Act.put]
        refine wpAnyH_ready (rs := [4]) (by kernel_rfl) (by simp) ?_
        refine (AllReadyH.cons rfl (fun K hK => ?_) AllReadyH.nil)
        · go_simp
          refine hK.out _ _ (⟨(bG.on (((hw0.drew.alloc hw0.drew.size _).alloc (hw0.drew.alloc hw0.drew.size _).size _).alloc ((hw0.drew.alloc hw0.drew.size _).alloc (hw0.drew.alloc hw0.drew.size _).size _).size _)).c0, (bG.on (((hw0.drew.alloc hw0.drew.size _).alloc (hw0.drew.alloc hw0.drew.size _).size _).alloc ((hw0.drew.alloc hw0.drew.size _).alloc (hw0.drew.alloc hw0.drew.size _).size _).size _)).c1, (bG.on (((hw0.drew.alloc hw0.drew.size _).alloc (hw0.drew.alloc hw0.drew.size _).size _).alloc ((hw0.drew.alloc hw0.drew.size _).alloc (hw0.drew.alloc hw0.drew.size _).size _).size _)).c2⟩) (fun hSn => ?_)
          clear hK K hSw
          have hSw := hSn
          clear hSn
          try simp [Act.put]
          refine wpAnyH_take (i := 6) (v := .agg #[.int .i64 W, .int .i64 H, .slice q n c, .slice (some ⟨w1.heap.size + 1 + 1, 0, none⟩) n n, .map (some (w1.heap.size)), .slice none 0 0]) rfl (by kernel_rfl) (by kernel_rfl) (by kernel_rfl) (fun _ _ _ h => h) (Or.inl ⟨by rfl, ?_⟩) hSw ?_
          · intro wz hsz
            obtain ⟨z0, z1, z2⟩ := hsz
            go_simp
          try simp [Act.put]
          refine wpAnyH_ready (rs := [8]) (by kernel_rfl) (by simp) ?_
          refine AllReadyH.cons rfl (fun K hK => ?_) AllReadyH.nil
          go_simp
          refine hK.out _ _ (⟨(bG.on (al3_drew w1 _ _ _)).c0, (bG.on (al3_drew w1 _ _ _)).c1, (bG.on (al3_drew w1 _ _ _)).c2⟩) (fun hSn => ?_)
          clear hK K hSw
          have hSw := hSn
          clear hSn
          try simp [Act.put]
          refine wpAnyH_done (by kernel_rfl) ?_ _
          go_wp2_with fail
          go_meet
          case rel =>
            have nb := bx_drew ((bx_new (w := (w1.alloc (.map #[] 0))) (b := w1.heap.size + 1) (srL W H q n c (w1.heap.size + 1 + 1) (w1.heap.size)) 83 (by simp)).on (al_keep ((w1.alloc (.map #[] 0)).alloc (.cells (srL W H q n c (w1.heap.size + 1 + 1) (w1.heap.size)).toArray 83)) (tlsO n)))
            have tb : IP (((w1.alloc (.map #[] 0)).alloc (.cells (srL W H q n c (w1.heap.size + 1 + 1) (w1.heap.size)).toArray 83)).alloc (tlsO n)).drew (w1.heap.size + 1 + 1) (n * 2) (fun _ => 0) := by have := ip_drew ((made_tolls ((w1.alloc (.map #[] 0)).alloc (.cells (srL W H q n c (w1.heap.size + 1 + 1) (w1.heap.size)).toArray 83)) n).below (Below.refl (((w1.alloc (.map #[] 0)).alloc (.cells (srL W H q n c (w1.heap.size + 1 + 1) (w1.heap.size)).toArray 83)).alloc (tlsO n)).heap.size (((w1.alloc (.map #[] 0)).alloc (.cells (srL W H q n c (w1.heap.size + 1 + 1) (w1.heap.size)).toArray 83)).alloc (tlsO n))) (made_tolls ((w1.alloc (.map #[] 0)).alloc (.cells (srL W H q n c (w1.heap.size + 1 + 1) (w1.heap.size)).toArray 83)) n).lt); have e : ((w1.alloc (.map #[] 0)).alloc (.cells (srL W H q n c (w1.heap.size + 1 + 1) (w1.heap.size)).toArray 83)).heap.size = w1.heap.size + 1 + 1 := (by simp); rw [e] at this; exact this
            have lm : LM (((w1.alloc (.map #[] 0)).alloc (.cells (srL W H q n c (w1.heap.size + 1 + 1) (w1.heap.size)).toArray 83)).alloc (tlsO n)).drew (w1.heap.size) 0 (fun _ => false) := by have := lm_made w1; have e : w1.heap.size = w1.heap.size := (by simp); rw [e] at this; exact LM.heap (LM.heap this ((al2_keep (w1.alloc (.map #[] 0)) (.cells (srL W H q n c (w1.heap.size + 1 + 1) (w1.heap.size)).toArray 83) (tlsO n)).block _ (by simp <;> omega))) rfl
            exact ⟨w1.heap.size + 1, w1.heap.size + 1 + 1, w1.heap.size, rfl, by omega, by omega, by omega, by omega, by omega, by omega, nb, tb, lm, al3_drew w1 _ _ _⟩
    · go_simp
      refine hK.out _ _ (⟨(bG.on (hw0.drew.alloc hw0.drew.size _)).c0, (bG.on (hw0.drew.alloc hw0.drew.size _)).c1, (bG.on (hw0.drew.alloc hw0.drew.size _)).c2⟩) (fun hSn => ?_)
      clear hK K hSw
      have hSw := hSn
      clear hSn
      try simp [Act.put]
      refine wpAnyH_ready (rs := [4, 5]) (by kernel_rfl) (by simp) ?_
      refine (AllReadyH.cons rfl (fun K hK => ?_) (AllReadyH.cons rfl (fun K hK => ?_) AllReadyH.nil))
      · go_simp
        refine hK.out _ _ (⟨(bG.on ((hw0.drew.alloc hw0.drew.size _).alloc (hw0.drew.alloc hw0.drew.size _).size _)).c0, (bG.on ((hw0.drew.alloc hw0.drew.size _).alloc (hw0.drew.alloc hw0.drew.size _).size _)).c1, (bG.on ((hw0.drew.alloc hw0.drew.size _).alloc (hw0.drew.alloc hw0.drew.size _).size _)).c2⟩) (fun hSn => ?_)
        clear hK K hSw
        have hSw := hSn
        clear hSn
        try simp [Act.put]
        refine wpAnyH_ready (rs := [5]) (by kernel_rfl) (by simp) ?_
        refine (AllReadyH.cons rfl (fun K hK => ?_) AllReadyH.nil)
        · go_simp
          refine hK.out _ _ (⟨(bG.on (((hw0.drew.alloc hw0.drew.size _).alloc (hw0.drew.alloc hw0.drew.size _).size _).alloc ((hw0.drew.alloc hw0.drew.size _).alloc (hw0.drew.alloc hw0.drew.size _).size _).size _)).c0, (bG.on (((hw0.drew.alloc hw0.drew.size _).alloc (hw0.drew.alloc hw0.drew.size _).size _).alloc ((hw0.drew.alloc hw0.drew.size _).alloc (hw0.drew.alloc hw0.drew.size _).size _).size _)).c1, (bG.on (((hw0.drew.alloc hw0.drew.size _).alloc (hw0.drew.alloc hw0.drew.size _).size _).alloc ((hw0.drew.alloc hw0.drew.size _).alloc (hw0.drew.alloc hw0.drew.size _).size _).size _)).c2⟩) (fun hSn => ?_)
          clear hK K hSw
          have hSw := hSn
          clear hSn
          try simp [Act.put]
          refine wpAnyH_take (i := 6) (v := .agg #[.int .i64 W, .int .i64 H, .slice q n c, .slice (some ⟨w1.heap.size + 1, 0, none⟩) n n, .map (some (w1.heap.size + 1 + 1)), .slice none 0 0]) rfl (by kernel_rfl) (by kernel_rfl) (by kernel_rfl) (fun _ _ _ h => h) (Or.inl ⟨by rfl, ?_⟩) hSw ?_
          · intro wz hsz
            obtain ⟨z0, z1, z2⟩ := hsz
            go_simp
          try simp [Act.put]
          refine wpAnyH_ready (rs := [8]) (by kernel_rfl) (by simp) ?_
          refine AllReadyH.cons rfl (fun K hK => ?_) AllReadyH.nil
          go_simp
          refine hK.out _ _ (⟨(bG.on (al3_drew w1 _ _ _)).c0, (bG.on (al3_drew w1 _ _ _)).c1, (bG.on (al3_drew w1 _ _ _)).c2⟩) (fun hSn => ?_)
          clear hK K hSw
          have hSw := hSn
          clear hSn
          try simp [Act.put]
          refine wpAnyH_done (by kernel_rfl) ?_ _
          go_wp2_with fail
          go_meet
          case rel =>
            have nb := bx_drew ((bx_new (w := w1) (b := w1.heap.size) (srL W H q n c (w1.heap.size + 1) (w1.heap.size + 1 + 1)) 83 (by simp)).on (al2_keep (w1.alloc (.cells (srL W H q n c (w1.heap.size + 1) (w1.heap.size + 1 + 1)).toArray 83)) (tlsO n) (.map #[] 0)))
            have tb : IP (((w1.alloc (.cells (srL W H q n c (w1.heap.size + 1) (w1.heap.size + 1 + 1)).toArray 83)).alloc (tlsO n)).alloc (.map #[] 0)).drew (w1.heap.size + 1) (n * 2) (fun _ => 0) := by have := ip_drew ((made_tolls (w1.alloc (.cells (srL W H q n c (w1.heap.size + 1) (w1.heap.size + 1 + 1)).toArray 83)) n).below (al_keep ((w1.alloc (.cells (srL W H q n c (w1.heap.size + 1) (w1.heap.size + 1 + 1)).toArray 83)).alloc (tlsO n)) (.map #[] 0)) (made_tolls (w1.alloc (.cells (srL W H q n c (w1.heap.size + 1) (w1.heap.size + 1 + 1)).toArray 83)) n).lt); have e : (w1.alloc (.cells (srL W H q n c (w1.heap.size + 1) (w1.heap.size + 1 + 1)).toArray 83)).heap.size = w1.heap.size + 1 := (by simp); rw [e] at this; exact this
            have lm : LM (((w1.alloc (.cells (srL W H q n c (w1.heap.size + 1) (w1.heap.size + 1 + 1)).toArray 83)).alloc (tlsO n)).alloc (.map #[] 0)).drew (w1.heap.size + 1 + 1) 0 (fun _ => false) := by have := lm_made ((w1.alloc (.cells (srL W H q n c (w1.heap.size + 1) (w1.heap.size + 1 + 1)).toArray 83)).alloc (tlsO n)); have e : ((w1.alloc (.cells (srL W H q n c (w1.heap.size + 1) (w1.heap.size + 1 + 1)).toArray 83)).alloc (tlsO n)).heap.size = w1.heap.size + 1 + 1 := (by simp); rw [e] at this; exact LM.heap (LM.heap this ((Below.refl (((w1.alloc (.cells (srL W H q n c (w1.heap.size + 1) (w1.heap.size + 1 + 1)).toArray 83)).alloc (tlsO n)).alloc (.map #[] 0)).heap.size (((w1.alloc (.cells (srL W H q n c (w1.heap.size + 1) (w1.heap.size + 1 + 1)).toArray 83)).alloc (tlsO n)).alloc (.map #[] 0))).block _ (by simp <;> omega))) rfl
            exact ⟨w1.heap.size, w1.heap.size + 1, w1.heap.size + 1 + 1, rfl, by omega, by omega, by omega, by omega, by omega, by omega, nb, tb, lm, al3_drew w1 _ _ _⟩
      · go_simp
        refine hK.out _ _ (⟨(bG.on ((hw0.drew.alloc hw0.drew.size _).alloc (hw0.drew.alloc hw0.drew.size _).size _)).c0, (bG.on ((hw0.drew.alloc hw0.drew.size _).alloc (hw0.drew.alloc hw0.drew.size _).size _)).c1, (bG.on ((hw0.drew.alloc hw0.drew.size _).alloc (hw0.drew.alloc hw0.drew.size _).size _)).c2⟩) (fun hSn => ?_)
        clear hK K hSw
        have hSw := hSn
        clear hSn
        try simp [Act.put]
        refine wpAnyH_ready (rs := [4]) (by kernel_rfl) (by simp) ?_
        refine (AllReadyH.cons rfl (fun K hK => ?_) AllReadyH.nil)
        · go_simp
          refine hK.out _ _ (⟨(bG.on (((hw0.drew.alloc hw0.drew.size _).alloc (hw0.drew.alloc hw0.drew.size _).size _).alloc ((hw0.drew.alloc hw0.drew.size _).alloc (hw0.drew.alloc hw0.drew.size _).size _).size _)).c0, (bG.on (((hw0.drew.alloc hw0.drew.size _).alloc (hw0.drew.alloc hw0.drew.size _).size _).alloc ((hw0.drew.alloc hw0.drew.size _).alloc (hw0.drew.alloc hw0.drew.size _).size _).size _)).c1, (bG.on (((hw0.drew.alloc hw0.drew.size _).alloc (hw0.drew.alloc hw0.drew.size _).size _).alloc ((hw0.drew.alloc hw0.drew.size _).alloc (hw0.drew.alloc hw0.drew.size _).size _).size _)).c2⟩) (fun hSn => ?_)
          clear hK K hSw
          have hSw := hSn
          clear hSn
          try simp [Act.put]
          refine wpAnyH_take (i := 6) (v := .agg #[.int .i64 W, .int .i64 H, .slice q n c, .slice (some ⟨w1.heap.size + 1 + 1, 0, none⟩) n n, .map (some (w1.heap.size + 1)), .slice none 0 0]) rfl (by kernel_rfl) (by kernel_rfl) (by kernel_rfl) (fun _ _ _ h => h) (Or.inl ⟨by rfl, ?_⟩) hSw ?_
          · intro wz hsz
            obtain ⟨z0, z1, z2⟩ := hsz
            go_simp
          try simp [Act.put]
          refine wpAnyH_ready (rs := [8]) (by kernel_rfl) (by simp) ?_
          refine AllReadyH.cons rfl (fun K hK => ?_) AllReadyH.nil
          go_simp
          refine hK.out _ _ (⟨(bG.on (al3_drew w1 _ _ _)).c0, (bG.on (al3_drew w1 _ _ _)).c1, (bG.on (al3_drew w1 _ _ _)).c2⟩) (fun hSn => ?_)
          clear hK K hSw
          have hSw := hSn
          clear hSn
          try simp [Act.put]
          refine wpAnyH_done (by kernel_rfl) ?_ _
          go_wp2_with fail
          go_meet
          case rel =>
            have nb := bx_drew ((bx_new (w := w1) (b := w1.heap.size) (srL W H q n c (w1.heap.size + 1 + 1) (w1.heap.size + 1)) 83 (by simp)).on (al2_keep (w1.alloc (.cells (srL W H q n c (w1.heap.size + 1 + 1) (w1.heap.size + 1)).toArray 83)) (.map #[] 0) (tlsO n)))
            have tb : IP (((w1.alloc (.cells (srL W H q n c (w1.heap.size + 1 + 1) (w1.heap.size + 1)).toArray 83)).alloc (.map #[] 0)).alloc (tlsO n)).drew (w1.heap.size + 1 + 1) (n * 2) (fun _ => 0) := by have := ip_drew ((made_tolls ((w1.alloc (.cells (srL W H q n c (w1.heap.size + 1 + 1) (w1.heap.size + 1)).toArray 83)).alloc (.map #[] 0)) n).below (Below.refl (((w1.alloc (.cells (srL W H q n c (w1.heap.size + 1 + 1) (w1.heap.size + 1)).toArray 83)).alloc (.map #[] 0)).alloc (tlsO n)).heap.size (((w1.alloc (.cells (srL W H q n c (w1.heap.size + 1 + 1) (w1.heap.size + 1)).toArray 83)).alloc (.map #[] 0)).alloc (tlsO n))) (made_tolls ((w1.alloc (.cells (srL W H q n c (w1.heap.size + 1 + 1) (w1.heap.size + 1)).toArray 83)).alloc (.map #[] 0)) n).lt); have e : ((w1.alloc (.cells (srL W H q n c (w1.heap.size + 1 + 1) (w1.heap.size + 1)).toArray 83)).alloc (.map #[] 0)).heap.size = w1.heap.size + 1 + 1 := (by simp); rw [e] at this; exact this
            have lm : LM (((w1.alloc (.cells (srL W H q n c (w1.heap.size + 1 + 1) (w1.heap.size + 1)).toArray 83)).alloc (.map #[] 0)).alloc (tlsO n)).drew (w1.heap.size + 1) 0 (fun _ => false) := by have := lm_made (w1.alloc (.cells (srL W H q n c (w1.heap.size + 1 + 1) (w1.heap.size + 1)).toArray 83)); have e : (w1.alloc (.cells (srL W H q n c (w1.heap.size + 1 + 1) (w1.heap.size + 1)).toArray 83)).heap.size = w1.heap.size + 1 := (by simp); rw [e] at this; exact LM.heap (LM.heap this ((al_keep ((w1.alloc (.cells (srL W H q n c (w1.heap.size + 1 + 1) (w1.heap.size + 1)).toArray 83)).alloc (.map #[] 0)) (tlsO n)).block _ (by simp <;> omega))) rfl
            exact ⟨w1.heap.size, w1.heap.size + 1 + 1, w1.heap.size + 1, rfl, by omega, by omega, by omega, by omega, by omega, by omega, nb, tb, lm, al3_drew w1 _ _ _⟩
  case rest =>
  obtain ⟨Sb, Tb, Mb, rfl, gS, gT, gM, d1, d2, d3, bS, hT, hM, hB1⟩ := hcut
  have hFq : 0 < n → ∃ x o, q = some ⟨x, o, none⟩ ∧ x < w1.heap.size := fun h0 => by
    obtain ⟨x, o, e, hx, _⟩ := HFW.out h0
    exact ⟨x, o, e, by have := hs1.out; omega⟩
  have HF1 : Hid (IL w1 q n f) := IL.below HFW.out hb0
  have bG2 := bG.on hB1
  have y2 := bG2.c2
  have HLM0 : Hid (LpM w1 wc Sb Tb Mb W H q n c f 0) := (⟨hM.congr (fun x => by simp; intros; omega), bS, hT, hB1⟩ : LpM _ _ _ _ _ _ _ _ _ _ _ _)
  clear hmk hmm hw0 bS hT hM hB1 bG2 hf
  go_wp2
  clear y2
  have kfr := fun x w h => free_any W H q n c f x w h hn
  go_loopw [19] (fun s wr => ∃ k : Nat, k ≤ n ∧ s = .int .i64 (k : Int) ∧ LpM w1 wr Sb Tb Mb W H q n c f k) (fun s _ => n - (intOf s).toNat)
  case atStart => exact ⟨0, by omega, rfl, HLM0.out⟩
  case round =>
    obtain ⟨k, hk, rfl, hM, bS, hT, hB1⟩ := hrel
    clear HLM0
    have bG2 := bG.on hB1
    have x0 := bG2.c0
    have x1 := bG2.c1
    have x2 := bG2.c2
    by_cases hlt : k < n
    · have j1 : (k : Int) < (n : Int) := by omega
      have hFr := il_b0 HF1.out hFq hB1
      have kf := fun w h => kfr (k : Int) w h
      have HE : Hid (∀ (b : Bool), frB n f (k : Int) = b → ∀ x : Int, (decide (0 ≤ x) && decide (x < ((k + 1 : Nat) : Int)) && frB n f x) = ((decide (0 ≤ x) && decide (x < (k : Int)) && frB n f x) || (b && decide (x = (k : Int))))) := fun b hb x => (by
        by_cases e : x = (k : Int)
        · subst e
          simp [hb]
          omega
        · have e2 : decide (x < ((k + 1 : Nat) : Int)) = decide (x < (k : Int)) := by simp; omega
          rw [e2]
          simp [e] : _ = _)
      generalize hfb : frB n f (k : Int) = b at kf
      have HFB : Hid (frB n f (k : Int) = b) := hfb
      clear hfb kfr
      have hSl := bS.lt
      have hTl := hT.lt
      have hMl := hM.lt
      go_wp2_with fail
      refine (kf _ hFr).mono ?_
      rintro e9 w4 ⟨rfl, hb4⟩
      have M4 := hM.heap (hb4.block Mb hMl)
      have S4 := bS.on hb4
      have T4 := hT.below hb4 hTl
      have B4 := stepA hB1 hb4
      have zs := hb4.size
      clear x0 x1 x2 bG2 hFr kf hM bS hT hB1 hb4
      cases b with
      | false =>
        have M5 : LM w4 Mb (k + 1) (fun x => decide (0 ≤ x) && decide (x < ((k + 1 : Nat) : Int)) && frB n f x) := (M4.congr (fun x => by rw [HE.out false HFB.out x]; simp)).mono (by omega)
        have HL : Hid (LpM w1 w4 Sb Tb Mb W H q n c f (k + 1)) := (⟨M5, S4, T4, B4⟩ : LpM _ _ _ _ _ _ _ _ _ _ _ _)
        clear M4 M5 S4 T4 B4 HE HFB
        go_wp2
        exact ⟨⟨k + 1, by omega, by go_num, HL.out⟩, by simp [intOf]; omega⟩
      | true =>
        obtain ⟨w5, hup, M5, hturn⟩ := M4.store (by omega) (x := (k : Int)) (wf_small (by omega) (by omega))
        have hgr := hturn.grown
        have ot : ∀ z, z < w4.heap.size → z ≠ Mb → w5.heap[z]? = w4.heap[z]? := fun z h1 h2 => hgr.block z h1 (fun e => h2 (by injection e))
        have M6 : LM w5 Mb (k + 1) (fun x => decide (0 ≤ x) && decide (x < ((k + 1 : Nat) : Int)) && frB n f x) := M5.congr (fun x => by rw [HE.out true HFB.out x]; simp)
        have S5 := S4.heap (ot Sb (by omega) (Ne.symm d2)) hgr.size
        have eT := ot Tb (by omega) d3
        have T5 : IP w5 Tb (n * 2) (fun _ => 0) := ⟨Nat.lt_of_lt_of_le T4.lt hgr.size, fun i hi => (cell_same eT i).trans (T4.c i hi), fun j => (frozen_same eT j).trans (T4.fz j)⟩
        have B5 : Below w1.heap.size w1 w5 := B4.trans ⟨hgr.os, hgr.tape, hgr.output, hgr.size, fun z hz => ot z (by have := B4.size; omega) (by omega)⟩
        have HL : Hid (LpM w1 w5 Sb Tb Mb W H q n c f (k + 1)) := (⟨M6, S5, T5, B5⟩ : LpM _ _ _ _ _ _ _ _ _ _ _ _)
        have u4 := S4.c 4 (by simp)
        simp at u4
        clear M4 M5 M6 S4 T4 B4 HE HFB hturn hgr ot S5 eT T5 B5
        go_wp2
        exact ⟨⟨k + 1, by omega, by go_num, HL.out⟩, by simp [intOf]; omega⟩
    · have hke : k = n := by omega
      subst hke
      have j1 : ¬ (k : Int) < (k : Int) := by omega
      clear x0 x1 x2 bG2 kfr bG
      have hSl := bS.lt
      have hsw := hB1.size
      have kput := put_st (tt := tt) (st := st) htn bS hT hM d1 d2 d3
      have HB1 : Hid (Below w1.heap.size w1 wr) := hB1
      have HNB : Hid (w1.heap.size ≤ wr.heap.size) := hsw
      have HBR : Hid _ := bR
      have HN : Hid (1 ≤ k ∧ k ≤ 256) := hn2
      clear hM bS hT hB1 hsw bR hn2
      go_wp2_with fail
      refine kput.mono ?_
      rintro e9 w4 ⟨rfl, hM4, hQ4⟩
      have HMS : Hid _ := hM4
      have B4 : Hid (Below w1.heap.size w1 w4) := Below.trans HB1.out (hQ4 _ gS gT gM)
      clear kput hQ4 hM4
      go_wp2_with fail
      refine (take_ms w4 _ Sb Tb Mb W H q k c tt st f _ HMS.out).mono ?_
      rintro e9 w5 ⟨y, b, rfl, hN5, hQ5⟩
      have B5 : Hid (Below w1.heap.size w1 w5) := Below.trans B4.out (Ms.below HMS.out hQ5 gS gT gM)
      have HLQ : Hid (LpQ w1 wr.heap.size Sb Tb Mb W H q k c tt st f (10 * k + 1) (.pointer (some ⟨w5.heap.size, 0, none⟩)) (.bool b) (w5.alloc (.cells #[.int .i64 y.p, .int .i64 y.a, .int .i64 y.b] 117))) := lq_new hN5 B5.out
      clear HMS B4 B5 hN5 hQ5 HB1 hSl
      go_wp2
      generalize wr.heap.size = base at HLQ HNB
      go_loopg [7, 8] (10 * k + 1) (fun g s7 s8 wx => LpQ w1 base Sb Tb Mb W H q k c tt st f g s7 s8 wx)
      case atStart => exact HLQ.out
      case round =>
        obtain ⟨V, y, b, rfl, rfl, bV, hnV, hV, hN, hB⟩ := hrel
        clear HLQ
        have v0 := bV.c0
        have v1 := bV.c1
        have v2 := bV.c2
        cases b with
        | true =>
          have kse := settle_ns _ _ Sb Tb Mb w1.heap.size W H q k c tt st f gk y hsz HHe.out HST0.out HTF.out hFq gS gT gM hN (il_b0 HF1.out hFq hB)
          obtain ⟨s1, s2, s3, s4, s5⟩ := hN.sb
          have HNS : Hid (Ns wr base Sb Tb Mb W H q k c tt st f gk true y) := hN
          have HBL : Hid (Below w1.heap.size w1 wr) := hB
          clear hN hB s5
          go_wp2_with fail
          refine kse.mono ?_
          rintro e9 w6 ⟨rfl, hM6, hg1, hQ6⟩
          have B6 : Hid (Below w1.heap.size w1 w6) := Below.trans HBL.out (Ns.below HNS.out hQ6 gS gT gM)
          have bV6 := bV.sq hQ6 (by omega) (by omega) (by omega) hnV
          obtain ⟨t1, t2, t3, t4, t5⟩ := hM6.sb
          have K7 := al_keep w6 (.cells #[.int .i64 y.p, .int .i64 y.a, .int .i64 y.b] 117)
          have M7 : Hid (Ms (w6.alloc (.cells #[.int .i64 y.p, .int .i64 y.a, .int .i64 y.b] 117)) base Sb Tb Mb W H q k c tt st f (gk - 1)) := hM6.on K7
          have B7 : Hid (Below w1.heap.size w1 (w6.alloc (.cells #[.int .i64 y.p, .int .i64 y.a, .int .i64 y.b] 117))) := stepA B6.out K7
          have b7 := bx_new (w := w6) (ovL y) 117 rfl
          have n7 := nw_hO (by omega) t5 K7
          have HG1 : Hid (1 ≤ gk) := hg1
          have HB7 : Hid _ := b7
          have HN7 : Hid _ := n7
          clear v0 v1 v2 bV kse HNS HBL hQ6 hM6 B6 K7 t5 hg1 b7 n7
          have v0 := bV6.c0
          have v1 := bV6.c1
          have v2 := bV6.c2
          clear bV6
          go_wp2_with fail
          refine (take_ms _ _ Sb Tb Mb W H q k c tt st f _ M7.out).mono ?_
          rintro e9 w8 ⟨y2, b2, rfl, hN8, hQ8⟩
          have B8 : Hid (Below w1.heap.size w1 w8) := Below.trans B7.out (Ms.below M7.out hQ8 gS gT gM)
          have b8 := Bx.sq HB7.out hQ8 (by omega) (by omega) (by omega) HN7.out
          have n8 := hQ8.apart (Bx.lt HB7.out) HN7.out
          have HLQ : Hid (LpQ w1 base Sb Tb Mb W H q k c tt st f (gk - 1) (.pointer (some ⟨w6.heap.size, 0, none⟩)) (.bool b2) (st30 w8 w6.heap.size y2)) := lq_old hN8 B8.out HNB.out b8 t4 n8
          have l8 := b8.lt
          have z0 := b8.c0
          have z1 := b8.c1
          have z2 := b8.c2
          have zf := b8.fz
          clear v0 v1 v2 M7 B7 HB7 HN7 hN8 hQ8 B8 b8 n8
          go_wp2
          go_roundg (gk - 1)
          case measure => have := HG1.out; omega
          case rel => exact HLQ.out
        | false =>
          obtain ⟨p9, cp, A, B, D, TA, TB, L, hc, hc5, e1, e2, e3, e4, e5, e6⟩ := end_ns hN hsz HST0.out htn
          have bR9 := Bx.below HBR.out hB (by have := hs1.out; omega)
          have a0 := hc 0 (by omega)
          have a1 := hc 1 (by omega)
          have a2 := hc 2 (by omega)
          have a3 := hc 3 (by omega)
          have a4 := hc 4 (by omega)
          simp only [List.getElem?_cons_succ, List.getElem?_cons_zero] at a0 a1 a2 a3 a4
          have HA := fun u0 u1 u2 u3 u4 u5 => ans_sch (w0 := w) (W := W) (H := H) (q := q) (c := c) (R := w.heap.size + 1) (pv := p9) (cv := cp) e1 e2 e3 e4 e5 e6 (by have := hs1.out; omega) (by have := hs1.out; omega) (by omega) (Below.trans hb0 (hB.mono (by have := hs1.out; omega))) u0 u1 u2 u3 u4 u5
          have HBE := fun u0 u1 u2 u3 u4 u5 => bx_st60 bR9 u0 u1 u2 u3 u4 u5
          have r0 := bR9.c 0 (by simp)
          have r1 := bR9.c 1 (by simp)
          have r2 := bR9.c 2 (by simp)
          have r3 := bR9.c 3 (by simp)
          have r4 := bR9.c 4 (by simp)
          have r5 := bR9.c 5 (by simp)
          have rf := bR9.fz
          simp only [List.getElem?_cons_succ, List.getElem?_cons_zero] at r0 r1 r2 r3 r4 r5
          have HA1 : Hid _ := HA
          have HBE1 : Hid _ := HBE
          clear hc e1 e2 e3 e4 e5 e6 hN hB bV v0 v1 v2 hnV HA HBE bR9
          go_wp2
          refine ret_srch Try.results42 rfl (HBE1.out _ _ _ _ _ _) rfl ?_
          exact HA1.out _ _ _ _ _ _
end Go.Proofs.Ytfciecoigfnnhaa
