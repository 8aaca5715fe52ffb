/- slices.Insert of bookings (tools/gen_bln.py). -/
import Derived.Test.YtdpblholoogikaaBlN
import Derived.BigRegion
namespace Go.Proofs.Ytdpblholoogikaa
open Go.RowKit
set_option maxHeartbeats 8000000 in
set_option maxRecDepth 20000 in
theorem insBk (g cc n k : Nat) (F : Nat → Int) (a f t u : Int) (vb base : Nat) (w : World) (hn : n ≤ 40) (hk : k ≤ n) (hb0 : base ≤ w.heap.size) (hO : OwF w base (.slice (some ⟨g, 0, none⟩) n cc) n F)
    (hvh : w.heap[vb]? = some (.cells #[.int .i64 a, .int .i64 f, .int .i64 t, .int .i64 u] 25 (0, 0))) (hvg : vb ≠ g) :
    Calls Try.prog 20 #[.slice (some ⟨g, 0, none⟩) n cc, .int .i64 (k : Int), .slice (some ⟨vb, 0, none⟩) 1 1] w fun e w' => AnsIn w w' e base (n + 1) (insF F k a f t u) := by
  obtain ⟨ib, hib, hz0, hz1, hz2⟩ := infoBkB
  have hsz4 : (Try.prog.info? 25).map (·.size) = some 4 := by rw [hib]; simp [hz1]
  have hvs : ∀ j v, ([.int .i64 a, .int .i64 f, .int .i64 t, .int .i64 u] : List Value)[j]? = some v → w.cell? ⟨vb, j, none⟩ = some v := fun j v hj => by
    unfold World.cell?
    simp only [hvh]
    simpa using hj
  have hvs2 : ∀ j v, ([.int .i64 a, .int .i64 f, .int .i64 t, .int .i64 u] : List Value)[j]? = some v → w.cell? ((⟨vb, 0, none⟩ : Addr).add j) = some v := fun j v hj => by
    rw [bk_add, Nat.zero_add]; exact hvs j v hj
  have h1v : ∀ v ∈ ([.int .i64 a, .int .i64 f, .int .i64 t, .int .i64 u] : List Value), v.oneCell' = true := fun v hv => by
    simp at hv
    rcases hv with rfl | rfl | rfl | rfl <;> rfl
  have hvlt : vb < w.heap.size := (Array.getElem?_eq_some_iff.1 hvh).1
  obtain ⟨hl, h0 | ⟨g', cap', cur, h1, hbg, hgh, hncc, hccm, hcs, htk⟩⟩ := id hO
  · cases h0.1
  obtain ⟨rfl, rfl⟩ : g = g' ∧ cc = cap' := by simpa using h1
  have hglt : g < w.heap.size := (Array.getElem?_eq_some_iff.1 hgh).1
  have hgc : ∀ j, j < n * 4 → w.cell? ⟨g, j, none⟩ = some (.int .i64 (F j)) := fun j hj => by
    rw [World.ownsRow.cellAt hO j (by omega)]; exact vL_get hj
  have hgs : ∀ j, j < cc * 4 → (w.cell? ⟨g, j, none⟩).isSome = true := fun j hj => by
    unfold World.cell?
    simp only [hgh]
    simp [hcs, hj]
  have hgf : ∀ j, w.frozen? ⟨g, j, none⟩ = false := fun j => World.ownsRow.frozenAt hO j
  have k0 : (0 : Int) ≤ (k : Int) := by omega
  have k1 : (k : Int) ≤ (n : Int) := by omega
  have kcc : (k : Int) ≤ (cc : Int) := by omega
  by_cases hkn : k = n
  · subst hkn
    have e1 : ((k : Int) == (k : Int)) = true := by simp
    have hbO := hO
    go_enter Try.func20, Try.ntmps20
    go_wp2_with (at_builtin; refine wpList_append_own _ rfl _ _ 23 rfl base 25 ib (bkv 0 0 0 0) 4 32 Try.underlying23 hib hz0 hz1 hz2 rfl (by decide) (.slice (some ⟨g, 0, none⟩) k cc) k (vL F (k * 4)) rfl hbO ⟨vb, 0, none⟩ 1 1 [.int .i64 a, .int .i64 f, .int .i64 t, .int .i64 u] rfl rfl hvs2 h1v (by unfold maxLen; omega) (by omega) (by omega) ?_; intro vN w6 hown6 hgrow6 hnil6)
    all_goals
      rw [ins_end] at hown6
      have hsome : ∃ g9 c9, vN = .slice (some ⟨g9, 0, none⟩) (k + 1) c9 ∧ base ≤ g9 ∧ k + 1 ≤ c9 := by
        obtain ⟨_, ⟨h1, h2⟩ | ⟨g9, cap, cur, h1, h2, _, h3, _⟩⟩ := hown6
        · omega
        · exact ⟨g9, cap, h1, h2, h3⟩
      obtain ⟨g9, c9, rfl, hb9, hc9⟩ := hsome
      have HP : Hid (IP w6 g9 ((k + 1) * 4) (insF F k a f t u)) := ⟨(World.ownsRow.lt hown6 g9 rfl).2, fun i hi => by rw [World.ownsRow.cellAt hown6 i (by omega)]; exact vL_get hi, fun j => World.ownsRow.frozenAt hown6 j⟩
      have HB : Hid (Below base w w6) := ⟨hgrow6.os, hgrow6.tape, hgrow6.output, hgrow6.size, fun x hx => hgrow6.block x (by omega) (by intro e; have e9 : some x = some g := e; injection e9 with e8; omega)⟩
      clear hown6 hgrow6 hnil6 hO hbO
      go_ret
      exact ⟨g9, c9, rfl, hb9, hc9, HP.out, HB.out⟩
  · have e1 : ((k : Int) == (n : Int)) = false := by simp; omega
    have hkl : k < n := by omega
    by_cases hroom : cc < n + 1
    · have e2 : (cc : Int) < (n : Int) + 1 := by omega
      have hold : (Builtin.firstCells ib.size k (.slice (some ⟨g, 0, none⟩) k cc)).run Try.prog w.drew = .ok (vL F (k * 4)).toArray w.drew := by
        rw [hz1]
        exact run_firstCells_some w.drew 4 k ⟨g, 0, none⟩ k cc (vL F (k * 4)) (vL_len _ _) (fun j v hj => by
          obtain ⟨hj1, rfl⟩ := vL_at hj
          rw [bk_add, Nat.zero_add]
          exact hgc j (by omega))
      have hik : k + (n + 1 - k) = n + 1 := by omega
      have hkk : (n : Int) + 1 - (k : Int) = ((n + 1 - k : Nat) : Int) := by omega
      have hrz : ∀ ty, (Builtin.append_ #[23, 3] ty #[.slice (some ⟨g, 0, none⟩) k cc, .int .i64 ((n : Int) + 1 - (k : Int))]).run Try.prog w =
          .ok (.slice (some ⟨w.heap.size, 0, none⟩) (n + 1) (grownCap w (n + 1) cc 25)) (w.drew.alloc (.cells ((vL F (k * 4)).toArray ++ Builtin.zeroCells (bkv 0 0 0 0).cells (n + 1 - k) ++ Builtin.zeroCells (bkv 0 0 0 0).cells (grownCap w (n + 1) cc 25 - (n + 1))) 25)) := fun ty => by
        have h := Lib.run_append_grow_zeros w 23 3 ty 25 ib _ .i64 .i64 Try.underlying23 Try.underlying3 hib hz0 (some ⟨g, 0, none⟩) k cc (vL F (k * 4)) hold (n + 1 - k) (by omega) (by omega) (by omega) (by omega) (by rw [hz2]; omega) (by rw [hz2, hik]; exact growslice_fits hroom (by omega))
        rw [hik] at h
        rw [hkk]
        exact h
      obtain ⟨G, hG⟩ : ∃ G, G = grownCap w (n + 1) cc 25 := ⟨_, rfl⟩
      have hGn : n + 1 ≤ G := by rw [hG]; exact grownCap_ge w _ _ _
      have hG63 : G ≤ 9223372036854775807 := by
        have := grownCap_le_maxLen w (n + 1) cc 25 (by unfold maxLen; omega)
        rw [← hG] at this
        unfold maxLen at this
        omega
      obtain ⟨ROW, hROW⟩ : ∃ ROW : Array Value, ROW = (vL F (k * 4)).toArray ++ Builtin.zeroCells (bkv 0 0 0 0).cells (n + 1 - k) ++ Builtin.zeroCells (bkv 0 0 0 0).cells (G - (n + 1)) := ⟨_, rfl⟩
      rw [← hG] at hrz
      rw [← hROW] at hrz
      have hRs : ROW.size = G * 4 := by
        rw [hROW]
        simp [Builtin.zeroCells, Value.cells, vL_len]
        omega
      have hRlo : ∀ j, j < k * 4 → ROW[j]? = some (.int .i64 (F j)) := fun j hj => by
        rw [hROW, Array.append_assoc, Array.getElem?_append_left (by simp [vL_len]; exact hj)]
        simpa using vL_get (F := F) hj
      clear hROW
      obtain ⟨W1, hW1⟩ : ∃ W1, W1 = w.drew.alloc (.cells ROW 25) := ⟨_, rfl⟩
      rw [← hW1] at hrz
      have gk : (k : Int) ≤ (n : Int) + 1 := by omega
      have HRs : Hid (ROW.size = G * 4) := hRs
      have HW1 : Hid (W1 = w.drew.alloc (.cells ROW 25)) := hW1
      have hci : ¬ (cc = k) := by omega
      have hGi : ¬ (G = k) := by omega
      have hGi1 : ¬ (G = k + 1) := by omega
      have hbN : g ≠ w.heap.size := by omega
      have hN : ∀ j, j < (n + 1) * 4 → (W1.cell? ⟨w.heap.size, j, none⟩).isSome = true := fun j hj => by
        rw [HW1.out, World.cell?_alloc_at (w := w.drew) ROW _ w.heap.size j rfl, Array.getElem?_eq_getElem (by rw [HRs.out]; omega)]; rfl
      have hNlo : ∀ j, j < k * 4 → W1.cell? ⟨w.heap.size, j, none⟩ = some (.int .i64 (F j)) := fun j hj => by
        rw [HW1.out, World.cell?_alloc_at (w := w.drew) ROW _ w.heap.size j rfl]; exact hRlo j hj
      have hNf : ∀ j, W1.frozen? ⟨w.heap.size, j, none⟩ = false := fun j => by rw [HW1.out]; exact World.frozen?_alloc_at (w := w.drew) ROW _ w.heap.size j rfl
      have hOld : ∀ x j v, x < w.heap.size → w.cell? ⟨x, j, none⟩ = some v → W1.cell? ⟨x, j, none⟩ = some v := fun x j v hx h => by rw [HW1.out, World.cell?_alloc_past (w := w.drew) _ x j hx]; exact h
      have hcpA : ∀ (W : World), (∀ x, W.cell? x = W1.cell? x) → (∀ x, W.frozen? x = W1.frozen? x) → ∀ ty dc, (Builtin.copy_ #[23, 23] ty #[.slice (some ⟨w.heap.size, k * 4, none⟩) (n + 1 - k) dc, .slice (some ⟨vb, 0, none⟩) 1 1]).run Try.prog W = .ok (goInt 1) (W.setCells w.heap.size (k * 4) [.int .i64 a, .int .i64 f, .int .i64 t, .int .i64 u]) := fun W hWc hWf ty dc => by
        have hm : Nat.min 1 (n + 1 - k) = 1 := Nat.min_eq_left (by omega)
        have := run_copy_sz (P := Try.prog) W 23 23 ty 25 w.heap.size (k * 4) (n + 1 - k) dc ⟨vb, 0, none⟩ 1 1 4 [.int .i64 a, .int .i64 f, .int .i64 t, .int .i64 u] Try.underlying23 hsz4 (by rw [hm]; rfl)
          (fun j v hj => by rw [bk_add, Nat.zero_add, hWc]; exact hOld vb j v hvlt (hvs j v hj))
          (fun j hj => by rw [hWc]; exact hN _ (by have : j < 4 := hj; omega)) (fun j _ => by rw [hWf]; exact hNf _) h1v
        rw [hm] at this
        exact this
      have hcpB : ∀ (W : World), (∀ x, W.cell? x = (W1.setCells w.heap.size (k * 4) [.int .i64 a, .int .i64 f, .int .i64 t, .int .i64 u]).cell? x) → (∀ x, W.frozen? x = (W1.setCells w.heap.size (k * 4) [.int .i64 a, .int .i64 f, .int .i64 t, .int .i64 u]).frozen? x) → ∀ ty dc sc, (Builtin.copy_ #[23, 23] ty #[.slice (some ⟨w.heap.size, (k + 1) * 4, none⟩) (n - k) dc, .slice (some ⟨g, k * 4, none⟩) (n - k) sc]).run Try.prog W = .ok (goInt ((n - k : Nat) : Int)) (W.setCells w.heap.size (k * 4 + 4) (dropL F k n)) := fun W hWc hWf ty dc sc => by
        have hm : Nat.min (n - k) (n - k) = n - k := Nat.min_eq_left (Nat.le_refl _)
        rw [show (k + 1) * 4 = k * 4 + 4 by omega]
        have := run_copy_sz (P := Try.prog) W 23 23 ty 25 w.heap.size (k * 4 + 4) (n - k) dc ⟨g, k * 4, none⟩ (n - k) sc 4 (dropL F k n) Try.underlying23 hsz4 (by rw [hm]; exact (vL_len _ _).symm)
          (fun j v hj => by
            obtain ⟨hj1, rfl⟩ := vL_at hj
            rw [bk_add, hWc, World.cell?_setCells_out _ _ _ _ _ (fun h _ => absurd h hbN)]
            exact hOld g _ _ hglt (hgc _ (by omega)))
          (fun j hj => by
            have hj2 : j < (n - k) * 4 := by rw [show (dropL F k n).length = (n - k) * 4 from vL_len _ _] at hj; exact hj
            rw [hWc]; exact Go.Proofs.isSome_setCells _ _ _ _ (fun i hi => hN _ (by have : i < 4 := hi; omega)) _ (hN _ (by omega)))
          (fun j _ => by rw [hWf, World.frozen?_setCells]; exact hNf _) (fun v hv => vL_one _ _ v hv)
        rw [hm] at this
        exact this
      have HR : Hid ((∀ j, j < (n + 1) * 4 → ((W1.setCells w.heap.size (k * 4) [.int .i64 a, .int .i64 f, .int .i64 t, .int .i64 u]).setCells w.heap.size (k * 4 + 4) (dropL F k n)).cell? ⟨w.heap.size, j, none⟩ = some (.int .i64 (insF F k a f t u j)))) := (ins_read (a := a) (f := f) (t := t) (u := u) (Nat.le_of_lt hkl) hNlo hN).1
      have HNf : Hid (∀ j, W1.frozen? ⟨w.heap.size, j, none⟩ = false) := hNf
      clear hkk hik hold hG hRs hW1 hgs hgc hvs hvs2 hO hl htk hcs hgh hvh h1 hkn hN hNlo hNf hOld hRlo
      go_enter Try.func20, Try.ntmps20
      go_upto_region 11 with (first
        | (at_builtin; refine Lib.wpList_append_run _ rfl _ _ _ _ rfl _ _ rfl rfl _ _ (hrz _) ?_)
        | (at_builtin; refine wpList_copy_runI _ rfl _ _ 23 23 rfl _ _ rfl rfl (hcpA _ (fun _ => rfl) (fun _ => rfl) _ _) ?_))
      have gk2 : (0 : Int) ≤ (k : Int) + 1 := by omega
      have gk3 : (k : Int) + 1 ≤ (n : Int) + 1 := by omega
      have gw1 : IntKind.i64.wrap ((k : Int) + 1) = (k : Int) + 1 := by rw [IntKind.wrap_i64]; omega
      have gt1 : ((k : Int) + 1).toNat = k + 1 := by omega
      have hcp9 := hcpB ((W1.setCells w.heap.size (k * 4) [.int .i64 a, .int .i64 f, .int .i64 t, .int .i64 u]).drew) (fun _ => rfl) (fun _ => rfl) 3 (G - (k + 1)) (cc - k)
      go_region
      go_wp2
      go_ret
      refine ⟨w.heap.size, G, rfl, hb0, hGn, ⟨?_, fun j hj => by rw [← Go.Proofs.drew_setCells]; exact HR.out j hj, fun j => ?_⟩, ?_⟩
      · rw [(sc_heap w.heap.size _ _ _ (w.heap.size + 1) (by omega)).2]
        show w.heap.size < (W1.setCells _ _ _).heap.size
        rw [(sc_heap w.heap.size _ _ _ (w.heap.size + 1) (by omega)).2, HW1.out]
        show w.heap.size < (w.drew.heap.push _).size
        simp
      · rw [World.frozen?_setCells]
        show (W1.setCells _ _ _).frozen? _ = false
        rw [World.frozen?_setCells]; exact HNf.out j
      · have hB1 : Below w.heap.size w W1 := by rw [HW1.out]; exact ((Below.refl _ _).drew).alloc (Nat.le_refl _) _
        have hB2 : Below w.heap.size w ((W1.setCells w.heap.size (k * 4) [.int .i64 a, .int .i64 f, .int .i64 t, .int .i64 u]).drew) := (hB1.grown (sc_grown w.heap.size (k * 4) _ W1) hB1.size (fun q hq => by injection hq with e9; omega)).drew
        exact (hB2.grown (sc_grown w.heap.size _ _ _) hB2.size (fun q hq => by injection hq with e9; omega)).mono hb0
    · have e2 : ¬ (cc : Int) < (n : Int) + 1 := by omega
      have hci : ¬ (cc = k) := by omega
      have hci1 : ¬ (cc = k + 1) := by omega
      have gk : (k : Int) ≤ (n : Int) + 1 := by omega
      have gn0 : (0 : Int) ≤ (n : Int) + 1 := by omega
      have gn1 : (n : Int) + 1 ≤ (cc : Int) := by omega
      have gk2 : (0 : Int) ≤ (k : Int) + 1 := by omega
      have gk3 : (k : Int) + 1 ≤ (n : Int) + 1 := by omega
      have gw1 : IntKind.i64.wrap ((k : Int) + 1) = (k : Int) + 1 := by rw [IntKind.wrap_i64]; omega
      have gt1 : ((k : Int) + 1).toNat = k + 1 := by omega
      have hov : ∀ lb cb, (callFunc 32 #[.slice (some ⟨vb, 0, none⟩) 1 1, .slice (some ⟨g, (k + 1) * 4, none⟩) lb cb]).run Try.prog w = .ok (.value (.bool false)) w := fun lb cb => by
        rw [run_callFunc_extern Try.func32 (by kernel_rfl) (by kernel_rfl) (by kernel_rfl) (e := Extern.SlicesOverlaps.overlaps #[23, 23] #[4]) (by kernel_rfl),
          Lib.run_overlaps_apart w 23 4 25 Try.underlying23 4 (fun w => by simp [sizeOf, typeInfo, hib, hz1]) ⟨vb, 0, none⟩ ⟨g, (k + 1) * 4, none⟩ 1 1 lb cb hvg 25 25 4 cur.size (by unfold World.shape?; simp [hvh]) (by unfold World.shape?; simp [hgh]) (by rw [hcs]; omega) (by unfold World.frozen?; simp [hvh]) (by unfold World.frozen?; simp [hvh])]
        rfl
      have hcp1 : (Builtin.copy_ #[23, 23] 3 #[.slice (some ⟨g, (k + 1) * 4, none⟩) (n - k) (cc - (k + 1)), .slice (some ⟨g, k * 4, none⟩) (n + 1 - k) (cc - k)]).run Try.prog w.drew = .ok (goInt ((n - k : Nat) : Int)) (w.drew.setCells g (k * 4 + 4) (dropL F k n)) := by
        have hm : Nat.min (n + 1 - k) (n - k) = n - k := Nat.min_eq_right (by omega)
        rw [show (k + 1) * 4 = k * 4 + 4 by omega]
        have := run_copy_sz (P := Try.prog) w.drew 23 23 3 25 g (k * 4 + 4) (n - k) (cc - (k + 1)) ⟨g, k * 4, none⟩ (n + 1 - k) (cc - k) 4 (dropL F k n) Try.underlying23 hsz4 (by rw [hm]; exact (vL_len _ _).symm)
          (fun j v hj => by
            obtain ⟨hj1, rfl⟩ := vL_at hj
            rw [bk_add]
            exact hgc _ (by omega))
          (fun j hj => by
            have hj2 : j < (n - k) * 4 := by rw [show (dropL F k n).length = (n - k) * 4 from vL_len _ _] at hj; exact hj
            exact hgs _ (by omega))
          (fun j _ => hgf _) (fun v hv => vL_one _ _ v hv)
        rw [hm] at this
        exact this
      obtain ⟨W1, hW1⟩ : ∃ W1, W1 = w.drew.setCells g (k * 4 + 4) (dropL F k n) := ⟨_, rfl⟩
      have HW1 : Hid (W1 = w.drew.setCells g (k * 4 + 4) (dropL F k n)) := hW1
      have hs1 : ∀ j, j < cc * 4 → (W1.cell? ⟨g, j, none⟩).isSome = true := fun j hj => by
        rw [hW1]
        refine Go.Proofs.isSome_setCells g _ _ _ (fun i hi => ?_) j (hgs j hj)
        have hi2 : i < (n - k) * 4 := by rw [show (dropL F k n).length = (n - k) * 4 from vL_len _ _] at hi; exact hi
        exact hgs _ (by omega)
      have hcp2 : (Builtin.copy_ #[23, 23] 3 #[.slice (some ⟨g, k * 4, none⟩) (n + 1 - k) (cc - k), .slice (some ⟨vb, 0, none⟩) 1 1]).run Try.prog W1 = .ok (goInt 1) (W1.setCells g (k * 4) [.int .i64 a, .int .i64 f, .int .i64 t, .int .i64 u]) := by
        have hm : Nat.min 1 (n + 1 - k) = 1 := Nat.min_eq_left (by omega)
        have := run_copy_sz (P := Try.prog) W1 23 23 3 25 g (k * 4) (n + 1 - k) (cc - k) ⟨vb, 0, none⟩ 1 1 4 [.int .i64 a, .int .i64 f, .int .i64 t, .int .i64 u] Try.underlying23 hsz4 (by rw [hm]; rfl)
          (fun j v hj => by rw [bk_add, Nat.zero_add, hW1, World.cell?_setCells_out g _ _ _ _ (fun h _ => absurd h hvg)]; exact hvs j v hj)
          (fun j hj => hs1 _ (by have : j < 4 := hj; omega)) (fun j _ => by rw [hW1, World.frozen?_setCells]; exact hgf _) h1v
        rw [hm] at this
        exact this
      have HR : Hid (∀ j, j < (n + 1) * 4 → (W1.setCells g (k * 4) [.int .i64 a, .int .i64 f, .int .i64 t, .int .i64 u]).cell? ⟨g, j, none⟩ = some (.int .i64 (insF F k a f t u j))) := by
        rw [hW1]
        exact (ins_read (w := w.drew) (a := a) (f := f) (t := t) (u := u) (Nat.le_of_lt hkl) (fun j hj => hgc j (by omega)) (fun j hj => hgs j (by omega))).2
      have HF : Hid (∀ j, w.frozen? ⟨g, j, none⟩ = false) := hgf
      rw [← hW1] at hcp1
      clear hW1 hgs hgc hvs hvs2 hO hl htk hcs hgh hvh h1 hkn hs1 hgf
      go_enter Try.func20, Try.ntmps20
      go_upto_region 15 with (simp only [hov])
      go_region
      go_wp2_with (at_builtin; refine wpList_copy_runI _ rfl _ _ 23 23 rfl _ _ rfl rfl hcp2 ?_)
      go_ret
      refine ⟨g, cc, rfl, hbg, by omega, ⟨?_, HR.out, fun j => ?_⟩, ?_⟩
      · rw [(sc_heap g _ _ _ (g + 1) (by omega)).2, HW1.out, (sc_heap g _ _ _ (g + 1) (by omega)).2]
        exact hglt
      · rw [World.frozen?_setCells, HW1.out, World.frozen?_setCells]; exact HF.out j
      · have hB1 : Below base w W1 := by
          rw [HW1.out]
          have h9 := sc_grown g (k * 4 + 4) (dropL F k n) w.drew
          exact ⟨h9.os, h9.tape, h9.output, h9.size, fun x hx => h9.block x (show x < w.heap.size by omega) (by intro e; injection e with e9; omega)⟩
        have h9 := sc_grown g (k * 4) [.int .i64 a, .int .i64 f, .int .i64 t, .int .i64 u] W1
        have hs9 := hB1.size
        exact hB1.trans ⟨h9.os, h9.tape, h9.output, h9.size, fun x hx => h9.block x (by omega) (by intro e; injection e with e9; omega)⟩
end Go.Proofs.Ytdpblholoogikaa
