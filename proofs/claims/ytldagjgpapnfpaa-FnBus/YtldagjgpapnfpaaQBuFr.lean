/- BusFine's states, one by one, and their limits. -/
import Derived.Test.YtldagjgpapnfpaaQBuFm
import Derived.Test.YtldagjgpapnfpaaQBuAl
import Derived.Test.YtldagjgpapnfpaaQByCp
import Derived.Test.YtldagjgpapnfpaaQBuO
import Derived.BigQuiet
namespace Go.Proofs.Ytldagjgpapnfpaa
open Go.RowKit
/-- the states while what was sent is looked at -/
structure FnP (t : Tks) (n : Nat) (W : Int) (L : Nat) (F : Nat → FS) (X Y Z : Nat → Int) (G : Nat → Bool) : Prop where
  s0 : F 0 = ⟨fun _ => 0, t.er, fun _ => 0, -1⟩
  st : ∀ q, q < L → F (q + 1) = fsS W (F q) (X q, Y q, Z q, G q)
  gd : ∀ q, q < L → GdX t n W (F q) (X q, Y q, Z q, G q) ∧ X q ≤ 1000
  bd : ∀ q, q ≤ L → ∀ i, i < n → (0 ≤ (F q).ER i ∧ (F q).ER i ≤ 255) ∧ (F q).AT i ≤ q ∧ 0 ≤ (F q).US i ∧ (F q).US i ≤ (q : Int)
  la : ∀ q, q ≤ L → -1 ≤ (F q).last ∧ (F q).last ≤ 1000
theorem us_bd {W rr : Int} {f : FS} {i q : Nat} (h : 0 ≤ f.US i ∧ f.US i ≤ (q : Int)) : 0 ≤ usW W rr f i ∧ usW W rr f i ≤ (q : Int) := by
  unfold usW
  split
  · omega
  · exact h
theorem fnP_of {t : Tks} {n r : Nat} {W : Int} {s : BS} (h : FsOk t n W r s) (hr : r ≤ 1000) (he : ∀ i, i < n → 0 ≤ t.er i ∧ t.er i ≤ 255) : FnP t n W s.out.length (fun q => fsL t W (s.out.take q)) (sn1 s.out) (sn2 s.out) (sn3 s.out) (sn4 s.out) := by
  have hx : ∀ q, q < s.out.length → s.out[q]? = some (sn1 s.out q, sn2 s.out q, sn3 s.out q, sn4 s.out q) := fun q hq => by
    rw [List.getElem?_eq_getElem hq]
    unfold sn1 sn2 sn3 sn4
    simp [List.getD, List.getElem?_eq_getElem hq]
  have hst : ∀ q, q < s.out.length → fsL t W (s.out.take (q + 1)) = fsS W (fsL t W (s.out.take q)) (sn1 s.out q, sn2 s.out q, sn3 s.out q, sn4 s.out q) := fun q hq => by
    rw [List.take_add_one, hx q hq]
    exact fsL_app t W _ _
  have hgd : ∀ q, q < s.out.length → GdX t n W (fsL t W (s.out.take q)) (sn1 s.out q, sn2 s.out q, sn3 s.out q, sn4 s.out q) ∧ sn1 s.out q ≤ 1000 := fun q hq => by
    obtain ⟨x, h1, h2, h3⟩ := h.g q hq
    rw [hx q hq] at h1
    have := Option.some.inj h1
    subst this
    have h3' : sn1 s.out q < (r : Int) := h3
    exact ⟨h2, by omega⟩
  refine ⟨rfl, hst, hgd, fun q => ?_, fun q => ?_⟩
  · induction q with
    | zero => exact fun _ i hi => ⟨he i hi, Nat.le_refl _, Int.le_refl _, Int.le_refl _⟩
    | succ q ih =>
      intro hq i hi
      obtain ⟨h1, h2, h3, h4⟩ := ih (by omega) i hi
      have hu := us_bd (W := W) (rr := sn1 s.out q) (i := i) ⟨h3, h4⟩
      have e := hst q (by omega)
      rw [e]
      unfold fsS
      simp only
      refine ⟨?_, ?_, ?_⟩
      · split <;> (try split) <;> (try split) <;> constructor <;> omega
      · split <;> omega
      · split <;> constructor <;> omega
  · cases q with
    | zero => exact fun _ => ⟨Int.le_refl _, by show (-1 : Int) ≤ 1000; omega⟩
    | succ q =>
      intro hq
      have e := hst q (by omega)
      have hg := hgd q (by omega)
      rw [e]
      have h0 := hg.1.lt.2
      exact ⟨by show -1 ≤ sn1 s.out q; have h0' : 0 ≤ sn1 s.out q := h0; omega, hg.2⟩
end Go.Proofs.Ytldagjgpapnfpaa

/- Frames that are the same, as the model looks at them (tools/gen_bufw.py; as in FdW). -/
namespace Go.Proofs.Ytldagjgpapnfpaa
open Go.RowKit
theorem yl_at {w : World} {a : Option Addr} {n : Nat} {f : Nat → Int} (h : YL w a n f) {k : Nat} (hk : k < n) : ∃ b off, a = some ⟨b, off, none⟩ ∧ b < w.heap.size ∧ w.cell? ⟨b, off + k, none⟩ = some (.int .u8 (f k)) := by
  obtain ⟨b, off, e, hb, hc⟩ := h (by omega)
  exact ⟨b, off, e, hb, hc k hk⟩
set_option maxHeartbeats 2000000 in
theorem sameFr (W : Int) (a a2 : Option Addr) (n c c2 : Nat) (f : Nat → Int) (w : World) (hn : n ≤ 1048576) (hf : YL w a n f) (hf2 : YL w a2 n f) :
    Calls Try.prog 36 #[frv W a n c, frv W a2 n c2] w fun e w' => e = .returned (.bool true) ∧ Below w.heap.size w w' := by
  have b1 := (bx_new (w := w) (frvL W a n c) 54 rfl).alloc (frvO W a2 n c2 54)
  have b2 := bx_new (w := w.alloc (frvO W a n c 54)) (b := w.heap.size + 1) (frvL W a2 n c2) 54 (by simp)
  have hb0 : Below w.heap.size w ((w.alloc (frvO W a n c 54)).alloc (frvO W a2 n c2 54)) := ((Below.refl _ _).alloc (Nat.le_refl _) _).alloc (by simp) _
  have x0 := b1.c0
  have x1 := b1.c1
  have y0 := b2.c0
  have y1 := b2.c1
  go_enter Try.func36, Try.ntmps36
  go_wp2
  generalize (w.alloc (frvO W a n c 54)).alloc (frvO W a2 n c2 54) = w1 at *
  clear x0 x1 y0 y1
  go_loopw [23] (fun i wr => ∃ k : Nat, k ≤ n ∧ i = .int .i64 (k : Int) ∧ Below w1.heap.size w1 wr) (fun i _ => n - (intOf i).toNat)
  case atStart => exact ⟨0, Nat.zero_le _, rfl, Below.refl _ _⟩
  case round =>
    obtain ⟨k, hk, rfl, hB⟩ := hrel
    by_cases hlt : k < n
    · have h1 := (hf.below hb0).below hB
      have h2 := (hf2.below hb0).below hB
      obtain ⟨p1, o1, rfl, l1, v1⟩ := yl_at h1 hlt
      obtain ⟨p2, o2, rfl, l2, v2⟩ := yl_at h2 hlt
      have z1 := (b1.on hB).c1
      have z2 := (b2.on hB).c1
      have i0 : (0 : Int) ≤ (k : Int) := by omega
      have i1 : (k : Int) < (n : Int) := by omega
      clear h1 h2
      generalize f k = x at *
      go_wp2_with fail
      go_quiet (fail)
      go_wp2
      exact ⟨⟨k + 1, by omega, by go_num, by first | exact hB | exact below_dr hB _ | exact hB.drew⟩, by simp [intOf]; omega⟩
    · have i1 : ¬ (k : Int) < (n : Int) := by omega
      go_wp2
      go_ret
      exact ⟨rfl, stepA hb0 hB⟩
end Go.Proofs.Ytldagjgpapnfpaa
