/- What FnCounts draws: counts and a ray. -/
import Derived.Test.YtnoaonflphameaaCnDraw
import Derived.Test.YtnoaonflphameaaCurNew
namespace Go.Proofs.Ytnoaonflphameaa
open Go.RowKit

def AnsDA (w w' : World) (e : Ending) : Prop := ∃ (V : Int) (av : Option Addr) (n c : Nat) (bv : Option Addr) (m d : Nat) (F G : Nat → Int) (x1 y1 x2 y2 : Int) (hit : Bool), e = .returned (.tuple #[cnt V av n c bv m d, .int .i64 x1, .int .i64 y1, .int .i64 x2, .int .i64 y2, .bool hit]) ∧ IL w' av n F ∧ IL w' bv m G ∧ n ≤ 256 ∧ m ≤ 257 ∧ 0 ≤ V ∧ V ≤ 20 ∧ Below w.heap.size w w'
theorem ret_ray {fn : Func} {t t1 t2 t3 t4 t5 : Tmp} {R : Ending → World → Prop} {a : Act} {w : World} {b : Nat} {u v x : Value} (h : fn.results = #[.cell t 25, .tmp t1, .tmp t2, .tmp t3, .tmp t4, .tmp t5]) (hp : a.tmps.getD t undef = .pointer (some ⟨b, 0, none⟩)) (c : Bx w b [u, v, x]) (hd : a.defers = [])
    (hR : R (.returned (.tuple #[.agg #[u, v, x], a.tmps.getD t1 undef, a.tmps.getD t2 undef, a.tmps.getD t3 undef, a.tmps.getD t4 undef, a.tmps.getD t5 undef])) w) : bodyPost Try.prog fn R .ret a w := by
  refine bodyPost_ret ?_ hd hR
  have hp' : a.tmps[t]?.getD undef = .pointer (some ⟨b, 0, none⟩) := by simpa using hp
  simp [results, h, hp', asAddr, loadVar, go_sem, c.c0, c.c1, c.c2]
theorem keepM {W w2 : World} {C M : Nat} {V : Int} {av : Option Addr} {n c : Nat} {bv : Option Addr} {m d : Nat} (x : Bx W M (cntL V av n c bv m d)) (t : Turns C (C + 1) W w2) (hC : C < M) : w2.cell? ⟨M, 0, none⟩ = some (.int .i64 V) ∧ w2.cell? ⟨M, 1, none⟩ = some (.slice av n c) ∧ w2.cell? ⟨M, 2, none⟩ = some (.slice bv m d) := cnt_three (x.turns t (.inr hC))
theorem keepM2 {W w2 : World} {C M R : Nat} {V : Int} {av : Option Addr} {n c : Nat} {bv : Option Addr} {m d : Nat} (x : Bx W M (cntL V av n c bv m d)) (t : Turns C (C + 1) W w2) (hC : C < M) (hR : M ≠ R) (u v y : Value) : (((w2.setCell ⟨R, 0, none⟩ u).setCell ⟨R, 1, none⟩ v).setCell ⟨R, 2, none⟩ y).cell? ⟨M, 0, none⟩ = some (.int .i64 V) ∧ (((w2.setCell ⟨R, 0, none⟩ u).setCell ⟨R, 1, none⟩ v).setCell ⟨R, 2, none⟩ y).cell? ⟨M, 1, none⟩ = some (.slice av n c) ∧ (((w2.setCell ⟨R, 0, none⟩ u).setCell ⟨R, 1, none⟩ v).setCell ⟨R, 2, none⟩ y).cell? ⟨M, 2, none⟩ = some (.slice bv m d) := cnt_three (bx_three (x.turns t (.inr hC)) hR u v y)

set_option maxHeartbeats 8000000 in
set_option maxRecDepth 20000 in
theorem drawRay (a : Option Addr) (len cap : Nat) (w : World) (hl : len ≤ 1048576) (hb : 0 < len → ∃ b off, a = some ⟨b, off, none⟩ ∧ b < w.heap.size ∧ ∀ i, i < len → ∃ v : Int, w.cell? ⟨b, off + i, none⟩ = some (.int .u8 v) ∧ 0 ≤ v ∧ v ≤ 255) :
    Calls Try.prog 7 #[.slice a len cap] w fun e w' => AnsDA w w' e := by
  have hb0 : Below w.heap.size w (w.alloc (cntO 0 none 0 0 none 0 0 25)) := (Below.refl _ _).alloc (Nat.le_refl _) _
  have r0 := bx_new (b := w.heap.size) (w := w) (cntL 0 none 0 0 none 0 0) 25 rfl
  have hb' : 0 < len → ∃ b off, a = some ⟨b, off, none⟩ ∧ b < (w.alloc (cntO 0 none 0 0 none 0 0 25)).heap.size ∧ ∀ i, i < len → ∃ v : Int, (w.alloc (cntO 0 none 0 0 none 0 0 25)).cell? ⟨b, off + i, none⟩ = some (.int .u8 v) ∧ 0 ≤ v ∧ v ≤ 255 := fun h0 => by
    obtain ⟨b, off, ha, hbw, hc⟩ := hb h0
    refine ⟨b, off, ha, by rw [size_al]; omega, fun i hi => ?_⟩
    obtain ⟨v, hv, hv1⟩ := hc i hi
    exact ⟨v, (hb0.cell (p := ⟨b, _, none⟩) hbw).trans hv, hv1⟩
  have hc0 := cur_new (w.alloc (cntO 0 none 0 0 none 0 0 25)) a len cap hl hb'
  have hbC : Below (w.alloc (cntO 0 none 0 0 none 0 0 25)).heap.size (w.alloc (cntO 0 none 0 0 none 0 0 25)) ((w.alloc (cntO 0 none 0 0 none 0 0 25)).alloc (.cells #[.slice a len cap, .int .i64 0, .int .u64 0] 62)) := (Below.refl _ _).alloc (Nat.le_refl _) _
  have rc := r0.on hbC
  have hBc := stepA hb0 hbC
  rw [size_al] at hc0
  clear hb hb' hb0 r0 hbC
  go_enter Try.func7, Try.ntmps7
  go_upto_region 2 with fail
  generalize (w.alloc (cntO 0 none 0 0 none 0 0 25)).alloc (.cells #[.slice a len cap, .int .i64 0, .int .u64 0] 62) = w0 at rc hc0 hBc ⊢
  have hC0 := hc0.lt
  go_wp2_with fail
  refine (counts_any (w.heap.size + 1) a len cap 0 _ hc0 (by omega)).mono ?_
  rintro e w1 ⟨V, av, n, c, bv, m, d, F, G, n1, rfl, hF, hG, hn, hm, hV0, hV1, hn1, hc1, hT, hav, hbv⟩
  have r1 := rc.turns hT (.inl (by omega))
  have hB1 := hBc.trans (hT.below (B := w.heap.size) (by omega) (by omega))
  have hs1 := hc1.lt
  clear rc hc0 hBc hT hC0
  go_upto_region 3 with fail
  have hA := (Below.refl w1.heap.size w1).alloc (Nat.le_refl _) (cntO V av n c bv m d 25)
  have x2 := bx_new (b := w1.heap.size) (w := w1) (cntL V av n c bv m d) 25 rfl
  have r2 := r1.on hA
  have hc2 := hc1.below hA hc1.lt
  have hB2 := stepA hB1 hA
  have hF2 := hF.below hA
  have hG2 := hG.below hA
  clear hA r1 hc1 hB1 hF hG
  generalize w1.alloc (cntO V av n c bv m d 25) = w2 at x2 r2 hc2 hB2 hF2 hG2 ⊢
  generalize w1.heap.size = M at x2 hs1 ⊢
  obtain ⟨c0, c1, c2⟩ := cnt_three x2
  have hwV : IntKind.i64.wrap (V + 1) = V + 1 := IntWalk.i64_in _ ⟨by omega, by omega⟩
  go_upto_if 22 with fail
  go_cut [11] from 23 to 29 (fun s wx => ∃ hh : Int, s = .int .i64 hh ∧ wx = w2)
  case first =>
    by_cases hp : 0 < V
    · have hz : ¬ V = 0 := by omega
      go_wp2_with fail
      go_meet
      case rel => exact ⟨_, rfl, rfl⟩
    · go_wp2_with fail
      go_meet
      case rel => exact ⟨_, rfl, rfl⟩
  case rest =>
    obtain ⟨hh, rfl, hwc⟩ := hcut
    subst hwc
    generalize wc = w3 at *
    go_wp2_with fail
    refine (one_any (w.heap.size + 1) a len cap n1 8 _ hc2 (by omega)).mono ?_
    rintro e w4 ⟨u4, n4, rfl, hn4, hc4, hO⟩
    have t4 := on_turns hO
    have x4 := x2.turns t4 (.inr (by omega))
    have r4 := r2.turns t4 (.inl (by omega))
    have hB4 := hB2.trans (t4.below (B := w.heap.size) (by omega) (by have := r2.lt; omega))
    have hF4 := il_turns hF2 t4 hav
    have hG4 := il_turns hG2 t4 hbv
    clear x2 r2 hc2 hB2 hF2 hG2 hO t4 c0 c1 c2
    go_upto_if 32 with fail
    go_cut [10, 11, 32] from 33 to 36 (fun s t q wx => ∃ pp qq : Int, s = .int .i64 pp ∧ t = .int .i64 qq ∧ wx = w4)
    case first =>
      cases u4 with
      | false =>
        go_wp2_with fail
        go_meet
        case rel => exact ⟨_, _, rfl, rfl, rfl⟩
      | true =>
        go_wp2_with fail
        go_meet
        case rel => exact ⟨_, _, rfl, rfl, rfl⟩
    case rest =>
      obtain ⟨pp, qq, rfl, rfl, hwc⟩ := hcut
      subst hwc
      generalize wc = w5 at *
      obtain ⟨c0, c1, c2⟩ := cnt_three x4
      have ct := hc4.drew
      have t0 : Turns (w.heap.size + 1) (w.heap.size + 1 + 1) w5 w5.drew := turns_of (Below.refl _ _).drew
      have HX : Hid (Bx w5 M (cntL V av n c bv m d)) := x4
      go_wp2_with fail
      go_region_held3 (fun w' => w'.cell? ⟨M, 0, none⟩ = some (.int .i64 V) ∧ w'.cell? ⟨M, 1, none⟩ = some (.slice av n c) ∧ w'.cell? ⟨M, 2, none⟩ = some (.slice bv m d))
        (first | (exact keepM x4 t0 (by omega)) | (exact keepM x4 t6 (by omega)) | (exact keepM x4 t7 (by omega)) | (exact keepM x4 t8 (by omega)) | (exact keepM x4 t9 (by omega)) | (exact keepM x4 t10 (by omega)) | (exact keepM2 x4 t10 (by omega) (by omega) _ _ _) | (fail))
        (first
          | (go_at_call 30; refine (pick_any (w.heap.size + 1) a len cap n4 _ _ ct (by omega)).mono ?_; rintro e w6 ⟨p6, n6, rfl, -, -, -, hn6, hc6, hO⟩; have t6 := t0.trans (on_turns hO); clear hO)
          | (go_at_call 30; refine (pick_any (w.heap.size + 1) a len cap n6 _ _ hc6 (by omega)).mono ?_; rintro e w7 ⟨p7, n7, rfl, -, -, -, hn7, hc7, hO⟩; have t7 := t6.trans (on_turns hO); clear hO)
          | (go_at_call 30; refine (pick_any (w.heap.size + 1) a len cap n7 _ _ hc7 (by omega)).mono ?_; rintro e w8 ⟨p8, n8, rfl, -, -, -, hn8, hc8, hO⟩; have t8 := t7.trans (on_turns hO); clear hO)
          | (go_at_call 30; refine (pick_any (w.heap.size + 1) a len cap n8 _ _ hc8 (by omega)).mono ?_; rintro e w9 ⟨p9, n9, rfl, -, -, -, hn9, hc9, hO⟩; have t9 := t8.trans (on_turns hO); clear hO)
          | (go_at_call 29; refine (one_any (w.heap.size + 1) a len cap n9 2 _ hc9 (by omega)).mono ?_; rintro e w10 ⟨u10, n10, rfl, hn10, hc10, hO⟩; have t10 := t9.trans (on_turns hO); have r10 := r4.turns t10 (.inl (by omega)); obtain ⟨v0, v1, v2⟩ := cnt_three r10; have f0 := r10.fz 0; have f1 := r10.fz 1; have f2 := r10.fz 2; clear hO)
          | (fail))
      all_goals
        have bE := r10.set3 (.int .i64 V) (.slice av n c) (.slice bv m d)
        have hav2 : ∀ x off, av = some ⟨x, off, none⟩ → x ≠ w.heap.size := fun x off e => by have := hav x off e; omega
        have hbv2 : ∀ x off, bv = some ⟨x, off, none⟩ → x ≠ w.heap.size := fun x off e => by have := hbv x off e; omega
        have iA := il_far (j := 2) (v := .slice bv m d) (il_far (j := 1) (v := .slice av n c) (il_far (j := 0) (v := .int .i64 V) (il_turns hF4 t10 hav) hav2) hav2) hav2
        have iB := il_far (j := 2) (v := .slice bv m d) (il_far (j := 1) (v := .slice av n c) (il_far (j := 0) (v := .int .i64 V) (il_turns hG4 t10 hbv) hbv2) hbv2) hbv2
        have hBE := below_three (hB4.trans (t10.below (B := w.heap.size) (by omega) (by have := r4.lt; omega))) (b := w.heap.size) (Nat.le_refl _) (.int .i64 V) (.slice av n c) (.slice bv m d)
        go_wp2
        exact ret_ray rfl rfl bE rfl ⟨V, av, n, c, bv, m, d, F, G, p6, p7, p8, p9, u10, rfl, iA, iB, hn, hm, hV0, hV1, hBE⟩
end Go.Proofs.Ytnoaonflphameaa
