/- The walk of the law on BoxHull. -/
import Derived.Test.YtfciecoigfnnhaaBxHull
import Derived.Test.YtfciecoigfnnhaaBxHullI
import Derived.Test.YtfciecoigfnnhaaBxCut
import Derived.Test.YtfciecoigfnnhaaBxMark
import Derived.Deep.RegionHeld3
namespace Go.Proofs.Ytfciecoigfnnhaa
open Go.RowKit

set_option maxHeartbeats 8000000 in
theorem hullLaw (a b a2 b2 : Option Addr) (n c m d n2 c2 m2 d2 : Nat) (f g f2 g2 : Nat → Nat) (w : World) (hsz : n + m + n2 + m2 ≤ 1048576) (hf : FS w a n f) (hg : FS w b m g) (hf2 : FS w a2 n2 f2) (hg2 : FS w b2 m2 g2) :
    Calls Try.prog 5 #[bxv a n c b m d, bxv a2 n2 c2 b2 m2 d2] w fun e w' => e = .returned (.bool true) ∧ Below w.heap.size w w' := by
  have hI := fun a c b d a2 c2 b2 d2 w h1 h2 h3 h4 => implHull a b a2 b2 n c m d n2 c2 m2 d2 f g f2 g2 w h1 h2 h3 h4
  unfold AnsHull at hI
  have hS := fun a c b d a2 c2 b2 d2 w h1 h2 h3 h4 => specHull a b a2 b2 n c m d n2 c2 m2 d2 f g f2 g2 w h1 h2 h3 h4
  unfold AnsHull at hS
  have hFb : ∀ i, i < (if pairB n f m g n2 f2 m2 g2 then n else 0) → (fun i => loF (f i) (f2 i)) i < 18446744073709551616 := fun i hi => by
    by_cases e : pairB n f m g n2 f2 m2 g2 = true
    · have hl : n = n2 ∧ m = n ∧ m2 = n2 := by
        simp only [pairB, Bool.and_eq_true, decide_eq_true_eq] at e
        obtain ⟨⟨g1, g3⟩, g4⟩ := e
        exact ⟨g4, (boxB_len g1).2.2.1, (boxB_len g3).2.2.1⟩
      rw [if_pos e] at hi
      exact loF_lt (hf.2.1 i hi) (hf2.2.1 i (by omega))
    · rw [if_neg e] at hi; omega
  have hGb : ∀ i, i < (if pairB n f m g n2 f2 m2 g2 then n else 0) → (fun i => hiF (g i) (g2 i)) i < 18446744073709551616 := fun i hi => by
    by_cases e : pairB n f m g n2 f2 m2 g2 = true
    · have hl : n = n2 ∧ m = n ∧ m2 = n2 := by
        simp only [pairB, Bool.and_eq_true, decide_eq_true_eq] at e
        obtain ⟨⟨g1, g3⟩, g4⟩ := e
        exact ⟨g4, (boxB_len g1).2.2.1, (boxB_len g3).2.2.1⟩
      rw [if_pos e] at hi
      exact hiF_lt (hg.2.1 i (by omega)) (hg2.2.1 i (by omega))
    · rw [if_neg e] at hi; omega
  have hN : (if pairB n f m g n2 f2 m2 g2 then n else 0) ≤ 1048576 := by split <;> omega
  generalize pairB n f m g n2 f2 m2 g2 = Q at hI hS hFb hGb hN
  generalize (if Q = true then n else 0) = N at hI hS hFb hGb hN
  generalize (fun i => loF (f i) (f2 i)) = F at hI hS hFb
  generalize (fun i => hiF (g i) (g2 i)) = G at hI hS hGb
  have j3 : ¬ (1 : Int) + (n : Int) + (m : Int) + (n2 : Int) + (m2 : Int) < 0 := by omega
  have j4 : ¬ (1 : Int) + (N : Int) + (N : Int) < 0 := by omega
  have hn : n ≤ 1048576 := by omega
  have hm : m ≤ 1048576 := by omega
  have hfb := hf.2.1
  have hgb := hg.2.1
  have hn2 : n2 ≤ 1048576 := by omega
  have hm2 : m2 ≤ 1048576 := by omega
  have hfb2 := hf2.2.1
  have hgb2 := hg2.2.1
  have j1 : ¬ (1048576 : Int) - (n : Int) - (m : Int) < 0 := by omega
  have j2 : ¬ (1048576 : Int) - (n : Int) - (m : Int) - (n2 : Int) - (m2 : Int) < 0 := by omega
  go_enter Try.func5, Try.ntmps5
  have hB0 := Below.refl w.heap.size w
  have z1 := bx_new (b := w.heap.size) (w := w) [.slice a n c, .slice b m d] 43 (by first | rfl | simp only [size_al])
  have hx2 : Below w.heap.size w (w.alloc (.cells #[.slice a n c, .slice b m d] 43)) := (Below.refl _ _).alloc (Nat.le_refl _) _
  have hB3 := stepA hB0 hx2
  clear hB0 hx2
  have z4 := bx_new (b := w.heap.size + 1) (w := (w.alloc (.cells #[.slice a n c, .slice b m d] 43))) [.slice a2 n2 c2, .slice b2 m2 d2] 43 (by first | rfl | simp only [size_al])
  have hx5 : Below (w.alloc (.cells #[.slice a n c, .slice b m d] 43)).heap.size (w.alloc (.cells #[.slice a n c, .slice b m d] 43)) ((w.alloc (.cells #[.slice a n c, .slice b m d] 43)).alloc (.cells #[.slice a2 n2 c2, .slice b2 m2 d2] 43)) := (Below.refl _ _).alloc (Nat.le_refl _) _
  have z6 := z1.on hx5
  clear z1
  have hB7 := stepA hB3 hx5
  clear hB3 hx5
  have x8 := z6.c0
  have x9 := z6.c1
  have x10 := z4.c0
  have x11 := z4.c1
  go_wp2_with fail
  refine (szBox_in a b n c m d 1048576 _ (by omega) (by omega)).mono ?_
  rintro e w12 ⟨rfl, hb13⟩
  have hs14 := hb13.size
  have z15 := z6.on hb13
  have z16 := z4.on hb13
  clear z6 z4
  have hB17 := stepA hB7 hb13
  clear hB7 hb13
  try simp only [size_al] at hs14
  clear x8 x9 x10 x11
  have x18 := z15.c0
  have x19 := z15.c1
  have x20 := z16.c0
  have x21 := z16.c1
  go_wp2_with fail
  refine (szBox_in a2 b2 n2 c2 m2 d2 (1048576 - (n : Int) - (m : Int)) _ (by omega) (by omega)).mono ?_
  rintro e w22 ⟨rfl, hb23⟩
  have hs24 := hb23.size
  have z25 := z15.on hb23
  have z26 := z16.on hb23
  clear z15 z16
  have hB27 := stepA hB17 hb23
  clear hB17 hb23
  try simp only [size_al] at hs24
  clear x18 x19 x20 x21
  go_upto_region 8 with fail
  have hw0 := Below.refl w22.heap.size w22
  have x28 := z25.c0
  have x29 := z25.c1
  have x30 := z26.c0
  have x31 := z26.c1
  go_cut [6, 7] from 27 to 34 (fun s6 s7 wx => CutA w22 wx N F G Q s6 s7)
  case first =>
    go_region_held3 (fun w' => w'.cell? ⟨w.heap.size, 0, none⟩ = some (.slice a n c) ∧ w'.cell? ⟨w.heap.size, 1, none⟩ = some (.slice b m d) ∧ w'.cell? ⟨w.heap.size + 1, 0, none⟩ = some (.slice a2 n2 c2) ∧ w'.cell? ⟨w.heap.size + 1, 1, none⟩ = some (.slice b2 m2 d2))
      (first | (exact keepB z25 z26 hw0.drew) | (exact keepB z25 z26 hw1) | (exact keepB z25 z26 hw2) | (exact keepB z25 z26 hw3) | (exact keepB z25 z26 (bAl hw0 _).drew) | (exact keepB z25 z26 (bAl hw1 _)) | (exact keepB z25 z26 (bAl hw2 _)) | (exact keepB z25 z26 (bAl hw3 _)) | (exact keepB z25 z26 (bSt hw3 (by first | exact Nat.le_refl _ | exact hw1.size | exact hw2.size))) | (fail))
      (first | (go_at_call_of 20 a; refine (toBox_any a b n c m d f g _ (hf.below (stepA hB27 (by first | exact hw0.drew | exact (bAl hw0 _).drew))) (hg.below (stepA hB27 (by first | exact hw0.drew | exact (bAl hw0 _).drew)))).mono ?_; rintro e wa ⟨p1, p2, rfl, hP, hbn⟩; (first | (have hw1 := stepA hw0.drew hbn; clear hbn) | (obtain ⟨hw1, nb⟩ := nbxd hw0 hbn; clear hbn)))
             | (go_at_call_of 20 a2; refine (toBox_any a2 b2 n2 c2 m2 d2 f2 g2 _ (hf2.below (stepA hB27 (by first | exact hw1 | exact bAl hw1 _))) (hg2.below (stepA hB27 (by first | exact hw1 | exact bAl hw1 _)))).mono ?_; rintro e wb ⟨q1, q2, rfl, hQ, hbn⟩; (first | (have hw2 := stepA hw1 hbn; have nb := nb.on hbn; have hP := hP.on hbn; clear hbn) | (have hw2 := stepA hw1 hbn; have hP := hP.on hbn; clear hbn) | (obtain ⟨hw2, nb⟩ := nbx hw1 hbn; have hP := hP.on (below_al hbn); clear hbn)))
             | (go_at_call 25; refine (hS _ _ _ _ _ _ _ _ _ (by first | exact hP.fl1.fs hn hfb | exact (bp_al hP _).fl1.fs hn hfb) (by first | exact hP.fl2.fs hm hgb | exact (bp_al hP _).fl2.fs hm hgb) (by first | exact hQ.fl1.fs hn2 hfb2 | exact (bp_al hQ _).fl1.fs hn2 hfb2) (by first | exact hQ.fl2.fs hm2 hgb2 | exact (bp_al hQ _).fl2.fs hm2 hgb2)).mono ?_; rintro e wz ⟨a3, c3, b3, d3, rfl, hA, hbn⟩; (try simp only [size_al] at hA); (first | (have ngl := nb.lt; have hw3 := stepA hw2 hbn; have nb := nb.on hbn; clear hbn) | (have hw3 := stepA hw2 hbn; clear hbn) | (obtain ⟨hw3, nb⟩ := nbx hw2 hbn; have ngl := Nat.lt_succ_self wb.heap.size; clear hbn)); (try (have n1 := nb.c0; have n2 := nb.c1; have n3 := nb.fz 0; have n4 := nb.fz 1)))
             | (fail))
    all_goals
      go_wp2_with fail
      go_meet
      case rel =>
        first
        | exact ⟨_, _, _, _, _, _, _, rfl, rfl, hw3.size, bx_new _ _ rfl, bp_al hA _, hw2.size, by rw [size_al]; omega, .inr (Nat.le_refl _), bAl hw3 _⟩
        | exact ⟨_, _, _, _, _, _, _, rfl, rfl, (by first | exact Nat.le_refl _ | exact hw1.size | exact hw2.size), (nb.set 0 (by simp) _).set 1 (by simp) _, bp_far (bp_far hA 0 _ ngl) 1 _ ngl, (by first | exact hw2.size | exact Nat.le_succ_of_le hw2.size), by simp only [size_set]; exact Nat.le_refl _, .inl ngl, bSt hw3 (by first | exact Nat.le_refl _ | exact hw1.size | exact hw2.size)⟩
  case rest =>
    clear x28 x29 x30 x31
    obtain ⟨g3, a3, c3, b3, d3, lo3, hi3, rfl, rfl, hg3, z32, z33, hlo3, hhi3, hgl3, hb34⟩ := hcut
    generalize wc = w903 at *
    have hs35 := hb34.size
    have hlt3 := z32.lt
    clear hw0
    have z36 := z25.on hb34
    have z37 := z26.on hb34
    clear z25 z26
    have hB38 := stepA hB27 hb34
    clear hB27 hb34
    have x39 := z36.c0
    have x40 := z36.c1
    have x41 := z37.c0
    have x42 := z37.c1
    have x43 := z32.c0
    have x44 := z32.c1
    go_wp2_with fail
    refine (toBox_any a b n c m d f g _ (hf.below hB38) (hg.below hB38)).mono ?_
    rintro e w45 ⟨a4, b4, rfl, hL4, hb46⟩
    have hs47 := hb46.size
    have z48 := z36.on hb46
    have z49 := z37.on hb46
    have z50 := z32.on hb46
    have z51 := z33.on hb46
    clear z36 z37 z32 z33
    have hB52 := stepA hB38 hb46
    clear hB38 hb46
    try simp only [size_al] at hs47
    try simp only [size_al] at hL4
    have z53 := bx_new (b := w45.heap.size) (w := w45) [.slice a4 n n, .slice b4 m m] 45 (by first | rfl | simp only [size_al])
    have hx54 : Below w45.heap.size w45 (w45.alloc (.cells #[.slice a4 n n, .slice b4 m m] 45)) := (Below.refl _ _).alloc (Nat.le_refl _) _
    have z55 := z48.on hx54
    have z56 := z49.on hx54
    have z57 := z50.on hx54
    have z58 := z51.on hx54
    have z59 := hL4.on hx54
    clear z48 z49 z50 z51 hL4
    have hB60 := stepA hB52 hx54
    clear hB52 hx54
    clear x39 x40 x41 x42 x43 x44
    have x61 := z55.c0
    have x62 := z55.c1
    have x63 := z56.c0
    have x64 := z56.c1
    have x65 := z57.c0
    have x66 := z57.c1
    have x67 := z53.c0
    have x68 := z53.c1
    go_wp2_with fail
    refine (toBox_any a2 b2 n2 c2 m2 d2 f2 g2 _ (hf2.below hB60) (hg2.below hB60)).mono ?_
    rintro e w69 ⟨a5, b5, rfl, hL5, hb70⟩
    have hs71 := hb70.size
    have z72 := z55.on hb70
    have z73 := z56.on hb70
    have z74 := z57.on hb70
    have z75 := z58.on hb70
    have z76 := z59.on hb70
    have z77 := z53.on hb70
    clear z55 z56 z57 z58 z59 z53
    have hB78 := stepA hB60 hb70
    clear hB60 hb70
    try simp only [size_al] at hs71
    try simp only [size_al] at hL5
    have z79 := bx_new (b := w69.heap.size) (w := w69) [.slice a5 n2 n2, .slice b5 m2 m2] 45 (by first | rfl | simp only [size_al])
    have hx80 : Below w69.heap.size w69 (w69.alloc (.cells #[.slice a5 n2 n2, .slice b5 m2 m2] 45)) := (Below.refl _ _).alloc (Nat.le_refl _) _
    have z81 := z72.on hx80
    have z82 := z73.on hx80
    have z83 := z74.on hx80
    have z84 := z75.on hx80
    have z85 := z76.on hx80
    have z86 := z77.on hx80
    have z87 := hL5.on hx80
    clear z72 z73 z74 z75 z76 z77 hL5
    have hB88 := stepA hB78 hx80
    clear hB78 hx80
    clear x61 x62 x63 x64 x65 x66 x67 x68
    have x89 := z81.c0
    have x90 := z81.c1
    have x91 := z82.c0
    have x92 := z82.c1
    have x93 := z83.c0
    have x94 := z83.c1
    have x95 := z86.c0
    have x96 := z86.c1
    have x97 := z79.c0
    have x98 := z79.c1
    go_wp2_with fail
    refine (hI _ _ _ _ _ _ _ _ _ (z85.fl1.fs hn hfb) (z85.fl2.fs hm hgb) (z87.fl1.fs hn2 hfb2) (z87.fl2.fs hm2 hgb2)).mono ?_
    rintro e w99 ⟨a6, c6, b6, d6, rfl, hA6, hb100⟩
    have hs101 := hb100.size
    have z102 := z81.on hb100
    have z103 := z82.on hb100
    have z104 := z83.on hb100
    have z105 := z84.on hb100
    have z106 := z85.on hb100
    have z107 := z86.on hb100
    have z108 := z87.on hb100
    have z109 := z79.on hb100
    clear z81 z82 z83 z84 z85 z86 z87 z79
    have hB110 := stepA hB88 hb100
    clear hB88 hb100
    try simp only [size_al] at hs101
    try simp only [size_al] at hA6
    have z111 := bx_new (b := w99.heap.size) (w := w99) [.slice a6 N c6, .slice b6 N d6] 45 (by first | rfl | simp only [size_al])
    have hx112 : Below w99.heap.size w99 (w99.alloc (.cells #[.slice a6 N c6, .slice b6 N d6] 45)) := (Below.refl _ _).alloc (Nat.le_refl _) _
    have z113 := z102.on hx112
    have z114 := z103.on hx112
    have z115 := z104.on hx112
    have z116 := z105.on hx112
    have z117 := z106.on hx112
    have z118 := z107.on hx112
    have z119 := z108.on hx112
    have z120 := z109.on hx112
    have z121 := hA6.on hx112
    clear z102 z103 z104 z105 z106 z107 z108 z109 hA6
    have hB122 := stepA hB110 hx112
    clear hB110 hx112
    clear x89 x90 x91 x92 x93 x94 x95 x96 x97 x98
    have x123 := z113.c0
    have x124 := z113.c1
    have x125 := z114.c0
    have x126 := z114.c1
    have x127 := z115.c0
    have x128 := z115.c1
    have x129 := z118.c0
    have x130 := z118.c1
    have x131 := z120.c0
    have x132 := z120.c1
    have x133 := z111.c0
    have x134 := z111.c1
    go_wp2_with fail
    refine (eqBox_any a6 b6 a3 b3 N c6 N d6 c3 d3 F G _ (z121.fl1.fs hN hFb) (z121.fl2.fs hN hGb) (z116.fl1.fs hN hFb) (z116.fl2.fs hN hGb)).mono ?_
    rintro e w135 ⟨rfl, hb136⟩
    have hs137 := hb136.size
    have z138 := z113.on hb136
    have z139 := z114.on hb136
    have z140 := z115.on hb136
    have z141 := z116.on hb136
    have z142 := z117.on hb136
    have z143 := z118.on hb136
    have z144 := z119.on hb136
    have z145 := z120.on hb136
    have z146 := z121.on hb136
    have z147 := z111.on hb136
    clear z113 z114 z115 z116 z117 z118 z119 z120 z121 z111
    have hB148 := stepA hB122 hb136
    clear hB122 hb136
    try simp only [size_al] at hs137
    clear x123 x124 x125 x126 x127 x128 x129 x130 x131 x132 x133 x134
    have x149 := z138.c0
    have x150 := z138.c1
    have x151 := z139.c0
    have x152 := z139.c1
    have x153 := z140.c0
    have x154 := z140.c1
    have x155 := z143.c0
    have x156 := z143.c1
    have x157 := z145.c0
    have x158 := z145.c1
    have x159 := z147.c0
    have x160 := z147.c1
    go_wp2_with fail
    have hw161 := Below.refl w135.heap.size w135
    go_region_held3 (fun w' => w'.cell? ⟨w.heap.size, 0, none⟩ = some (.slice a n c) ∧ w'.cell? ⟨w.heap.size, 1, none⟩ = some (.slice b m d) ∧ w'.cell? ⟨w45.heap.size, 0, none⟩ = some (.slice a4 n n) ∧ w'.cell? ⟨w45.heap.size, 1, none⟩ = some (.slice b4 m m))
      (first | (exact ⟨(z138.on hw161.drew).c0, (z138.on hw161.drew).c1, (z143.on hw161.drew).c0, (z143.on hw161.drew).c1⟩) | (exact ⟨(z138.on hw164).c0, (z138.on hw164).c1, (z143.on hw164).c0, (z143.on hw164).c1⟩) | (exact ⟨(z138.on hw167).c0, (z138.on hw167).c1, (z143.on hw167).c0, (z143.on hw167).c1⟩) | (fail))
      (first | (go_at_call 20; refine (toBox_any a b n c m d f g _ (hf.below (stepA hB148 (hw161.drew))) (hg.below (stepA hB148 (hw161.drew)))).mono ?_; rintro e w162 ⟨r17, r27, rfl, hR7, hb163⟩; have hw164 := stepA hw161.drew hb163; clear hb163) | (go_at_call 22; refine (eqBox_any _ _ _ _ n _ m _ _ _ f g _ ((z142.on (hw164)).fl1.fs hn hfb) ((z142.on (hw164)).fl2.fs hm hgb) (hR7.fl1.fs hn hfb) (hR7.fl2.fs hm hgb)).mono ?_; rintro e w165 ⟨rfl, hb166⟩; have hw167 := stepA hw164 hb166; clear hb166) | (fail))
    have hs168 := hw167.size
    try simp only [size_al] at hs168
    have z169 := z138.on hw167
    have z170 := z139.on hw167
    have z171 := z140.on hw167
    have z172 := z141.on hw167
    have z173 := z142.on hw167
    have z174 := z143.on hw167
    have z175 := z144.on hw167
    have z176 := z145.on hw167
    have z177 := z146.on hw167
    have z178 := z147.on hw167
    clear z138 z139 z140 z141 z142 z143 z144 z145 z146 z147
    have hB179 := stepA hB148 hw167
    clear hB148
    clear hR7
    clear x149 x150 x151 x152 x153 x154 x155 x156 x157 x158 x159 x160
    have x180 := z169.c0
    have x181 := z169.c1
    have x182 := z170.c0
    have x183 := z170.c1
    have x184 := z171.c0
    have x185 := z171.c1
    have x186 := z174.c0
    have x187 := z174.c1
    have x188 := z176.c0
    have x189 := z176.c1
    have x190 := z178.c0
    have x191 := z178.c1
    go_wp2_with fail
    have hw192 := Below.refl w165.heap.size w165
    go_region_held3 (fun w' => w'.cell? ⟨w.heap.size + 1, 0, none⟩ = some (.slice a2 n2 c2) ∧ w'.cell? ⟨w.heap.size + 1, 1, none⟩ = some (.slice b2 m2 d2) ∧ w'.cell? ⟨w69.heap.size, 0, none⟩ = some (.slice a5 n2 n2) ∧ w'.cell? ⟨w69.heap.size, 1, none⟩ = some (.slice b5 m2 m2))
      (first | (exact ⟨(z170.on hw192.drew).c0, (z170.on hw192.drew).c1, (z176.on hw192.drew).c0, (z176.on hw192.drew).c1⟩) | (exact ⟨(z170.on hw195).c0, (z170.on hw195).c1, (z176.on hw195).c0, (z176.on hw195).c1⟩) | (exact ⟨(z170.on hw198).c0, (z170.on hw198).c1, (z176.on hw198).c0, (z176.on hw198).c1⟩) | (fail))
      (first | (go_at_call 20; refine (toBox_any a2 b2 n2 c2 m2 d2 f2 g2 _ (hf2.below (stepA hB179 (hw192.drew))) (hg2.below (stepA hB179 (hw192.drew)))).mono ?_; rintro e w193 ⟨r18, r28, rfl, hR8, hb194⟩; have hw195 := stepA hw192.drew hb194; clear hb194) | (go_at_call 22; refine (eqBox_any _ _ _ _ n2 _ m2 _ _ _ f2 g2 _ ((z175.on (hw195)).fl1.fs hn2 hfb2) ((z175.on (hw195)).fl2.fs hm2 hgb2) (hR8.fl1.fs hn2 hfb2) (hR8.fl2.fs hm2 hgb2)).mono ?_; rintro e w196 ⟨rfl, hb197⟩; have hw198 := stepA hw195 hb197; clear hb197) | (fail))
    have hs199 := hw198.size
    try simp only [size_al] at hs199
    have z200 := z169.on hw198
    have z201 := z170.on hw198
    have z202 := z171.on hw198
    have z203 := z172.on hw198
    have z204 := z173.on hw198
    have z205 := z174.on hw198
    have z206 := z175.on hw198
    have z207 := z176.on hw198
    have z208 := z177.on hw198
    have z209 := z178.on hw198
    clear z169 z170 z171 z172 z173 z174 z175 z176 z177 z178
    have hB210 := stepA hB179 hw198
    clear hB179
    clear hR8
    clear x180 x181 x182 x183 x184 x185 x186 x187 x188 x189 x190 x191
    have x211 := z200.c0
    have x212 := z200.c1
    have x213 := z201.c0
    have x214 := z201.c1
    have x215 := z202.c0
    have x216 := z202.c1
    have x217 := z205.c0
    have x218 := z205.c1
    have x219 := z207.c0
    have x220 := z207.c1
    have x221 := z209.c0
    have x222 := z209.c1
    go_wp2_with fail
    refine (markBox_any a4 b4 n n m m 1 (w903.heap.size) (w45.heap.size) f g _ hn hm (by omega) z204 (by first | omega | (simp only [size_al]; omega))).mono ?_
    rintro e w223 ⟨rfl, z225, ht224⟩
    have hs226 := ht224.size
    try simp only [size_al] at hs226
    have z227 := z200.turns ht224 (by first | omega | (simp only [size_al]; omega))
    have z228 := z201.turns ht224 (by first | omega | (simp only [size_al]; omega))
    have z229 := z202.turns ht224 (by first | omega | (simp only [size_al]; omega))
    have z230 := z203.turns ht224 (by first | omega | (simp only [size_al]; omega))
    have z231 := z205.turns ht224 (by first | omega | (simp only [size_al]; omega))
    have z232 := z206.turns ht224 (by first | omega | (simp only [size_al]; omega))
    have z233 := z207.turns ht224 (by first | omega | (simp only [size_al]; omega))
    have z234 := z208.turns ht224 (by first | omega | (simp only [size_al]; omega))
    have z235 := z209.turns ht224 (by first | omega | (simp only [size_al]; omega))
    clear z200 z201 z202 z203 z205 z206 z207 z208 z209
    have hB236 := hB210.trans (ht224.below (by omega) (by first | omega | (simp only [size_al]; omega)))
    clear hB210 ht224 z204
    clear x211 x212 x213 x214 x215 x216 x217 x218 x219 x220 x221 x222
    have x237 := z227.c0
    have x238 := z227.c1
    have x239 := z228.c0
    have x240 := z228.c1
    have x241 := z229.c0
    have x242 := z229.c1
    have x243 := z231.c0
    have x244 := z231.c1
    have x245 := z233.c0
    have x246 := z233.c1
    have x247 := z235.c0
    have x248 := z235.c1
    go_wp2_with fail
    refine (markBox_int a5 b5 n2 n2 m2 m2 (1 + n + m) (w45.heap.size + 1) (w69.heap.size) (1 + (n : Int) + (m : Int)) (by omega) f2 g2 _ hn2 hm2 (by omega) z232 (by first | omega | (simp only [size_al]; omega))).mono ?_
    rintro e w249 ⟨rfl, z251, ht250⟩
    have hs252 := ht250.size
    try simp only [size_al] at hs252
    have z253 := z227.turns ht250 (by first | omega | (simp only [size_al]; omega))
    have z254 := z228.turns ht250 (by first | omega | (simp only [size_al]; omega))
    have z255 := z229.turns ht250 (by first | omega | (simp only [size_al]; omega))
    have z256 := z230.turns ht250 (by first | omega | (simp only [size_al]; omega))
    have z257 := z231.turns ht250 (by first | omega | (simp only [size_al]; omega))
    have z258 := z233.turns ht250 (by first | omega | (simp only [size_al]; omega))
    have z259 := z234.turns ht250 (by first | omega | (simp only [size_al]; omega))
    have z260 := z235.turns ht250 (by first | omega | (simp only [size_al]; omega))
    have z261 := z225.turns ht250 (by first | omega | (simp only [size_al]; omega))
    clear z227 z228 z229 z230 z231 z233 z234 z235 z225
    have hB262 := hB236.trans (ht250.below (by omega) (by first | omega | (simp only [size_al]; omega)))
    clear hB236 ht250 z232
    clear x237 x238 x239 x240 x241 x242 x243 x244 x245 x246 x247 x248
    have x263 := z253.c0
    have x264 := z253.c1
    have x265 := z254.c0
    have x266 := z254.c1
    have x267 := z255.c0
    have x268 := z255.c1
    have x269 := z257.c0
    have x270 := z257.c1
    have x271 := z258.c0
    have x272 := z258.c1
    have x273 := z260.c0
    have x274 := z260.c1
    go_wp2_with fail
    refine (eqBox_any a6 b6 a3 b3 N c6 N d6 c3 d3 F G _ (z259.fl1.fs hN hFb) (z259.fl2.fs hN hGb) (z256.fl1.fs hN hFb) (z256.fl2.fs hN hGb)).mono ?_
    rintro e w275 ⟨rfl, hb276⟩
    have hs277 := hb276.size
    have z278 := z253.on hb276
    have z279 := z254.on hb276
    have z280 := z255.on hb276
    have z281 := z256.on hb276
    have z282 := z257.on hb276
    have z283 := z258.on hb276
    have z284 := z259.on hb276
    have z285 := z260.on hb276
    have z286 := z261.on hb276
    have z287 := z251.on hb276
    clear z253 z254 z255 z256 z257 z258 z259 z260 z261 z251
    have hB288 := stepA hB262 hb276
    clear hB262 hb276
    try simp only [size_al] at hs277
    clear x263 x264 x265 x266 x267 x268 x269 x270 x271 x272 x273 x274
    have x289 := z278.c0
    have x290 := z278.c1
    have x291 := z279.c0
    have x292 := z279.c1
    have x293 := z280.c0
    have x294 := z280.c1
    have x295 := z282.c0
    have x296 := z282.c1
    have x297 := z283.c0
    have x298 := z283.c1
    have x299 := z285.c0
    have x300 := z285.c1
    go_wp2_with fail
    refine (markBox_any a6 b6 N c6 N d6 1 (w69.heap.size + 1) (w99.heap.size) F G _ hN hN (by omega) z284 (by first | omega | (simp only [size_al]; omega))).mono ?_
    rintro e w301 ⟨rfl, z303, ht302⟩
    have hs304 := ht302.size
    try simp only [size_al] at hs304
    have z305 := z278.turns ht302 (by first | omega | (simp only [size_al]; omega))
    have z306 := z279.turns ht302 (by first | omega | (simp only [size_al]; omega))
    have z307 := z280.turns ht302 (by first | omega | (simp only [size_al]; omega))
    have z308 := z281.turns ht302 (by first | omega | (simp only [size_al]; omega))
    have z309 := z282.turns ht302 (by first | omega | (simp only [size_al]; omega))
    have z310 := z283.turns ht302 (by first | omega | (simp only [size_al]; omega))
    have z311 := z285.turns ht302 (by first | omega | (simp only [size_al]; omega))
    have z312 := z286.turns ht302 (by first | omega | (simp only [size_al]; omega))
    have z313 := z287.turns ht302 (by first | omega | (simp only [size_al]; omega))
    clear z278 z279 z280 z281 z282 z283 z285 z286 z287
    have hB314 := hB288.trans (ht302.below (by omega) (by first | omega | (simp only [size_al]; omega)))
    clear hB288 ht302 z284
    clear x289 x290 x291 x292 x293 x294 x295 x296 x297 x298 x299 x300
    have x315 := z305.c0
    have x316 := z305.c1
    have x317 := z306.c0
    have x318 := z306.c1
    have x319 := z307.c0
    have x320 := z307.c1
    have x321 := z309.c0
    have x322 := z309.c1
    have x323 := z310.c0
    have x324 := z310.c1
    have x325 := z311.c0
    have x326 := z311.c1
    go_wp2_with fail
    refine (heldBox_any a6 b6 N c6 N d6 1 (w69.heap.size + 1) (w99.heap.size) _ hN hN (by omega) z303).mono ?_
    rintro e w327 ⟨rfl, hb328⟩
    have hs329 := hb328.size
    have z330 := z305.on hb328
    have z331 := z306.on hb328
    have z332 := z307.on hb328
    have z333 := z308.on hb328
    have z334 := z309.on hb328
    have z335 := z310.on hb328
    have z336 := z311.on hb328
    have z337 := z312.on hb328
    have z338 := z313.on hb328
    have z339 := z303.on hb328
    clear z305 z306 z307 z308 z309 z310 z311 z312 z313 z303
    have hB340 := stepA hB314 hb328
    clear hB314 hb328
    try simp only [size_al] at hs329
    clear x315 x316 x317 x318 x319 x320 x321 x322 x323 x324 x325 x326
    go_upto_region 31 with fail
    have hw0 := Below.refl w327.heap.size w327
    have x341 := z330.c0
    have x342 := z330.c1
    have x343 := z331.c0
    have x344 := z331.c1
    go_cut [15, 16] from 94 to 101 (fun s6 s7 wx => CutA w327 wx N F G Q s6 s7)
    case first =>
      go_region_held3 (fun w' => w'.cell? ⟨w.heap.size, 0, none⟩ = some (.slice a n c) ∧ w'.cell? ⟨w.heap.size, 1, none⟩ = some (.slice b m d) ∧ w'.cell? ⟨w.heap.size + 1, 0, none⟩ = some (.slice a2 n2 c2) ∧ w'.cell? ⟨w.heap.size + 1, 1, none⟩ = some (.slice b2 m2 d2))
        (first | (exact keepB z330 z331 hw0.drew) | (exact keepB z330 z331 hw1) | (exact keepB z330 z331 hw2) | (exact keepB z330 z331 hw3) | (exact keepB z330 z331 (bAl hw0 _).drew) | (exact keepB z330 z331 (bAl hw1 _)) | (exact keepB z330 z331 (bAl hw2 _)) | (exact keepB z330 z331 (bAl hw3 _)) | (exact keepB z330 z331 (bSt hw3 (by first | exact Nat.le_refl _ | exact hw1.size | exact hw2.size))) | (fail))
        (first | (go_at_call_of 20 a; refine (toBox_any a b n c m d f g _ (hf.below (stepA hB340 (by first | exact hw0.drew | exact (bAl hw0 _).drew))) (hg.below (stepA hB340 (by first | exact hw0.drew | exact (bAl hw0 _).drew)))).mono ?_; rintro e wa ⟨p1, p2, rfl, hP, hbn⟩; (first | (have hw1 := stepA hw0.drew hbn; clear hbn) | (obtain ⟨hw1, nb⟩ := nbxd hw0 hbn; clear hbn)))
               | (go_at_call_of 20 a2; refine (toBox_any a2 b2 n2 c2 m2 d2 f2 g2 _ (hf2.below (stepA hB340 (by first | exact hw1 | exact bAl hw1 _))) (hg2.below (stepA hB340 (by first | exact hw1 | exact bAl hw1 _)))).mono ?_; rintro e wb ⟨q1, q2, rfl, hQ, hbn⟩; (first | (have hw2 := stepA hw1 hbn; have nb := nb.on hbn; have hP := hP.on hbn; clear hbn) | (have hw2 := stepA hw1 hbn; have hP := hP.on hbn; clear hbn) | (obtain ⟨hw2, nb⟩ := nbx hw1 hbn; have hP := hP.on (below_al hbn); clear hbn)))
               | (go_at_call 26; refine (hI _ _ _ _ _ _ _ _ _ (by first | exact hP.fl1.fs hn hfb | exact (bp_al hP _).fl1.fs hn hfb) (by first | exact hP.fl2.fs hm hgb | exact (bp_al hP _).fl2.fs hm hgb) (by first | exact hQ.fl1.fs hn2 hfb2 | exact (bp_al hQ _).fl1.fs hn2 hfb2) (by first | exact hQ.fl2.fs hm2 hgb2 | exact (bp_al hQ _).fl2.fs hm2 hgb2)).mono ?_; rintro e wz ⟨a9, c9, b9, d9, rfl, hA, hbn⟩; (try simp only [size_al] at hA); (first | (have ngl := nb.lt; have hw3 := stepA hw2 hbn; have nb := nb.on hbn; clear hbn) | (have hw3 := stepA hw2 hbn; clear hbn) | (obtain ⟨hw3, nb⟩ := nbx hw2 hbn; have ngl := Nat.lt_succ_self wb.heap.size; clear hbn)); (try (have n1 := nb.c0; have n2 := nb.c1; have n3 := nb.fz 0; have n4 := nb.fz 1)))
               | (fail))
      all_goals
        go_wp2_with fail
        go_meet
        case rel =>
          first
          | exact ⟨_, _, _, _, _, _, _, rfl, rfl, hw3.size, bx_new _ _ rfl, bp_al hA _, hw2.size, by rw [size_al]; omega, .inr (Nat.le_refl _), bAl hw3 _⟩
          | exact ⟨_, _, _, _, _, _, _, rfl, rfl, (by first | exact Nat.le_refl _ | exact hw1.size | exact hw2.size), (nb.set 0 (by simp) _).set 1 (by simp) _, bp_far (bp_far hA 0 _ ngl) 1 _ ngl, (by first | exact hw2.size | exact Nat.le_succ_of_le hw2.size), by simp only [size_set]; exact Nat.le_refl _, .inl ngl, bSt hw3 (by first | exact Nat.le_refl _ | exact hw1.size | exact hw2.size)⟩
    case rest =>
      clear x341 x342 x343 x344
      obtain ⟨g9, a9, c9, b9, d9, lo9, hi9, rfl, rfl, hg9, z345, z346, hlo9, hhi9, hgl9, hb347⟩ := hcut
      generalize wc = w909 at *
      have hs348 := hb347.size
      have hlt9 := z345.lt
      clear hw0
      have z349 := z330.on hb347
      have z350 := z331.on hb347
      have z351 := z332.on hb347
      have z352 := z333.on hb347
      have z353 := z334.on hb347
      have z354 := z335.on hb347
      have z355 := z336.on hb347
      have z356 := z337.on hb347
      have z357 := z338.on hb347
      have z358 := z339.on hb347
      clear z330 z331 z332 z333 z334 z335 z336 z337 z338 z339
      have hB359 := stepA hB340 hb347
      clear hB340 hb347
      have x360 := z349.c0
      have x361 := z349.c1
      have x362 := z350.c0
      have x363 := z350.c1
      have x364 := z351.c0
      have x365 := z351.c1
      have x366 := z353.c0
      have x367 := z353.c1
      have x368 := z354.c0
      have x369 := z354.c1
      have x370 := z355.c0
      have x371 := z355.c1
      have x372 := z345.c0
      have x373 := z345.c1
      go_wp2_with fail
      refine (eqBox_any a9 b9 a3 b3 N c9 N d9 c3 d3 F G _ (z346.fl1.fs hN hFb) (z346.fl2.fs hN hGb) (z352.fl1.fs hN hFb) (z352.fl2.fs hN hGb)).mono ?_
      rintro e w374 ⟨rfl, hb375⟩
      have hs376 := hb375.size
      have z377 := z349.on hb375
      have z378 := z350.on hb375
      have z379 := z351.on hb375
      have z380 := z352.on hb375
      have z381 := z353.on hb375
      have z382 := z354.on hb375
      have z383 := z355.on hb375
      have z384 := z356.on hb375
      have z385 := z357.on hb375
      have z386 := z358.on hb375
      have z387 := z345.on hb375
      have z388 := z346.on hb375
      clear z349 z350 z351 z352 z353 z354 z355 z356 z357 z358 z345 z346
      have hB389 := stepA hB359 hb375
      clear hB359 hb375
      try simp only [size_al] at hs376
      clear x360 x361 x362 x363 x364 x365 x366 x367 x368 x369 x370 x371 x372 x373
      have x390 := z377.c0
      have x391 := z377.c1
      have x392 := z378.c0
      have x393 := z378.c1
      have x394 := z379.c0
      have x395 := z379.c1
      have x396 := z381.c0
      have x397 := z381.c1
      have x398 := z382.c0
      have x399 := z382.c1
      have x400 := z383.c0
      have x401 := z383.c1
      have x402 := z387.c0
      have x403 := z387.c1
      go_wp2_with fail
      refine (heldBox_any a6 b6 N c6 N d6 1 (w69.heap.size + 1) (w99.heap.size) _ hN hN (by omega) z386).mono ?_
      rintro e w404 ⟨rfl, hb405⟩
      have hs406 := hb405.size
      have z407 := z377.on hb405
      have z408 := z378.on hb405
      have z409 := z379.on hb405
      have z410 := z380.on hb405
      have z411 := z381.on hb405
      have z412 := z382.on hb405
      have z413 := z383.on hb405
      have z414 := z384.on hb405
      have z415 := z385.on hb405
      have z416 := z386.on hb405
      have z417 := z387.on hb405
      have z418 := z388.on hb405
      clear z377 z378 z379 z380 z381 z382 z383 z384 z385 z386 z387 z388
      have hB419 := stepA hB389 hb405
      clear hB389 hb405
      try simp only [size_al] at hs406
      clear x390 x391 x392 x393 x394 x395 x396 x397 x398 x399 x400 x401 x402 x403
      clear z407
      clear z408
      clear z409
      clear z410
      clear z411
      clear z412
      clear z413
      clear z414
      clear z415
      clear z416
      clear z417
      clear z418
      go_wp2
      go_ret
      exact ⟨rfl, hB419⟩
set_option maxHeartbeats 1000000 in
theorem hullLaw_long (a b a2 b2 : Option Addr) (n c m d n2 c2 m2 d2 : Nat) (w : World) (h : 1048576 < n + m + n2 + m2) (hn : n ≤ 9223372036854775807) (hm : m ≤ 9223372036854775807) (hn2 : n2 ≤ 9223372036854775807) (hm2 : m2 ≤ 9223372036854775807) :
    Calls Try.prog 5 #[bxv a n c b m d, bxv a2 n2 c2 b2 m2 d2] w fun e w' => e = .returned (.bool true) ∧ Below w.heap.size w w' := by
  have z1 := (bx_new (w := w) (bxL a n c b m d) 43 rfl).alloc (bxO a2 n2 c2 b2 m2 d2 43)
  have z2 := bx_new (w := w.alloc (bxO a n c b m d 43)) (b := w.heap.size + 1) (bxL a2 n2 c2 b2 m2 d2) 43 (by simp)
  have hB0 : Below w.heap.size w ((w.alloc (bxO a n c b m d 43)).alloc (bxO a2 n2 c2 b2 m2 d2 43)) := ((Below.refl _ _).alloc (Nat.le_refl _) _).alloc (by simp) _
  have x0 := z1.c0
  have x1 := z1.c1
  by_cases h1 : 1048576 < n + m
  · go_enter Try.func5, Try.ntmps5
    go_wp2_with fail
    refine (szBox_out a b n c m d 1048576 _ (by omega) (by omega) (by omega) hn hm).mono ?_
    rintro e w1 ⟨rfl, hb1⟩
    have hB1 := stepA hB0 hb1
    go_wp2
    go_ret
    exact ⟨rfl, hB1⟩
  · have j1 : ¬ (1048576 : Int) - (n : Int) - (m : Int) < 0 := by omega
    go_enter Try.func5, Try.ntmps5
    go_wp2_with fail
    refine (szBox_in a b n c m d 1048576 _ (by omega) (by omega)).mono ?_
    rintro e w1 ⟨rfl, hb1⟩
    have hB1 := stepA hB0 hb1
    have y0 := (z2.on hb1).c0
    have y1 := (z2.on hb1).c1
    clear x0 x1 hb1
    go_wp2_with fail
    refine (szBox_out a2 b2 n2 c2 m2 d2 (1048576 - (n : Int) - (m : Int)) _ (by omega) (by omega) (by omega) hn2 hm2).mono ?_
    rintro e w2 ⟨rfl, hb2⟩
    have hB2 := stepA hB1 hb2
    go_wp2
    go_ret
    exact ⟨rfl, hB2⟩
theorem hullLawAll (a b a2 b2 : Option Addr) (n c m d n2 c2 m2 d2 : Nat) (f g f2 g2 : Nat → Nat) (w : World) (hn : n ≤ 9223372036854775807) (hm : m ≤ 9223372036854775807) (hn2 : n2 ≤ 9223372036854775807) (hm2 : m2 ≤ 9223372036854775807) (hf : n ≤ 1048576 → FS w a n f) (hg : m ≤ 1048576 → FS w b m g) (hf2 : n2 ≤ 1048576 → FS w a2 n2 f2) (hg2 : m2 ≤ 1048576 → FS w b2 m2 g2) :
    Calls Try.prog 5 #[bxv a n c b m d, bxv a2 n2 c2 b2 m2 d2] w fun e w' => e = .returned (.bool true) ∧ Below w.heap.size w w' := by
  by_cases h : n + m + n2 + m2 ≤ 1048576
  · exact hullLaw a b a2 b2 n c m d n2 c2 m2 d2 f g f2 g2 w h (hf (by omega)) (hg (by omega)) (hf2 (by omega)) (hg2 (by omega))
  · exact hullLaw_long a b a2 b2 n c m d n2 c2 m2 d2 w (by omega) hn hm hn2 hm2
end Go.Proofs.Ytfciecoigfnnhaa
