/- The walk of the law on BookLane (tools/gen_bklaw.py). -/
import Derived.Test.YtdpkmobmlpfjpaaBlI
import Derived.Test.YtdpkmobmlpfjpaaBlS
import Derived.Test.YtdpkmobmlpfjpaaFkBk1
import Derived.Test.YtdpkmobmlpfjpaaBkMk
import Derived.Deep.RegionHeld3
namespace Go.Proofs.Ytdpkmobmlpfjpaa
open Go.RowKit
set_option maxRecDepth 20000 in
set_option maxHeartbeats 8000000 in
theorem bookLaw (a : Option Addr) (n c : Nat) (F : Nat → Int) (bl bf bt bw : Int) (w : World) (hn : n ≤ 1048576) (hf : IL w a (n * 4) F) (N : Nat) (G : Nat → Int) (q : Bool) (hN : N ≤ 1000) (hS : ∀ (g : Nat) w, IL w (some ⟨g, 0, none⟩) (n * 4) F → Calls Try.prog 10 #[.slice (some ⟨g, 0, none⟩) n n, bkv bl bf bt bw] w fun e w' => AnsBk w w' e N G q ∧ Below w.heap.size w w') (hI : ∀ (g : Nat) w, IL w (some ⟨g, 0, none⟩) (n * 4) F → Calls Try.prog 9 #[.slice (some ⟨g, 0, none⟩) n n, bkv bl bf bt bw] w fun e w' => AnsBk w w' e N G q ∧ Below w.heap.size w w') :
    Calls Try.prog 5 #[.slice a n c, bkv bl bf bt bw] w fun e w' => e = .returned (.bool true) ∧ Below w.heap.size w w' := by
  obtain ⟨Kx, hKx⟩ : ∃ K : Int, K = 1 + ((n * 4 : Nat) : Int) := ⟨_, rfl⟩
  obtain ⟨Kg, hKg⟩ : ∃ K : Int, K = 1 + ((N * 4 : Nat) : Int) := ⟨_, rfl⟩
  have j1 : ¬ Kx < 0 := by omega
  have j2 : ¬ Kg < 0 := by omega
  have j3 : (Kg != Kg) = false := by simp
  have j4 : (q != q) = false := by simp
  have HKx : Hid (Kx = 1 + ((n * 4 : Nat) : Int)) := hKx
  have HKg : Hid (Kg = 1 + ((N * 4 : Nat) : Int)) := hKg
  clear hKx hKg
  have j0 : ¬ (1048576 : Int) - (n : Int) < 0 := by omega
  have hB0 := Below.refl w.heap.size w
  have z1 := bx_new (b := w.heap.size) (w := w) [.int .i64 bl, .int .i64 bf, .int .i64 bt, .int .i64 bw] 43 (by first | rfl | simp only [size_al])
  have hx2 : Below w.heap.size w (w.alloc (.cells #[.int .i64 bl, .int .i64 bf, .int .i64 bt, .int .i64 bw] 43)) := (Below.refl _ _).alloc (Nat.le_refl _) _
  have hB3 := stepA hB0 hx2
  clear hB0 hx2
  go_enter Try.func5, Try.ntmps5
  obtain ⟨x4, x5, x6, x7⟩ := bx_four4 z1
  go_wp2_with fail
  refine (szBooked_in a n c 1048576 _ (by omega) (by omega)).mono ?_
  rintro e w8 ⟨rfl, hb9⟩
  have hs' := hb9.symm
  clear hb9
  subst hs'
  clear x4 x5 x6 x7
  generalize (w.alloc (.cells #[.int .i64 bl, .int .i64 bf, .int .i64 bt, .int .i64 bw] 43)) = wb at *
  have hlb := z1.lt
  obtain ⟨x10, x11, x12, x13⟩ := bx_four4 z1
  go_wp2_with fail
  have hw14 := Below.refl wb.heap.size wb
  go_region_held3 (fun w' => w'.cell? ⟨w.heap.size, 0, none⟩ = some (.int .i64 bl) ∧ w'.cell? ⟨w.heap.size, 1, none⟩ = some (.int .i64 bf) ∧ w'.cell? ⟨w.heap.size, 2, none⟩ = some (.int .i64 bt) ∧ w'.cell? ⟨w.heap.size, 3, none⟩ = some (.int .i64 bw))
    (first | (exact bx_four4 (z1.on hw14.drew)) | (exact bx_four4 (z1.on hw17)) | (exact bx_four4 (z1.on hw20)) | (exact bx_four4 (z1.on hw23)) | (fail))
    (first | (go_at_call 19; refine (toBookedS_any a n c F _ hn (hf.below (stepA hB3 hw14.drew))).mono ?_; rintro e w15 ⟨rfl, hQs0, hQs0s, hb16⟩; have hw17 := stepA hw14.drew hb16; clear hb16) | (go_at_call 21; refine (toBooked_any bl bf bt bw _).mono ?_; rintro e w18 ⟨rfl, hb19⟩; have hw20 := stepA hw17 hb19; have hRs0 := hQs0.on hb19; clear hQs0 hQs0s; clear hb19) | (go_at_call 10; refine (hS _ _ hRs0.il).mono ?_; rintro e w21 ⟨⟨as0, cs0, rfl, vs0⟩, hb22⟩; have hw23 := stepA hw20 hb22; clear hRs0; clear hb22) | (fail))
  have hs24 := hw23.size
  try simp only [size_al] at hs24
  have z25 := z1.on hw23
  clear z1
  have hB26 := stepA hB3 hw23
  clear hB3
  clear x10 x11 x12 x13
  obtain ⟨x27, x28, x29, x30⟩ := bx_four4 z25
  go_wp2_with fail
  refine (toBookedS_any a n c F _ hn (hf.below hB26)).mono ?_
  rintro e w31 ⟨rfl, hQ4, hQ4s, hb32⟩
  have hs33 := hb32.size
  have z34 := z25.on hb32
  have z35 := vs0.on hb32
  clear z25 vs0
  have hB36 := stepA hB26 hb32
  clear hB26 hb32
  try simp only [size_al] at hs33
  try simp only [size_al] at hQ4 hQ4s
  clear x27 x28 x29 x30
  obtain ⟨x37, x38, x39, x40⟩ := bx_four4 z34
  go_wp2_with fail
  refine (toBooked_any bl bf bt bw _).mono ?_
  rintro e w41 ⟨rfl, hb42⟩
  have hs43 := hb42.size
  have z44 := z34.on hb42
  have z45 := z35.on hb42
  have z46 := hQ4.on hb42
  clear z34 z35 hQ4
  have hB47 := stepA hB36 hb42
  clear hB36 hb42
  try simp only [size_al] at hs43
  clear x37 x38 x39 x40
  obtain ⟨x48, x49, x50, x51⟩ := bx_four4 z44
  go_wp2_with fail
  refine (hI _ _ z46.il).mono ?_
  rintro e w52 ⟨⟨ag0, cg0, rfl, vg0⟩, hb53⟩
  have hs54 := hb53.size
  have z55 := z44.on hb53
  have z56 := z45.on hb53
  have z57 := z46.on hb53
  clear z44 z45 z46
  have hB58 := stepA hB47 hb53
  clear hB47 hb53
  try simp only [size_al] at hs54
  clear x48 x49 x50 x51
  obtain ⟨x59, x60, x61, x62⟩ := bx_four4 z55
  go_wp2_with fail
  refine (eqBookedS_any ag0 as0 N cg0 cs0 G _ (by omega) vg0.il z56.il).mono ?_
  rintro e w63 ⟨rfl, hb64⟩
  have hs65 := hb64.size
  have z66 := z55.on hb64
  have z67 := z56.on hb64
  have z68 := z57.on hb64
  have z69 := vg0.on hb64
  clear z55 z56 z57 vg0
  have hB70 := stepA hB58 hb64
  clear hB58 hb64
  try simp only [size_al] at hs65
  clear x59 x60 x61 x62
  obtain ⟨x71, x72, x73, x74⟩ := bx_four4 z66
  go_wp2_with fail
  refine (toBookedS_any a n c F _ hn (hf.below hB70)).mono ?_
  rintro e w75 ⟨rfl, hQ6, hQ6s, hb76⟩
  have hs77 := hb76.size
  have z78 := z66.on hb76
  have z79 := z67.on hb76
  have z80 := z68.on hb76
  have z81 := z69.on hb76
  clear z66 z67 z68 z69
  have hB82 := stepA hB70 hb76
  clear hB70 hb76
  try simp only [size_al] at hs77
  try simp only [size_al] at hQ6 hQ6s
  clear x71 x72 x73 x74
  obtain ⟨x83, x84, x85, x86⟩ := bx_four4 z78
  go_wp2_with fail
  refine (eqBookedS_any (some ⟨w21.heap.size, 0, none⟩) (some ⟨w63.heap.size, 0, none⟩) n n n F _ hn z80.il hQ6.il).mono ?_
  rintro e w87 ⟨rfl, hb88⟩
  have hs89 := hb88.size
  have z90 := z78.on hb88
  have z91 := z79.on hb88
  have z92 := z80.on hb88
  have z93 := z81.on hb88
  have z94 := hQ6.on hb88
  clear z78 z79 z80 z81 hQ6
  have hB95 := stepA hB82 hb88
  clear hB82 hb88
  try simp only [size_al] at hs89
  clear z94
  clear x83 x84 x85 x86
  obtain ⟨x96, x97, x98, x99⟩ := bx_four4 z90
  go_wp2_with fail
  refine (markB1 (some ⟨w21.heap.size, 0, none⟩) n n Kx _ _ F _ hn HKx.out z92).mono ?_
  rintro e w100 ⟨rfl, z102, ht101⟩
  have hs103 := ht101.size
  try simp only [size_al] at hs103
  have z104 := z90.turns ht101 (by first | omega | (simp only [size_al]; omega))
  have z105 := z91.turns ht101 (by first | omega | (simp only [size_al]; omega))
  have z106 := z93.turns ht101 (by first | omega | (simp only [size_al]; omega))
  clear z90 z91 z93
  have hB107 := hB95.trans (ht101.below (by omega) (by first | omega | (simp only [size_al]; omega)))
  clear hB95 ht101 z92
  clear x96 x97 x98 x99
  obtain ⟨x108, x109, x110, x111⟩ := bx_four4 z104
  go_wp2_with fail
  refine (eqBookedS_any ag0 as0 N cg0 cs0 G _ (by omega) z106.il z105.il).mono ?_
  rintro e w112 ⟨rfl, hb113⟩
  have hs114 := hb113.size
  have z115 := z104.on hb113
  have z116 := z105.on hb113
  have z117 := z106.on hb113
  have z118 := z102.on hb113
  clear z104 z105 z106 z102
  have hB119 := stepA hB107 hb113
  clear hB107 hb113
  try simp only [size_al] at hs114
  clear z118
  clear x108 x109 x110 x111
  obtain ⟨x120, x121, x122, x123⟩ := bx_four4 z115
  go_wp2_with fail
  refine (markB1 ag0 N cg0 Kg _ _ G _ (by omega) HKg.out z117).mono ?_
  rintro e w124 ⟨rfl, z126, ht125⟩
  have hs127 := ht125.size
  try simp only [size_al] at hs127
  have z128 := z115.turns ht125 (by first | omega | (simp only [size_al]; omega))
  have z129 := z116.turns ht125 (by first | omega | (simp only [size_al]; omega))
  clear z115 z116
  have hB130 := hB119.trans (ht125.below (by omega) (by first | omega | (simp only [size_al]; omega)))
  clear hB119 ht125 z117
  clear x120 x121 x122 x123
  obtain ⟨x131, x132, x133, x134⟩ := bx_four4 z128
  go_wp2_with fail
  refine (heldB1 ag0 N cg0 Kg _ _ _ (by omega) HKg.out z126).mono ?_
  rintro e w135 ⟨rfl, hb136⟩
  have hs' := hb136.symm
  clear hb136
  subst hs'
  clear x131 x132 x133 x134
  obtain ⟨x137, x138, x139, x140⟩ := bx_four4 z128
  go_wp2_with fail
  have hw141 := Below.refl w124.heap.size w124
  go_region_held3 (fun w' => w'.cell? ⟨w.heap.size, 0, none⟩ = some (.int .i64 bl) ∧ w'.cell? ⟨w.heap.size, 1, none⟩ = some (.int .i64 bf) ∧ w'.cell? ⟨w.heap.size, 2, none⟩ = some (.int .i64 bt) ∧ w'.cell? ⟨w.heap.size, 3, none⟩ = some (.int .i64 bw))
    (first | (exact bx_four4 (z128.on hw141.drew)) | (exact bx_four4 (z128.on hw144)) | (exact bx_four4 (z128.on hw147)) | (exact bx_four4 (z128.on hw150)) | (fail))
    (first | (go_at_call 19; refine (toBookedS_any a n c F _ hn (hf.below (stepA hB130 hw141.drew))).mono ?_; rintro e w142 ⟨rfl, hQh0, hQh0s, hb143⟩; have hw144 := stepA hw141.drew hb143; clear hb143) | (go_at_call 21; refine (toBooked_any bl bf bt bw _).mono ?_; rintro e w145 ⟨rfl, hb146⟩; have hw147 := stepA hw144 hb146; have hRh0 := hQh0.on hb146; clear hQh0 hQh0s; clear hb146) | (go_at_call 9; refine (hI _ _ hRh0.il).mono ?_; rintro e w148 ⟨⟨ah0, ch0, rfl, vh0⟩, hb149⟩; have hw150 := stepA hw147 hb149; clear hRh0; clear hb149) | (fail))
  have hs151 := hw150.size
  try simp only [size_al] at hs151
  have z152 := z128.on hw150
  have z153 := z129.on hw150
  have z154 := z126.on hw150
  clear z128 z129 z126
  have hB155 := stepA hB130 hw150
  clear hB130
  clear x137 x138 x139 x140
  obtain ⟨x156, x157, x158, x159⟩ := bx_four4 z152
  go_wp2_with fail
  refine (eqBookedS_any ah0 as0 N ch0 cs0 G _ (by omega) vh0.il z153.il).mono ?_
  rintro e w160 ⟨rfl, hb161⟩
  have hs162 := hb161.size
  have z163 := z152.on hb161
  have z164 := z153.on hb161
  have z165 := z154.on hb161
  have z166 := vh0.on hb161
  clear z152 z153 z154 vh0
  have hB167 := stepA hB155 hb161
  clear hB155 hb161
  try simp only [size_al] at hs162
  clear x156 x157 x158 x159
  obtain ⟨x168, x169, x170, x171⟩ := bx_four4 z163
  go_wp2_with fail
  refine (heldB1 ag0 N cg0 Kg _ _ _ (by omega) HKg.out z165).mono ?_
  rintro e w172 ⟨rfl, hb173⟩
  have hs' := hb173.symm
  clear hb173
  subst hs'
  clear x168 x169 x170 x171
  clear z163
  clear z164
  clear z165
  clear z166
  go_wp2
  go_ret
  exact ⟨rfl, hB167⟩
set_option maxHeartbeats 400000 in
theorem bookLong (a : Option Addr) (n c : Nat) (bl bf bt bw : Int) (w : World) (h : 1048576 < n) (hm : n ≤ 9223372036854775807) :
    Calls Try.prog 5 #[.slice a n c, bkv bl bf bt bw] w fun e w' => e = .returned (.bool true) ∧ Below w.heap.size w w' := by
  go_enter Try.func5, Try.ntmps5
  go_wp2_with fail
  refine (szBooked_out a n c 1048576 _ (by omega) (by omega) (by omega) hm).mono ?_
  rintro e w' ⟨rfl, hw⟩
  have hs := hw.symm
  clear hw
  subst hs
  go_wp2
  go_ret
  exact ⟨rfl, (Below.refl _ _).alloc (Nat.le_refl _) _⟩
theorem bookAll (a : Option Addr) (n c : Nat) (F : Nat → Int) (bl bf bt bw : Int) (w : World) (hm : n ≤ 9223372036854775807) (hf : IL w a (n * 4) F) :
    Calls Try.prog 5 #[.slice a n c, bkv bl bf bt bw] w fun e w' => e = .returned (.bool true) ∧ Below w.heap.size w w' := by
  by_cases h : n ≤ 1048576
  · have hI := fun (g : Nat) w (hf : IL w (some ⟨g, 0, none⟩) (n * 4) F) => iBook (some ⟨g, 0, none⟩) n n F bl bf bt bw w h ⟨hf, Nat.le_refl _, .inr ⟨_, _, rfl⟩⟩
    have hS := fun (g : Nat) w (hf : IL w (some ⟨g, 0, none⟩) (n * 4) F) => sBook (some ⟨g, 0, none⟩) n n F bl bf bt bw w h ⟨hf, Nat.le_refl _, .inr ⟨_, _, rfl⟩⟩
    refine bookLaw a n c F bl bf bt bw w h hf (if bkR F n bl bf bt bw = true then n + 1 else 0) (insF F (plB F bl bf n) bl bf bt bw) (bkR F n bl bf bt bw) ?_ hS hI
    split
    · rename_i e
      have : bsB n F = true := by unfold bkR at e; simp at e; exact e.1
      have := (bsB_t this).1
      omega
    · omega
  · exact bookLong a n c bl bf bt bw w (by omega) hm
end Go.Proofs.Ytdpkmobmlpfjpaa
