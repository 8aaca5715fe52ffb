/- The walk of the law on PlanCrowd. -/
import Derived.Test.YtbndhhjgjalecaaDoorQCwPnS
import Derived.Test.YtbndhhjgjalecaaDoorQCwRq
import Derived.Test.YtbndhhjgjalecaaDoorQSzHave
import Derived.Test.YtbndhhjgjalecaaDoorQClKind
namespace Go.Proofs.YtbndhhjgjalecaaDoor
open Go.RowKit
theorem PlnIs.bd {W : Int} {n : Nat} {f : Nat → Int} {m : Nat} {g : Nat → Int} {tk : Int} {ok : Bool} {R : Nat → Nat → Int} {k : Nat} (h : PlnIs W n f m g tk ok R) (hk : k = if ok = true then m else 0) : k ≤ 5 ∧ (0 < k → tk.toNat + 1 ≤ 1000) := by
  rcases h with ⟨rfl, ⟨h1, h2, h3⟩, -⟩ | ⟨rfl, -⟩
  · have := (gtB_t h1).2.1
    rw [if_pos rfl] at hk
    exact ⟨by omega, fun _ => by omega⟩
  · have : k = 0 := by simpa using hk
    exact ⟨by omega, fun _ => by omega⟩
theorem PlnIs.same {W : Int} {n : Nat} {f : Nat → Int} {m : Nat} {g : Nat → Int} {tk : Int} {ok ok2 : Bool} {R R2 : Nat → Nat → Int} {k k2 : Nat} (h : PlnIs W n f m g tk ok R) (hk : k = if ok = true then m else 0) (h2 : PlnIs W n f m g tk ok2 R2) (hk2 : k2 = if ok2 = true then m else 0) : ok = ok2 ∧ k = k2 ∧ ∀ i, i < k2 → ∀ j, j < tk.toNat + 1 → R2 i j = R i j := by
  obtain ⟨rfl, hr⟩ := h2.uniq h
  refine ⟨rfl, by rw [hk, hk2], fun i hi j hj => ?_⟩
  cases ok2 with
  | true => exact hr rfl i (by rw [if_pos rfl] at hk2; omega) j (by omega)
  | false => have : k2 = 0 := by simpa using hk2
             omega
theorem markTripZ (a : Option Addr) (n cap : Nat) (m : Int) (lo hi : Nat) (F : Nat → Int) (w : World) (hn : n ≤ 1048576) (h0 : 0 ≤ m) (hm : m ≤ 4194304) (h : LQ w lo hi a (n * 2) F) :
    Calls Tryd.prog 23 #[.slice a n cap, .int .i64 m] w fun e w' => e = .returned (.int .i64 (m + ((n * 2 : Nat) : Int))) ∧ LQ w' lo hi a (n * 2) (fun i => m + (i : Int)) ∧ Turns lo hi w w' := by
  obtain ⟨k, rfl⟩ : ∃ k : Nat, m = (k : Int) := ⟨m.toNat, by omega⟩
  exact markTripT a n cap k lo hi F w hn (by omega) h
theorem markRV (a : Option Addr) (m cap k L lo hi : Nat) (R : Nat → Nat → Int) (V : Int) (hV : V = ((k + m * L : Nat) : Int)) (w : World) (hm : m ≤ 5) (hL0 : 0 < L) (hL : 0 < m → L ≤ 1000) (hk : k ≤ 1000) (h : RQ w lo hi a m L R) :
    Calls Tryd.prog 24 #[.slice a m cap, .int .i64 (k : Int)] w fun e w' => e = .returned (.int .i64 V) ∧ RQ w' lo hi a m L (mkR k L) ∧ Turns lo hi w w' := by
  rw [hV]; exact markR a m cap k L lo hi R w hm hL0 hL hk h
theorem heldRV (a : Option Addr) (m cap k L lo hi : Nat) (V : Int) (hV : V = ((k + m * L : Nat) : Int)) (w : World) (hm : m ≤ 5) (hL : 0 < m → L ≤ 1000) (hk : k ≤ 1000) (h : RQ w lo hi a m L (mkR k L)) :
    Calls Tryd.prog 25 #[.slice a m cap, .int .i64 (k : Int)] w fun e w' => e = .returned (.int .i64 V) ∧ w' = w := by
  rw [hV]; exact heldR a m cap k L lo hi w hm hL hk h
set_option maxRecDepth 20000 in
set_option maxHeartbeats 8000000 in
theorem planLaw (W : Int) (a b : Option Addr) (n c m d : Nat) (f g : Nat → Int) (tk : Int) (w : World) (hn : n ≤ 1048576) (hnm : (m : Int) ≤ (1048576 : Int) - (n : Int)) (hf : IL w a n f) (hg : IL w b (m * 2) g)
    (hT : Tab w) (hI : ∀ (a b : Option Addr) (c d : Nat) (w : World), Tab w → m ≤ d → IL w a n f → IL w b (m * 2) g → Calls Tryd.prog 8 #[cel W a n c, .slice b m d, .int .i64 tk] w fun e w' => AnsPn W n f m g tk w w' e ∧ Below w.heap.size w w') :
    Calls Tryd.prog 4 #[cel W a n c, .slice b m d, .int .i64 tk] w fun e w' => e = .returned (.bool true) ∧ Below w.heap.size w w' := by
  have j : ¬ (1048576 : Int) - (n : Int) < 0 := by omega
  have j2 : ¬ (1048576 : Int) - (n : Int) - (m : Int) < 0 := by omega
  have hm : m ≤ 1048576 := by omega
  have j3 : ¬ (1 : Int) + (n : Int) + (m : Int) * 2 < 0 := by omega
  go_enter Tryd.func4, Tryd.ntmps4
  have hB0 := Below.refl w.heap.size w
  have z1 := bx_new (b := w.heap.size) (w := w) [.int .i64 W, .slice a n c] 39 (by first | rfl | simp only [size_al])
  have hx2 : Below w.heap.size w (w.alloc (.cells #[.int .i64 W, .slice a n c] 39)) := (Below.refl _ _).alloc (Nat.le_refl _) _
  have hB3 := stepA hB0 hx2
  clear hB0 hx2
  have x4 := z1.c0
  have x5 := z1.c1
  go_wp2_with fail
  refine (szCells_in W a n c _ hn).mono ?_
  rintro e w6 ⟨rfl, hb7⟩
  have hs8 := hb7.size
  have z9 := z1.on hb7
  clear z1
  have hB10 := stepA hB3 hb7
  clear hB3 hb7
  try simp only [size_al] at hs8
  clear x4 x5
  have x11 := z9.c0
  have x12 := z9.c1
  go_wp2_with fail
  refine (szTrip_in b m d ((1048576 : Int) - (n : Int)) _ (by omega) (by omega)).mono ?_
  rintro e w13 ⟨rfl, hb14⟩
  have hs' := hb14.symm
  clear hb14
  subst hs'
  clear x11 x12
  have x15 := z9.c0
  have x16 := z9.c1
  go_wp2_with fail
  refine (toCells_any W a n c f _ hn (hf.below hB10)).mono ?_
  rintro e w17 ⟨a2, rfl, hL2, hb18⟩
  have hs19 := hb18.size
  have z20 := z9.on hb18
  clear z9
  have hB21 := stepA hB10 hb18
  clear hB10 hb18
  try simp only [size_al] at hs19
  try simp only [size_al] at hL2
  clear x15 x16
  have x22 := z20.c0
  have x23 := z20.c1
  go_wp2_with fail
  refine (toTripS_any b m d g _ hm (hg.below hB21)).mono ?_
  rintro e w24 ⟨rfl, hM2, hM2s, hb25⟩
  have hs26 := hb25.size
  have z27 := z20.on hb25
  have z28 := hL2.on hb25
  clear z20 hL2
  have hB29 := stepA hB21 hb25
  clear hB21 hb25
  try simp only [size_al] at hs26
  try simp only [size_al] at hM2 hM2s
  clear x22 x23
  have x30 := z27.c0
  have x31 := z27.c1
  go_wp2_with fail
  refine (sPlan W a2 (some ⟨w17.heap.size, 0, none⟩) n n m m f g tk _ hn hm z28.il hM2.il).mono ?_
  rintro e w32 ⟨⟨ok1, R1, k1, v1, c1, B1, C1, hp1, rfl, hk1, ho1⟩, hb33⟩
  have hs34 := hb33.size
  have z35 := z27.on hb33
  have z36 := z28.on hb33
  have z37 := hM2.on hb33
  clear z27 z28 hM2
  have hB38 := stepA hB29 hb33
  clear hB29 hb33
  try simp only [size_al] at hs34
  try simp only [size_al] at ho1
  have hq1 := ho1.rq (Nat.succ_pos _)
  clear ho1
  have hbd := hp1.bd hk1
  obtain ⟨hb5, hbL⟩ := hbd
  have HP1 : Hid (PlnIs W n f m g tk ok1 R1) := hp1
  have HK1 : Hid (k1 = if ok1 = true then m else 0) := hk1
  clear hp1 hk1
  have hkL : ∀ i, i < k1 → (fun _ : Nat => tk.toNat + 1) i ≤ 1048576 := fun i hi => by have := hbL (by omega); show tk.toNat + 1 ≤ 1048576; omega
  have HKL : Hid (∀ i, i < k1 → (fun _ : Nat => tk.toNat + 1) i ≤ 1048576) := hkL
  have HBL : Hid (0 < k1 → tk.toNat + 1 ≤ 1000) := hbL
  clear hkL hbL
  clear z36
  clear z37
  clear x30 x31
  have x39 := z35.c0
  have x40 := z35.c1
  go_wp2_with fail
  refine (toCells_any W a n c f _ hn (hf.below hB38)).mono ?_
  rintro e w41 ⟨a4, rfl, hL4, hb42⟩
  have hs43 := hb42.size
  have z44 := z35.on hb42
  have z45 := hq1.on hb42
  clear z35 hq1
  have hB46 := stepA hB38 hb42
  clear hB38 hb42
  try simp only [size_al] at hs43
  try simp only [size_al] at hL4
  have z47 := bx_new (b := w41.heap.size) (w := w41) [.int .i64 W, .slice a4 n n] 25 (by first | rfl | simp only [size_al])
  have hx48 : Below w41.heap.size w41 (w41.alloc (.cells #[.int .i64 W, .slice a4 n n] 25)) := (Below.refl _ _).alloc (Nat.le_refl _) _
  have z49 := z44.on hx48
  have z50 := z45.on hx48
  have z51 := hL4.on hx48
  clear z44 z45 hL4
  have hB52 := stepA hB46 hx48
  clear hB46 hx48
  clear x39 x40
  have x53 := z49.c0
  have x54 := z49.c1
  have x55 := z47.c0
  have x56 := z47.c1
  go_wp2_with fail
  refine (toTripS_any b m d g _ hm (hg.below hB52)).mono ?_
  rintro e w57 ⟨rfl, hM4, hM4s, hb58⟩
  have hs59 := hb58.size
  have z60 := z49.on hb58
  have z61 := z50.on hb58
  have z62 := z51.on hb58
  have z63 := z47.on hb58
  clear z49 z50 z51 z47
  have hB64 := stepA hB52 hb58
  clear hB52 hb58
  try simp only [size_al] at hs59
  try simp only [size_al] at hM4 hM4s
  clear x53 x54 x55 x56
  have x65 := z60.c0
  have x66 := z60.c1
  have x67 := z63.c0
  have x68 := z63.c1
  go_wp2_with fail
  refine (hI a4 (some ⟨w41.heap.size + 1, 0, none⟩) n m _ (hT.on hB64) (Nat.le_refl _) z62.il hM4.il).mono ?_
  rintro e w69 ⟨⟨ok2, R2, k2, v2, c2, B2, C2, hp2, rfl, hk2, ho2⟩, hb70⟩
  have hs71 := hb70.size
  have z72 := z60.on hb70
  have z73 := z61.on hb70
  have z74 := z62.on hb70
  have z75 := z63.on hb70
  have z76 := hM4.on hb70
  clear z60 z61 z62 z63 hM4
  have hB77 := stepA hB64 hb70
  clear hB64 hb70
  try simp only [size_al] at hs71
  try simp only [size_al] at ho2
  have hq2 := ho2.rq (Nat.succ_pos _)
  clear ho2
  have hcg := HP1.out.same HK1.out hp2 hk2
  obtain ⟨hok, hkk, hrr⟩ := hcg
  subst hok
  subst hkk
  have hr2 := hq2.congr hrr
  clear hq2 hrr hp2 hk2
  clear x65 x66 x67 x68
  have x78 := z72.c0
  have x79 := z72.c1
  have x80 := z75.c0
  have x81 := z75.c1
  go_wp2_with fail
  refine (eqR_any v2 v1 k1 c2 c1 (fun _ => tk.toNat + 1) R1 _ (by omega) HKL.out hr2.rr z73.rr).mono ?_
  rintro e w82 ⟨rfl, hb83⟩
  have hs84 := hb83.size
  have z85 := z72.on hb83
  have z86 := z73.on hb83
  have z87 := z74.on hb83
  have z88 := z75.on hb83
  have z89 := z76.on hb83
  have z90 := hr2.on hb83
  clear z72 z73 z74 z75 z76 hr2
  have hB91 := stepA hB77 hb83
  clear hB77 hb83
  try simp only [size_al] at hs84
  clear x78 x79 x80 x81
  have x92 := z85.c0
  have x93 := z85.c1
  have x94 := z88.c0
  have x95 := z88.c1
  go_wp2_with fail
  have hw96 := Below.refl w82.heap.size w82
  go_region_held3 (fun w' => w'.cell? ⟨w.heap.size, 0, none⟩ = some (.int .i64 W) ∧ w'.cell? ⟨w.heap.size, 1, none⟩ = some (.slice a n c) ∧ w'.cell? ⟨w41.heap.size, 0, none⟩ = some (.int .i64 W) ∧ w'.cell? ⟨w41.heap.size, 1, none⟩ = some (.slice a4 n n))
    (first | (exact ⟨(z85.on hw96.drew).c0, (z85.on hw96.drew).c1, (z88.on hw96.drew).c0, (z88.on hw96.drew).c1⟩) | (exact ⟨(z85.on hw99).c0, (z85.on hw99).c1, (z88.on hw99).c0, (z88.on hw99).c1⟩) | (exact ⟨(z85.on hw102).c0, (z85.on hw102).c1, (z88.on hw102).c0, (z88.on hw102).c1⟩) | (fail))
    (first | (go_at_call 17; refine (toCells_any W a n c f _ hn (hf.below (stepA hB91 hw96.drew))).mono ?_; rintro e w97 ⟨a9, rfl, hL9, hb98⟩; have hw99 := stepA hw96.drew hb98; clear hb98) | (go_at_call 20; refine (eqCells_any W _ _ n _ _ f _ hn (z87.on hw99).il hL9.il).mono ?_; rintro e w100 ⟨rfl, hb101⟩; have hw102 := stepA hw99 hb101; clear hb101) | (fail))
  have hs103 := hw102.size
  try simp only [size_al] at hs103
  have z104 := z85.on hw102
  have z105 := z86.on hw102
  have z106 := z87.on hw102
  have z107 := z88.on hw102
  have z108 := z89.on hw102
  have z109 := z90.on hw102
  clear z85 z86 z87 z88 z89 z90
  have hB110 := stepA hB91 hw102
  clear hB91
  clear hL9
  clear x92 x93 x94 x95
  have x111 := z104.c0
  have x112 := z104.c1
  have x113 := z107.c0
  have x114 := z107.c1
  go_wp2_with fail
  refine (toTripS_any b m d g _ hm (hg.below hB110)).mono ?_
  rintro e w115 ⟨rfl, hM6, hM6s, hb116⟩
  have hs117 := hb116.size
  have z118 := z104.on hb116
  have z119 := z105.on hb116
  have z120 := z106.on hb116
  have z121 := z107.on hb116
  have z122 := z108.on hb116
  have z123 := z109.on hb116
  clear z104 z105 z106 z107 z108 z109
  have hB124 := stepA hB110 hb116
  clear hB110 hb116
  try simp only [size_al] at hs117
  try simp only [size_al] at hM6 hM6s
  clear x111 x112 x113 x114
  have x125 := z118.c0
  have x126 := z118.c1
  have x127 := z121.c0
  have x128 := z121.c1
  go_wp2_with fail
  refine (eqTripS_any (some ⟨w41.heap.size + 1, 0, none⟩) (some ⟨w100.heap.size, 0, none⟩) m m m g _ hm z122.il hM6.il).mono ?_
  rintro e w129 ⟨rfl, hb130⟩
  have hs131 := hb130.size
  have z132 := z118.on hb130
  have z133 := z119.on hb130
  have z134 := z120.on hb130
  have z135 := z121.on hb130
  have z136 := z122.on hb130
  have z137 := z123.on hb130
  have z138 := hM6.on hb130
  clear z118 z119 z120 z121 z122 z123 hM6
  have hB139 := stepA hB124 hb130
  clear hB124 hb130
  try simp only [size_al] at hs131
  clear z138
  clear x125 x126 x127 x128
  have x140 := z132.c0
  have x141 := z132.c1
  have x142 := z135.c0
  have x143 := z135.c1
  go_wp2_with fail
  refine (markCells_any W a4 n n 1 (w32.heap.size) (w41.heap.size) f _ hn (by omega) z134).mono ?_
  rintro e w144 ⟨rfl, z146, ht145⟩
  have hs147 := ht145.size
  try simp only [size_al] at hs147
  have z148 := z132.turns ht145 (by first | omega | (simp only [size_al]; omega))
  have z149 := z133.turns ht145 (by first | omega | (simp only [size_al]; omega))
  have z150 := z135.turns ht145 (by first | omega | (simp only [size_al]; omega))
  have z151 := z136.turns ht145 (by first | omega | (simp only [size_al]; omega))
  have z152 := z137.turns ht145 (by first | omega | (simp only [size_al]; omega))
  clear z132 z133 z135 z136 z137
  have hB153 := hB139.trans (ht145.below (by omega) (by first | omega | (simp only [size_al]; omega)))
  clear hB139 ht145 z134
  clear x140 x141 x142 x143
  have x154 := z148.c0
  have x155 := z148.c1
  have x156 := z150.c0
  have x157 := z150.c1
  go_wp2_with fail
  refine (markTripZ (some ⟨w41.heap.size + 1, 0, none⟩) m m ((1 : Int) + (n : Int)) (w41.heap.size + 1) (w41.heap.size + 1 + 1) g _ hm (by omega) (by omega) z151).mono ?_
  rintro e w158 ⟨rfl, z160, ht159⟩
  have hs161 := ht159.size
  try simp only [size_al] at hs161
  have z162 := z148.turns ht159 (by first | omega | (simp only [size_al]; omega))
  have z163 := z149.turns ht159 (by first | omega | (simp only [size_al]; omega))
  have z164 := z150.turns ht159 (by first | omega | (simp only [size_al]; omega))
  have z165 := z152.turns ht159 (by first | omega | (simp only [size_al]; omega))
  have z166 := z146.turns ht159 (by first | omega | (simp only [size_al]; omega))
  clear z148 z149 z150 z152 z146
  have hB167 := hB153.trans (ht159.below (by omega) (by first | omega | (simp only [size_al]; omega)))
  clear hB153 ht159 z151
  clear x154 x155 x156 x157
  have x168 := z162.c0
  have x169 := z162.c1
  have x170 := z164.c0
  have x171 := z164.c1
  go_wp2_with fail
  refine (eqR_any v2 v1 k1 c2 c1 (fun _ => tk.toNat + 1) R1 _ (by omega) HKL.out z165.rr z163.rr).mono ?_
  rintro e w172 ⟨rfl, hb173⟩
  have hs174 := hb173.size
  have z175 := z162.on hb173
  have z176 := z163.on hb173
  have z177 := z164.on hb173
  have z178 := z165.on hb173
  have z179 := z166.on hb173
  have z180 := z160.on hb173
  clear z162 z163 z164 z165 z166 z160
  have hB181 := stepA hB167 hb173
  clear hB167 hb173
  try simp only [size_al] at hs174
  obtain ⟨V, hV⟩ : ∃ V : Int, V = ((1 + k1 * (tk.toNat + 1) : Nat) : Int) := ⟨_, rfl⟩
  have hV0 : ¬ V < 0 := by omega
  have HV : Hid (V = ((1 + k1 * (tk.toNat + 1) : Nat) : Int)) := hV
  clear hV
  clear x168 x169 x170 x171
  have x182 := z175.c0
  have x183 := z175.c1
  have x184 := z177.c0
  have x185 := z177.c1
  go_wp2_with fail
  refine (markRV v2 k1 c2 1 (tk.toNat + 1) (w57.heap.size) (w69.heap.size) R1 V HV.out _ hb5 (Nat.succ_pos _) HBL.out (by omega) z178).mono ?_
  rintro e w186 ⟨rfl, z188, ht187⟩
  have hs189 := ht187.size
  try simp only [size_al] at hs189
  have z190 := z175.turns ht187 (by first | omega | (simp only [size_al]; omega))
  have z191 := z176.turns ht187 (by first | omega | (simp only [size_al]; omega))
  have z192 := z177.turns ht187 (by first | omega | (simp only [size_al]; omega))
  have z193 := z179.turns ht187 (by first | omega | (simp only [size_al]; omega))
  have z194 := z180.turns ht187 (by first | omega | (simp only [size_al]; omega))
  clear z175 z176 z177 z179 z180
  have hB195 := hB181.trans (ht187.below (by omega) (by first | omega | (simp only [size_al]; omega)))
  clear hB181 ht187 z178
  clear x182 x183 x184 x185
  have x196 := z190.c0
  have x197 := z190.c1
  have x198 := z192.c0
  have x199 := z192.c1
  go_wp2_with fail
  refine (heldRV v2 k1 c2 1 (tk.toNat + 1) (w57.heap.size) (w69.heap.size) V HV.out _ hb5 HBL.out (by omega) z188).mono ?_
  rintro e w200 ⟨rfl, hb201⟩
  have hs' := hb201.symm
  clear hb201
  subst hs'
  clear x196 x197 x198 x199
  have x202 := z190.c0
  have x203 := z190.c1
  have x204 := z192.c0
  have x205 := z192.c1
  go_wp2_with fail
  refine (toCells_any W a n c f _ hn (hf.below hB195)).mono ?_
  rintro e w206 ⟨a7, rfl, hL7, hb207⟩
  have hs208 := hb207.size
  have z209 := z190.on hb207
  have z210 := z191.on hb207
  have z211 := z192.on hb207
  have z212 := z193.on hb207
  have z213 := z194.on hb207
  have z214 := z188.on hb207
  clear z190 z191 z192 z193 z194 z188
  have hB215 := stepA hB195 hb207
  clear hB195 hb207
  try simp only [size_al] at hs208
  try simp only [size_al] at hL7
  clear x202 x203 x204 x205
  have x216 := z209.c0
  have x217 := z209.c1
  have x218 := z211.c0
  have x219 := z211.c1
  go_wp2_with fail
  refine (toTripS_any b m d g _ hm (hg.below hB215)).mono ?_
  rintro e w220 ⟨rfl, hM7, hM7s, hb221⟩
  have hs222 := hb221.size
  have z223 := z209.on hb221
  have z224 := z210.on hb221
  have z225 := z211.on hb221
  have z226 := z212.on hb221
  have z227 := z213.on hb221
  have z228 := z214.on hb221
  have z229 := hL7.on hb221
  clear z209 z210 z211 z212 z213 z214 hL7
  have hB230 := stepA hB215 hb221
  clear hB215 hb221
  try simp only [size_al] at hs222
  try simp only [size_al] at hM7 hM7s
  clear x216 x217 x218 x219
  have x231 := z223.c0
  have x232 := z223.c1
  have x233 := z225.c0
  have x234 := z225.c1
  go_wp2_with fail
  refine (hI a7 (some ⟨w206.heap.size, 0, none⟩) n m _ (hT.on hB230) (Nat.le_refl _) z229.il hM7.il).mono ?_
  rintro e w235 ⟨⟨ok3, R3, k3, v3, c3, B3, C3, hp3, rfl, hk3, ho3⟩, hb236⟩
  have hs237 := hb236.size
  have z238 := z223.on hb236
  have z239 := z224.on hb236
  have z240 := z225.on hb236
  have z241 := z226.on hb236
  have z242 := z227.on hb236
  have z243 := z228.on hb236
  have z244 := z229.on hb236
  have z245 := hM7.on hb236
  clear z223 z224 z225 z226 z227 z228 z229 hM7
  have hB246 := stepA hB230 hb236
  clear hB230 hb236
  try simp only [size_al] at hs237
  try simp only [size_al] at ho3
  have hq3 := ho3.rq (Nat.succ_pos _)
  clear ho3
  have hcg := HP1.out.same HK1.out hp3 hk3
  obtain ⟨hok, hkk, hrr⟩ := hcg
  subst hok
  subst hkk
  have hr3 := hq3.congr hrr
  clear hq3 hrr hp3 hk3
  clear z244
  clear z245
  clear x231 x232 x233 x234
  have x247 := z238.c0
  have x248 := z238.c1
  have x249 := z240.c0
  have x250 := z240.c1
  go_wp2_with fail
  refine (eqR_any v3 v1 k1 c3 c1 (fun _ => tk.toNat + 1) R1 _ (by omega) HKL.out hr3.rr z239.rr).mono ?_
  rintro e w251 ⟨rfl, hb252⟩
  have hs253 := hb252.size
  have z254 := z238.on hb252
  have z255 := z239.on hb252
  have z256 := z240.on hb252
  have z257 := z241.on hb252
  have z258 := z242.on hb252
  have z259 := z243.on hb252
  have z260 := hr3.on hb252
  clear z238 z239 z240 z241 z242 z243 hr3
  have hB261 := stepA hB246 hb252
  clear hB246 hb252
  try simp only [size_al] at hs253
  clear x247 x248 x249 x250
  have x262 := z254.c0
  have x263 := z254.c1
  have x264 := z256.c0
  have x265 := z256.c1
  go_wp2_with fail
  refine (heldRV v2 k1 c2 1 (tk.toNat + 1) (w57.heap.size) (w69.heap.size) V HV.out _ hb5 HBL.out (by omega) z259).mono ?_
  rintro e w266 ⟨rfl, hb267⟩
  have hs' := hb267.symm
  clear hb267
  subst hs'
  clear x262 x263 x264 x265
  clear z254
  clear z255
  clear z256
  clear z257
  clear z258
  clear z259
  clear z260
  go_wp2
  go_ret
  exact ⟨rfl, hB261⟩
set_option maxHeartbeats 400000 in
theorem planLaw_long (W : Int) (a : Option Addr) (n c : Nat) (b : Option Addr) (m d : Nat) (tk : Int) (w : World) (h : 1048576 < n) (hn : n ≤ 9223372036854775807) :
    Calls Tryd.prog 4 #[cel W a n c, .slice b m d, .int .i64 tk] w fun e w' => e = .returned (.bool true) ∧ Below w.heap.size w w' := by
  go_enter Tryd.func4, Tryd.ntmps4
  have hB0 : Below w.heap.size w (w.alloc (celO W a n c 39)) := ((Below.refl w.heap.size w).alloc (Nat.le_refl _) _)
  go_wp2_with fail
  refine (szCells_out W a n c _ h hn).mono ?_
  rintro e w1 ⟨rfl, hb1⟩
  have hB1 := stepA hB0 hb1
  go_wp2
  go_ret
  exact ⟨rfl, hB1⟩
set_option maxHeartbeats 400000 in
theorem planLaw_long2 (W : Int) (a b : Option Addr) (n c m d : Nat) (tk : Int) (w : World) (hn : n ≤ 1048576) (h : (1048576 : Int) - (n : Int) < (m : Int)) (hm : m ≤ 9223372036854775807) :
    Calls Tryd.prog 4 #[cel W a n c, .slice b m d, .int .i64 tk] w fun e w' => e = .returned (.bool true) ∧ Below w.heap.size w w' := by
  have hB0 : Below w.heap.size w (w.alloc (celO W a n c 39)) := (Below.refl _ _).alloc (Nat.le_refl _) _
  have j : ¬ (1048576 : Int) - (n : Int) < 0 := by omega
  go_enter Tryd.func4, Tryd.ntmps4
  go_wp2_with fail
  refine (szCells_in W a n c _ hn).mono ?_
  rintro e w1 ⟨rfl, hb1⟩
  have hB1 := stepA hB0 hb1
  go_wp2_with fail
  refine (szTrip_out b m d ((1048576 : Int) - (n : Int)) _ h (by omega) (by omega) hm).mono ?_
  rintro e w2 ⟨rfl, hw2⟩
  have hs' := hw2.symm
  clear hw2
  subst hs'
  go_wp2
  go_ret
  exact ⟨rfl, hB1⟩
theorem planAll (W : Int) (a b : Option Addr) (n c m d : Nat) (f g : Nat → Int) (tk : Int) (w : World) (hn : n ≤ 9223372036854775807) (hm : m ≤ 9223372036854775807) (hf : IL w a n f) (hg : IL w b (m * 2) g)
    (hT : Tab w) (hI : n ≤ 1048576 → m ≤ 1048576 → ∀ (a b : Option Addr) (c d : Nat) (w : World), Tab w → m ≤ d → IL w a n f → IL w b (m * 2) g → Calls Tryd.prog 8 #[cel W a n c, .slice b m d, .int .i64 tk] w fun e w' => AnsPn W n f m g tk w w' e ∧ Below w.heap.size w w') :
    Calls Tryd.prog 4 #[cel W a n c, .slice b m d, .int .i64 tk] w fun e w' => e = .returned (.bool true) ∧ Below w.heap.size w w' := by
  by_cases h : n ≤ 1048576
  · by_cases h2 : (m : Int) ≤ (1048576 : Int) - (n : Int)
    · exact planLaw W a b n c m d f g tk w h h2 hf hg hT (hI h (by omega))
    · exact planLaw_long2 W a b n c m d tk w h (by omega) hm
  · exact planLaw_long W a n c b m d tk w (by omega) hn
end Go.Proofs.YtbndhhjgjalecaaDoor
