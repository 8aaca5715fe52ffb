/- The walk of the law on PlayBoard (tools/gen_whlaw8.py). -/
import Derived.Test.YtacnegfmdckpbabDoorWhPyS
import Derived.Test.YtacnegfmdckpbabDoorWhMkB
import Derived.Test.YtacnegfmdckpbabDoorLqCopy
import Derived.Test.YtacnegfmdckpbabDoorU8Shelf
namespace Go.Proofs.YtacnegfmdckpbabDoor
open Go.RowKit
theorem plR_len (g : Nat → Bool) (K : Nat → Nat) (R : Nat → Nat → Int) (pl th : Nat → Int) : ∀ q i at', (oL (plR g K R pl th q i at')).length ≤ q := by
  intro q
  induction q with
  | zero => intro i at'; exact Nat.le_refl _
  | succ q ih =>
    intro i at'
    unfold plR
    split
    · exact Nat.zero_le _
    · split
      · exact Nat.zero_le _
      · have := ih (i + 1) (nxV g K R pl at' (th i)).1.toNat
        revert this
        cases plR g K R pl th q (i + 1) (nxV g K R pl at' (th i)).1.toNat with
        | none => intro _; exact Nat.zero_le _
        | some l => intro h; exact Nat.succ_le_succ h
theorem plV_len (n : Nat) (f : Nat → ByteArray) (m : Nat) (g : Nat → Bool) (p : Nat) (K : Nat → Nat) (R : Nat → Nat → Int) (pn : Nat) (pl : Nat → Int) (fr : Int) (th : Nat → Int) (L : Nat) : (oL (plV n f m g p K R pn pl fr th L)).length ≤ 31 := by
  unfold plV
  split
  · rename_i h
    have h1 := plR_len g K R pl th L 0 fr.toNat
    have h2 := h.2.2.2.2.1
    revert h1
    cases plR g K R pl th L 0 fr.toNat with
    | none => intro _; exact Nat.zero_le _
    | some l =>
      intro h3
      show l.length + 1 ≤ 31
      have : l.length ≤ L := h3
      omega
  · exact Nat.zero_le _
set_option maxRecDepth 200000 in
set_option maxHeartbeats 16000000 in
theorem playAll (a : Option Addr) (n c : Nat) (b : Option Addr) (m d : Nat) (x : Option Addr) (p q : Nat) (f : Nat → ByteArray) (g : Nat → Bool) (K : Nat → Nat) (R : Nat → Nat → Int) (pa : Option Addr) (pn pc : Nat) (pl : Nat → Int) (fr : Int) (ta : Option Addr) (L tc : Nat) (th : Nat → Int) (w : World) (hn0 : n ≤ 9223372036854775807) (hm0 : m ≤ 9223372036854775807) (hp0 : p ≤ 9223372036854775807) (hf0 : ∀ i, i < n → (f i).size ≤ 9223372036854775807) (hK0 : ∀ i, i < p → K i ≤ 9223372036854775807)
    (h : BD w a n f b m g x p K R) (hP : IL w pa pn pl) (ht : IL w ta L th) (hT : U8 w)
    (hI0 : n ≤ 1048576 → m ≤ 1048576 → p ≤ 1048576 → (∀ i, i < n → (f i).size ≤ 1048576) → (∀ i, i < p → K i ≤ 1048576) → pn ≤ 1048576 → L ≤ 1048576 → ∀ (a : Option Addr) (c : Nat) (b : Option Addr) (d : Nat) (x : Option Addr) (q : Nat) (pa : Option Addr) (pc : Nat) (ta : Option Addr) (tc : Nat) (w : World), n ≤ c → m ≤ d → p ≤ q → pn ≤ pc → L ≤ tc → BD w a n f b m g x p K R → IL w pa pn pl → IL w ta L th → U8 w → Calls Tryd.prog 21 #[bdv a n c b m d x p q, .slice pa pn pc, .int .i64 fr, .slice ta L tc] w fun e w' => AnsPb w w' e (plV n f m g p K R pn pl fr th L) ∧ Below w.heap.size w w') :
    Calls Tryd.prog 4 #[bdv a n c b m d x p q, .slice pa pn pc, .int .i64 fr, .slice ta L tc] w fun e w' => e = .returned (.bool true) ∧ Below w.heap.size w w' := by
  have HT : Hid (U8 w) := hT
  clear hT
  have hBx : Below w.heap.size w (w.alloc (bdO a n c b m d x p q 26)) := (Below.refl _ _).alloc (Nat.le_refl _) _
  by_cases hpn : pn ≤ 1048576
  case neg =>
    have hj : (1048576 : Int) < (pn : Int) := by omega
    go_enter Tryd.func4, Tryd.ntmps4
    go_wp2
    go_ret
    exact ⟨rfl, hBx⟩
  have hjpn : ¬ (1048576 : Int) < (pn : Int) := by omega
  by_cases hL : L ≤ 1048576
  case neg =>
    have hj : (1048576 : Int) < (L : Int) := by omega
    go_enter Tryd.func4, Tryd.ntmps4
    go_wp2
    go_ret
    exact ⟨rfl, hBx⟩
  have hjL : ¬ (1048576 : Int) < (L : Int) := by omega
  clear hBx
  go_enter Tryd.func4, Tryd.ntmps4
  have hB0 := Below.refl w.heap.size w
  have z1 := bx_new (b := w.heap.size) (w := w) [.slice a n c, .slice b m d, .slice x p q] 26 (by first | rfl | simp only [size_al])
  have hx2 : Below w.heap.size w (w.alloc (.cells #[.slice a n c, .slice b m d, .slice x p q] 26)) := (Below.refl _ _).alloc (Nat.le_refl _) _
  have hB3 := stepA hB0 hx2
  clear hB0 hx2
  have x4 := z1.c0
  have x5 := z1.c1
  have x6 := z1.c2
  go_wp2_with fail
  refine (szBoard_any a n c b m d x p q f g K R 1048576 _ (by omega) (by omega) hn0 hm0 hp0 hf0 hK0 (h.below hB3)).mono ?_
  rintro e w7 ⟨y, rfl, hy, hb8⟩
  have hs9 := hb8.size
  have z10 := z1.on hb8
  clear z1
  have hB11 := stepA hB3 hb8
  clear hB3 hb8
  try simp only [size_al] at hs9
  rcases hy with rfl | ⟨y0, y1, hn', hm', hp', hf', hK', hsK'⟩
  · go_wp2
    go_ret
    exact ⟨rfl, hB11⟩
  have hn : n ≤ 1048576 := by omega
  have hm : m ≤ 1048576 := by omega
  have hp : p ≤ 1048576 := by omega
  have hsK : sumK K p ≤ 1048576 := by omega
  have hf : ∀ i, i < n → (f i).size ≤ 1048576 := fun i hi => by have := hf' i hi; omega
  have hK : ∀ i, i < p → K i ≤ 1048576 := fun i hi => by have := hK' i hi; omega
  have y2 : ¬ y < 0 := by omega
  clear hn' hm' hp' hf' hK' hsK' hf0 hK0
  have hN : (oL (plV n f m g p K R pn pl fr th L)).length ≤ 1048576 := by have := plV_len n f m g p K R pn pl fr th L; omega
  have hS := fun a c b d x q pa pc ta tc w h h1 h2 => sPlay a n c b m d x p q f g K R pa pn pc pl fr ta L tc th w hn hm hp hf hK hL h h1 h2
  have hI := hI0 hn hm hp hf hK hpn hL
  clear hI0
  simp only [AnsPb] at hI hS
  generalize (oL (plV n f m g p K R pn pl fr th L)).length = N at hI hS hN
  generalize gl (oL (plV n f m g p K R pn pl fr th L)) = F at hI hS
  generalize (plV n f m g p K R pn pl fr th L).isSome = T at hI hS
  have ev2 : (T == T) = true := by simp
  have ev4 : (T != T) = false := by simp
  obtain ⟨kb, hkb⟩ : ∃ kb : Nat, kb = 1 + n + m + sumK K p := ⟨_, rfl⟩
  have hkb1 : kb ≤ 3145729 := by omega
  have kM := fun a c b d x q lo hi w h1 h2 => markBoard_any a n c b m d x p q lo hi f g K R w hn hm hp hsK h1 h2
  rw [← hkb] at kM
  clear hkb
  have jn : ¬ (1 : Int) + (N : Int) < 0 := by omega
  have jm : ((1 : Int) + (N : Int) == (1 : Int) + (N : Int)) = true := by simp
  clear hf
  clear x4 x5 x6
  have x12 := z10.c0
  have x13 := z10.c1
  have x14 := z10.c2
  go_wp2_with fail
  refine (toBoardP a n c b m d x p q f g K R _ hn hm hp hK (h.below (hB11))).mono ?_
  rintro e w15 ⟨p1, p2, p3, rfl, hBp, hb16⟩
  have hs17 := hb16.size
  have z18 := z10.on hb16
  clear z10
  have hB19 := stepA hB11 hb16
  clear hB11 hb16
  try simp only [size_al] at hs17
  try simp only [size_al] at hBp
  clear x12 x13 x14
  have x20 := z18.c0
  have x21 := z18.c1
  have x22 := z18.c2
  go_wp2_with fail
  refine (copyQ pa pn pc pl _ hpn (hP.below hB19)).mono ?_
  rintro e w23 ⟨rfl, hIi1, hIi1s, hb24⟩
  have hs25 := hb24.size
  have z26 := z18.on hb24
  have z27 := hBp.on hb24
  clear z18 hBp
  have hB28 := stepA hB19 hb24
  clear hB19 hb24
  try simp only [size_al] at hs25
  try simp only [size_al] at hIi1 hIi1s
  clear x20 x21 x22
  have x29 := z26.c0
  have x30 := z26.c1
  have x31 := z26.c2
  go_wp2_with fail
  refine (copyQ ta L tc th _ hL (ht.below hB28)).mono ?_
  rintro e w32 ⟨rfl, hIi2, hIi2s, hb33⟩
  have hs34 := hb33.size
  have z35 := z26.on hb33
  have z36 := z27.on hb33
  have z37 := hIi1.on hb33
  clear z26 z27 hIi1
  have hB38 := stepA hB28 hb33
  clear hB28 hb33
  try simp only [size_al] at hs34
  try simp only [size_al] at hIi2 hIi2s
  clear x29 x30 x31
  have x39 := z35.c0
  have x40 := z35.c1
  have x41 := z35.c2
  go_wp2_with fail
  refine (hS p1 n p2 m p3 p _ pn _ L _ z36.bd z37.il hIi2.il).mono ?_
  rintro e w42 ⟨⟨a3, c3, rfl, hA3⟩, hb43⟩
  have hs44 := hb43.size
  have z45 := z35.on hb43
  have z46 := z36.on hb43
  have z47 := z37.on hb43
  have z48 := hIi2.on hb43
  clear z35 z36 z37 hIi2
  have hB49 := stepA hB38 hb43
  clear hB38 hb43
  try simp only [size_al] at hs44
  try simp only [size_al] at hA3
  clear z46
  clear z47
  clear z48
  clear hS
  clear x39 x40 x41
  have x50 := z45.c0
  have x51 := z45.c1
  have x52 := z45.c2
  go_wp2_with fail
  refine (toBoardP a n c b m d x p q f g K R _ hn hm hp hK (h.below (hB49))).mono ?_
  rintro e w53 ⟨q1, q2, q3, rfl, hBq, hb54⟩
  have hs55 := hb54.size
  have z56 := z45.on hb54
  have z57 := hA3.on hb54
  clear z45 hA3
  have hB58 := stepA hB49 hb54
  clear hB49 hb54
  try simp only [size_al] at hs55
  try simp only [size_al] at hBq
  have z59 := bx_new (b := w53.heap.size) (w := w53) [.slice q1 n n, .slice q2 m m, .slice q3 p p] 34 (by first | rfl | simp only [size_al])
  have hx60 : Below w53.heap.size w53 (w53.alloc (.cells #[.slice q1 n n, .slice q2 m m, .slice q3 p p] 34)) := (Below.refl _ _).alloc (Nat.le_refl _) _
  have z61 := z56.on hx60
  have z62 := z57.on hx60
  have z63 := hBq.on hx60
  clear z56 z57 hBq
  have hB64 := stepA hB58 hx60
  clear hB58 hx60
  clear x50 x51 x52
  have x65 := z61.c0
  have x66 := z61.c1
  have x67 := z61.c2
  have x68 := z59.c0
  have x69 := z59.c1
  have x70 := z59.c2
  go_wp2_with fail
  refine (copyQ pa pn pc pl _ hpn (hP.below hB64)).mono ?_
  rintro e w71 ⟨rfl, hIy, hIys, hb72⟩
  have hs73 := hb72.size
  have z74 := z61.on hb72
  have z75 := z62.on hb72
  have z76 := z63.on hb72
  have z77 := z59.on hb72
  clear z61 z62 z63 z59
  have hB78 := stepA hB64 hb72
  clear hB64 hb72
  try simp only [size_al] at hs73
  try simp only [size_al] at hIy hIys
  clear x65 x66 x67 x68 x69 x70
  have x79 := z74.c0
  have x80 := z74.c1
  have x81 := z74.c2
  have x82 := z77.c0
  have x83 := z77.c1
  have x84 := z77.c2
  go_wp2_with fail
  refine (copyQ ta L tc th _ hL (ht.below hB78)).mono ?_
  rintro e w85 ⟨rfl, hIz, hIzs, hb86⟩
  have hs87 := hb86.size
  have z88 := z74.on hb86
  have z89 := z75.on hb86
  have z90 := z76.on hb86
  have z91 := z77.on hb86
  have z92 := hIy.on hb86
  clear z74 z75 z76 z77 hIy
  have hB93 := stepA hB78 hb86
  clear hB78 hb86
  try simp only [size_al] at hs87
  try simp only [size_al] at hIz hIzs
  clear x79 x80 x81 x82 x83 x84
  have x94 := z88.c0
  have x95 := z88.c1
  have x96 := z88.c2
  have x97 := z91.c0
  have x98 := z91.c1
  have x99 := z91.c2
  go_wp2_with fail
  refine (hI q1 n q2 m q3 p _ pn _ L _ (Nat.le_refl _) (Nat.le_refl _) (Nat.le_refl _) (Nat.le_refl _) (Nat.le_refl _) z90.bd z92.il hIz.il (HT.out.below hB93)).mono ?_
  rintro e w100 ⟨⟨a5, c5, rfl, hA5⟩, hb101⟩
  have hs102 := hb101.size
  have z103 := z88.on hb101
  have z104 := z89.on hb101
  have z105 := z90.on hb101
  have z106 := z91.on hb101
  have z107 := z92.on hb101
  have z108 := hIz.on hb101
  clear z88 z89 z90 z91 z92 hIz
  have hB109 := stepA hB93 hb101
  clear hB93 hb101
  try simp only [size_al] at hs102
  try simp only [size_al] at hA5
  clear x94 x95 x96 x97 x98 x99
  have x110 := z103.c0
  have x111 := z103.c1
  have x112 := z103.c2
  have x113 := z106.c0
  have x114 := z106.c1
  have x115 := z106.c2
  go_wp2_with fail
  refine (eqI_any a5 a3 N c5 c3 F _ hN hA5.il z104.il).mono ?_
  rintro e w116 ⟨rfl, hb117⟩
  have hs118 := hb117.size
  have z119 := z103.on hb117
  have z120 := z104.on hb117
  have z121 := z105.on hb117
  have z122 := z106.on hb117
  have z123 := z107.on hb117
  have z124 := z108.on hb117
  have z125 := hA5.on hb117
  clear z103 z104 z105 z106 z107 z108 hA5
  have hB126 := stepA hB109 hb117
  clear hB109 hb117
  try simp only [size_al] at hs118
  clear x110 x111 x112 x113 x114 x115
  have x127 := z119.c0
  have x128 := z119.c1
  have x129 := z119.c2
  have x130 := z122.c0
  have x131 := z122.c1
  have x132 := z122.c2
  go_wp2_with fail
  have hw133 := Below.refl w116.heap.size w116
  go_region_held3 (fun w' => w'.cell? ⟨w.heap.size, 0, none⟩ = some (.slice a n c) ∧ w'.cell? ⟨w.heap.size, 1, none⟩ = some (.slice b m d) ∧ w'.cell? ⟨w.heap.size, 2, none⟩ = some (.slice x p q) ∧ w'.cell? ⟨w53.heap.size, 0, none⟩ = some (.slice q1 n n) ∧ w'.cell? ⟨w53.heap.size, 1, none⟩ = some (.slice q2 m m) ∧ w'.cell? ⟨w53.heap.size, 2, none⟩ = some (.slice q3 p p))
    (first | (exact ⟨(z119.on hw133.drew).c0, (z119.on hw133.drew).c1, (z119.on hw133.drew).c2, (z122.on hw133.drew).c0, (z122.on hw133.drew).c1, (z122.on hw133.drew).c2⟩) | (exact ⟨(z119.on hw136).c0, (z119.on hw136).c1, (z119.on hw136).c2, (z122.on hw136).c0, (z122.on hw136).c1, (z122.on hw136).c2⟩) | (exact ⟨(z119.on hw139).c0, (z119.on hw139).c1, (z119.on hw139).c2, (z122.on hw139).c0, (z122.on hw139).c1, (z122.on hw139).c2⟩) | (fail))
    (first | (go_at_call 9; refine (toBoardP a n c b m d x p q f g K R _ hn hm hp hK (h.below (stepA hB126 (hw133.drew)))).mono ?_; rintro e w134 ⟨r11, r21, r31, rfl, hR1, hb135⟩; have hw136 := stepA hw133.drew hb135; clear hb135) | (go_at_call 13; refine (eqBoard_any _ _ n _ _ _ _ m _ _ _ _ p _ _ f g K R _ hn hm hp hK (z121.on (hw136)).bd hR1.bd).mono ?_; rintro e w137 ⟨rfl, hb138⟩; have hw139 := stepA hw136 hb138; clear hb138) | (fail))
  have hs140 := hw139.size
  try simp only [size_al] at hs140
  have z141 := z119.on hw139
  have z142 := z120.on hw139
  have z143 := z121.on hw139
  have z144 := z122.on hw139
  have z145 := z123.on hw139
  have z146 := z124.on hw139
  have z147 := z125.on hw139
  clear z119 z120 z121 z122 z123 z124 z125
  have hB148 := stepA hB126 hw139
  clear hB126
  clear hR1
  clear x127 x128 x129 x130 x131 x132
  have x149 := z141.c0
  have x150 := z141.c1
  have x151 := z141.c2
  have x152 := z144.c0
  have x153 := z144.c1
  have x154 := z144.c2
  go_wp2_with fail
  refine (copyQ pa pn pc pl _ hpn (hP.below hB148)).mono ?_
  rintro e w155 ⟨rfl, hIe, hIes, hb156⟩
  have hs157 := hb156.size
  have z158 := z141.on hb156
  have z159 := z142.on hb156
  have z160 := z143.on hb156
  have z161 := z144.on hb156
  have z162 := z145.on hb156
  have z163 := z146.on hb156
  have z164 := z147.on hb156
  clear z141 z142 z143 z144 z145 z146 z147
  have hB165 := stepA hB148 hb156
  clear hB148 hb156
  try simp only [size_al] at hs157
  try simp only [size_al] at hIe hIes
  clear x149 x150 x151 x152 x153 x154
  have x166 := z158.c0
  have x167 := z158.c1
  have x168 := z158.c2
  have x169 := z161.c0
  have x170 := z161.c1
  have x171 := z161.c2
  go_wp2_with fail
  refine (eqI_any (some ⟨w53.heap.size + 1, 0, none⟩) (some ⟨w137.heap.size, 0, none⟩) pn pn pn pl _ hpn z162.il hIe.il).mono ?_
  rintro e w172 ⟨rfl, hb173⟩
  have hs174 := hb173.size
  have z175 := z158.on hb173
  have z176 := z159.on hb173
  have z177 := z160.on hb173
  have z178 := z161.on hb173
  have z179 := z162.on hb173
  have z180 := z163.on hb173
  have z181 := z164.on hb173
  have z182 := hIe.on hb173
  clear z158 z159 z160 z161 z162 z163 z164 hIe
  have hB183 := stepA hB165 hb173
  clear hB165 hb173
  try simp only [size_al] at hs174
  clear z182
  clear x166 x167 x168 x169 x170 x171
  have x184 := z175.c0
  have x185 := z175.c1
  have x186 := z175.c2
  have x187 := z178.c0
  have x188 := z178.c1
  have x189 := z178.c2
  go_wp2_with fail
  refine (copyQ ta L tc th _ hL (ht.below hB183)).mono ?_
  rintro e w190 ⟨rfl, hIe, hIes, hb191⟩
  have hs192 := hb191.size
  have z193 := z175.on hb191
  have z194 := z176.on hb191
  have z195 := z177.on hb191
  have z196 := z178.on hb191
  have z197 := z179.on hb191
  have z198 := z180.on hb191
  have z199 := z181.on hb191
  clear z175 z176 z177 z178 z179 z180 z181
  have hB200 := stepA hB183 hb191
  clear hB183 hb191
  try simp only [size_al] at hs192
  try simp only [size_al] at hIe hIes
  clear x184 x185 x186 x187 x188 x189
  have x201 := z193.c0
  have x202 := z193.c1
  have x203 := z193.c2
  have x204 := z196.c0
  have x205 := z196.c1
  have x206 := z196.c2
  go_wp2_with fail
  refine (eqI_any (some ⟨w71.heap.size, 0, none⟩) (some ⟨w172.heap.size, 0, none⟩) L L L th _ hL z198.il hIe.il).mono ?_
  rintro e w207 ⟨rfl, hb208⟩
  have hs209 := hb208.size
  have z210 := z193.on hb208
  have z211 := z194.on hb208
  have z212 := z195.on hb208
  have z213 := z196.on hb208
  have z214 := z197.on hb208
  have z215 := z198.on hb208
  have z216 := z199.on hb208
  have z217 := hIe.on hb208
  clear z193 z194 z195 z196 z197 z198 z199 hIe
  have hB218 := stepA hB200 hb208
  clear hB200 hb208
  try simp only [size_al] at hs209
  clear z217
  clear x201 x202 x203 x204 x205 x206
  have x219 := z210.c0
  have x220 := z210.c1
  have x221 := z210.c2
  have x222 := z213.c0
  have x223 := z213.c1
  have x224 := z213.c2
  go_wp2_with fail
  refine (kM q1 n q2 m q3 p (w42.heap.size) (w53.heap.size) _ (by first | omega | (simp only [size_al]; omega)) z212).mono ?_
  rintro e w225 ⟨rfl, ht226⟩
  have hs227 := ht226.size
  try simp only [size_al] at hs227
  have z228 := z210.turns ht226 (by first | omega | (simp only [size_al]; omega))
  have z229 := z211.turns ht226 (by first | omega | (simp only [size_al]; omega))
  have z230 := z213.turns ht226 (by first | omega | (simp only [size_al]; omega))
  have z231 := z214.turns ht226 (by first | omega | (simp only [size_al]; omega))
  have z232 := z215.turns ht226 (by first | omega | (simp only [size_al]; omega))
  have z233 := z216.turns ht226 (by first | omega | (simp only [size_al]; omega))
  clear z210 z211 z213 z214 z215 z216
  have hB234 := hB218.trans (ht226.below (by omega) (by first | omega | (simp only [size_al]; omega)))
  clear hB218 ht226 z212
  clear x219 x220 x221 x222 x223 x224
  have x235 := z228.c0
  have x236 := z228.c1
  have x237 := z228.c2
  have x238 := z230.c0
  have x239 := z230.c1
  have x240 := z230.c2
  go_wp2_with fail
  refine (markZ (some ⟨w53.heap.size + 1, 0, none⟩) pn pn (kb : Int) (w53.heap.size + 1) (w53.heap.size + 1 + 1) pl _ hpn (by omega) (by omega) z231).mono ?_
  rintro e w241 ⟨rfl, -, ht242⟩
  have hs243 := ht242.size
  try simp only [size_al] at hs243
  have z244 := z228.turns ht242 (by first | omega | (simp only [size_al]; omega))
  have z245 := z229.turns ht242 (by first | omega | (simp only [size_al]; omega))
  have z246 := z230.turns ht242 (by first | omega | (simp only [size_al]; omega))
  have z247 := z232.turns ht242 (by first | omega | (simp only [size_al]; omega))
  have z248 := z233.turns ht242 (by first | omega | (simp only [size_al]; omega))
  clear z228 z229 z230 z232 z233
  have hB249 := hB234.trans (ht242.below (by omega) (by first | omega | (simp only [size_al]; omega)))
  clear hB234 ht242 z231
  clear x235 x236 x237 x238 x239 x240
  have x250 := z244.c0
  have x251 := z244.c1
  have x252 := z244.c2
  have x253 := z246.c0
  have x254 := z246.c1
  have x255 := z246.c2
  go_wp2_with fail
  refine (markZ (some ⟨w71.heap.size, 0, none⟩) L L ((kb : Int) + (pn : Int)) (w71.heap.size) (w71.heap.size + 1) th _ hL (by omega) (by omega) z247).mono ?_
  rintro e w256 ⟨rfl, -, ht257⟩
  have hs258 := ht257.size
  try simp only [size_al] at hs258
  have z259 := z244.turns ht257 (by first | omega | (simp only [size_al]; omega))
  have z260 := z245.turns ht257 (by first | omega | (simp only [size_al]; omega))
  have z261 := z246.turns ht257 (by first | omega | (simp only [size_al]; omega))
  have z262 := z248.turns ht257 (by first | omega | (simp only [size_al]; omega))
  clear z244 z245 z246 z248
  have hB263 := hB249.trans (ht257.below (by omega) (by first | omega | (simp only [size_al]; omega)))
  clear hB249 ht257 z247
  have jk : ¬ (kb : Int) + (pn : Int) + (L : Int) < 0 := by omega
  clear x250 x251 x252 x253 x254 x255
  have x264 := z259.c0
  have x265 := z259.c1
  have x266 := z259.c2
  have x267 := z261.c0
  have x268 := z261.c1
  have x269 := z261.c2
  go_wp2_with fail
  refine (eqI_any a5 a3 N c5 c3 F _ hN z262.il z260.il).mono ?_
  rintro e w270 ⟨rfl, hb271⟩
  have hs272 := hb271.size
  have z273 := z259.on hb271
  have z274 := z260.on hb271
  have z275 := z261.on hb271
  have z276 := z262.on hb271
  clear z259 z260 z261 z262
  have hB277 := stepA hB263 hb271
  clear hB263 hb271
  try simp only [size_al] at hs272
  clear x264 x265 x266 x267 x268 x269
  have x278 := z273.c0
  have x279 := z273.c1
  have x280 := z273.c2
  have x281 := z275.c0
  have x282 := z275.c1
  have x283 := z275.c2
  go_wp2_with fail
  refine (markT a5 N c5 1 (w85.heap.size) (w100.heap.size) F _ hN (by omega) z276).mono ?_
  rintro e w284 ⟨rfl, z286, ht285⟩
  have hs287 := ht285.size
  try simp only [size_al] at hs287
  have z288 := z273.turns ht285 (by first | omega | (simp only [size_al]; omega))
  have z289 := z274.turns ht285 (by first | omega | (simp only [size_al]; omega))
  have z290 := z275.turns ht285 (by first | omega | (simp only [size_al]; omega))
  clear z273 z274 z275
  have hB291 := hB277.trans (ht285.below (by omega) (by first | omega | (simp only [size_al]; omega)))
  clear hB277 ht285 z276
  clear x278 x279 x280 x281 x282 x283
  have x292 := z288.c0
  have x293 := z288.c1
  have x294 := z288.c2
  have x295 := z290.c0
  have x296 := z290.c1
  have x297 := z290.c2
  go_wp2_with fail
  refine (heldQ a5 N c5 1 (w85.heap.size) (w100.heap.size) _ hN (by omega) z286).mono ?_
  rintro e w298 ⟨rfl, hb299⟩
  have hs' := hb299.symm
  clear hb299
  subst hs'
  clear x292 x293 x294 x295 x296 x297
  have x300 := z288.c0
  have x301 := z288.c1
  have x302 := z288.c2
  have x303 := z290.c0
  have x304 := z290.c1
  have x305 := z290.c2
  go_wp2_with fail
  refine (toBoardP a n c b m d x p q f g K R _ hn hm hp hK (h.below (hB291))).mono ?_
  rintro e w306 ⟨r1, r2, r3, rfl, hBr, hb307⟩
  have hs308 := hb307.size
  have z309 := z288.on hb307
  have z310 := z289.on hb307
  have z311 := z290.on hb307
  have z312 := z286.on hb307
  clear z288 z289 z290 z286
  have hB313 := stepA hB291 hb307
  clear hB291 hb307
  try simp only [size_al] at hs308
  try simp only [size_al] at hBr
  clear x300 x301 x302 x303 x304 x305
  have x314 := z309.c0
  have x315 := z309.c1
  have x316 := z309.c2
  have x317 := z311.c0
  have x318 := z311.c1
  have x319 := z311.c2
  go_wp2_with fail
  refine (copyQ pa pn pc pl _ hpn (hP.below hB313)).mono ?_
  rintro e w320 ⟨rfl, hIi1, hIi1s, hb321⟩
  have hs322 := hb321.size
  have z323 := z309.on hb321
  have z324 := z310.on hb321
  have z325 := z311.on hb321
  have z326 := z312.on hb321
  have z327 := hBr.on hb321
  clear z309 z310 z311 z312 hBr
  have hB328 := stepA hB313 hb321
  clear hB313 hb321
  try simp only [size_al] at hs322
  try simp only [size_al] at hIi1 hIi1s
  clear x314 x315 x316 x317 x318 x319
  have x329 := z323.c0
  have x330 := z323.c1
  have x331 := z323.c2
  have x332 := z325.c0
  have x333 := z325.c1
  have x334 := z325.c2
  go_wp2_with fail
  refine (copyQ ta L tc th _ hL (ht.below hB328)).mono ?_
  rintro e w335 ⟨rfl, hIi2, hIi2s, hb336⟩
  have hs337 := hb336.size
  have z338 := z323.on hb336
  have z339 := z324.on hb336
  have z340 := z325.on hb336
  have z341 := z326.on hb336
  have z342 := z327.on hb336
  have z343 := hIi1.on hb336
  clear z323 z324 z325 z326 z327 hIi1
  have hB344 := stepA hB328 hb336
  clear hB328 hb336
  try simp only [size_al] at hs337
  try simp only [size_al] at hIi2 hIi2s
  clear x329 x330 x331 x332 x333 x334
  have x345 := z338.c0
  have x346 := z338.c1
  have x347 := z338.c2
  have x348 := z340.c0
  have x349 := z340.c1
  have x350 := z340.c2
  go_wp2_with fail
  refine (hI r1 n r2 m r3 p _ pn _ L _ (Nat.le_refl _) (Nat.le_refl _) (Nat.le_refl _) (Nat.le_refl _) (Nat.le_refl _) z342.bd z343.il hIi2.il (HT.out.below hB344)).mono ?_
  rintro e w351 ⟨⟨a8, c8, rfl, hA8⟩, hb352⟩
  have hs353 := hb352.size
  have z354 := z338.on hb352
  have z355 := z339.on hb352
  have z356 := z340.on hb352
  have z357 := z341.on hb352
  have z358 := z342.on hb352
  have z359 := z343.on hb352
  have z360 := hIi2.on hb352
  clear z338 z339 z340 z341 z342 z343 hIi2
  have hB361 := stepA hB344 hb352
  clear hB344 hb352
  try simp only [size_al] at hs353
  try simp only [size_al] at hA8
  clear x345 x346 x347 x348 x349 x350
  have x362 := z354.c0
  have x363 := z354.c1
  have x364 := z354.c2
  have x365 := z356.c0
  have x366 := z356.c1
  have x367 := z356.c2
  go_wp2_with fail
  refine (eqI_any a8 a3 N c8 c3 F _ hN hA8.il z355.il).mono ?_
  rintro e w368 ⟨rfl, hb369⟩
  have hs370 := hb369.size
  have z371 := z354.on hb369
  have z372 := z355.on hb369
  have z373 := z356.on hb369
  have z374 := z357.on hb369
  have z375 := z358.on hb369
  have z376 := z359.on hb369
  have z377 := z360.on hb369
  have z378 := hA8.on hb369
  clear z354 z355 z356 z357 z358 z359 z360 hA8
  have hB379 := stepA hB361 hb369
  clear hB361 hb369
  try simp only [size_al] at hs370
  clear x362 x363 x364 x365 x366 x367
  have x380 := z371.c0
  have x381 := z371.c1
  have x382 := z371.c2
  have x383 := z373.c0
  have x384 := z373.c1
  have x385 := z373.c2
  go_wp2_with fail
  refine (heldQ a5 N c5 1 (w85.heap.size) (w100.heap.size) _ hN (by omega) z374).mono ?_
  rintro e w386 ⟨rfl, hb387⟩
  have hs' := hb387.symm
  clear hb387
  subst hs'
  clear x380 x381 x382 x383 x384 x385
  clear z371
  clear z372
  clear z373
  clear z374
  clear z375
  clear z376
  clear z377
  clear z378
  go_wp2
  go_ret
  exact ⟨rfl, hB379⟩
end Go.Proofs.YtacnegfmdckpbabDoor
