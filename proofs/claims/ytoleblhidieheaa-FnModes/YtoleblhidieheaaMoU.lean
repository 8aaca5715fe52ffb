/- A part fails, a part is mended: the program's side. -/
import Derived.Test.YtoleblhidieheaaMoT
import Derived.Test.YtoleblhidieheaaWhCtS
import Derived.Deep.CutRange
namespace Go.Proofs.Ytoleblhidieheaa
open Go.RowKit
/-- what a change of a health leaves -/
def AnsHe (w w' : World) (B : Nat) (s m : Int) (b : Option Addr) (nn d : Nat) (N : Nat → ByteArray) (l : List ByteArray) : Prop :=
  (∃ a c, Hs w' B s m b nn d N a c l) ∧ Below B w w'
theorem ms_hurt : msV 2 ⟨#[104, 117, 114, 116]⟩ = 3 := by unfold msV; simp [ByteArray.toList_eq]
theorem ms_stop : msV 3 ⟨#[115, 116, 111, 112]⟩ = 4 := by unfold msV; simp [ByteArray.toList_eq]
theorem ms_heal : msV 3 ⟨#[104, 101, 97, 108]⟩ = 2 := by unfold msV; simp [ByteArray.toList_eq]
theorem bel_on {B : Nat} {w w1 w2 : World} (h : Below B w w1) (k : Below w1.heap.size w1 w2) (hB : B ≤ w1.heap.size) : Below B w w2 := h.trans (k.mono hB)
theorem clone_str (x : ByteArray) (w : World) (hx : x.size ≤ 1048576) :
    Calls Try.prog 47 #[.string x] w fun e w' => e = .returned (.string x) ∧ Below w.heap.size w w' := by
  have k := Any.stringslite_Clone Try.laysM316 x w (by omega)
  go_enter Try.func47, Try.ntmps47
  go_wp2_with fail
  refine k.mono ?_
  rintro e w2 ⟨rfl, hb⟩
  go_wp2
  go_ret
  exact ⟨rfl, hb⟩
def mFail (Q R : Bool) (m : Int) : Int := if Q = true ∧ m = 2 then 3 else if Q = true ∧ m = 3 ∧ R = false then 4 else m
def mMend (Q I : Bool) (m : Int) : Int := if Q = true ∧ m = 3 ∧ I = false then 2 else m
set_option maxRecDepth 20000 in
set_option maxHeartbeats 4000000 in
theorem fail_any (B : Nat) (s m : Int) (b : Option Addr) (nn d : Nat) (N : Nat → ByteArray) (a : Option Addr) (c : Nat) (l : List ByteArray) (x : ByteArray) (w : World) (hx : x.size ≤ 1048576) (hl : l.length ≤ 60) (h : Hs w B s m b nn d N a c l) :
    Calls Try.prog 39 #[.pointer (some ⟨B, 0, none⟩), .string x] w fun e w' => e = .returned (.tuple #[]) ∧ AnsHe w w' B s (mFail (inS N x nn) (inL l x) m) b nn d N (addL x l) := by
  have kB := bin_any (B + 1) a c l x w (by omega) h.sr h.fl
  have h1 := fun q => h.on (below_dr (Below.refl w.heap.size w) q)
  have hB1 := fun q => below_dr (Below.refl B w) q
  obtain ⟨c0, c1, c2, c3, c4⟩ := h.at
  have hbl := h.bx.lt
  have hmem : inL l x = false → x ∉ l := inL_no.1
  have hmem2 : inL l x = true → x ∈ l := inL_iff.1
  have HAd : Hid (inL l x = true → addL x l = l) := fun q => addL_in h.sr (hmem2 q)
  have HIn : Hid (inL l x = false → insL l (plc x l) x = addL x l) := fun q => plc_add (hmem q)
  have HSr : Hid (Srt (addL x l)) := addL_srt h.sr
  have HLe : Hid ((addL x l).length ≤ 61) := by have := addL_len x l; show _ ≤ _; omega
  have hpl := plc_le x l
  clear hmem hmem2
  generalize inL l x = R at *
  generalize plc x l = P at *
  cases R with
  | true =>
    have hAd := HAd.out rfl
    go_enter Try.func39, Try.ntmps39
    go_upto_region 3 with (first | (go_at_call 45; refine kB.mono ?_; rintro e w2 ⟨rfl, q, hw2⟩; subst hw2) | fail)
    have h4 := h1 q
    have hB4 := hB1 q
    rw [← hAd] at h4
    generalize w.drewN q = w4 at *
    clear h1 hB1 h HAd HIn HSr HLe hAd kB c0 c1 c2 c3 c4 hbl
    have kC := iContS b nn d N x w4 (by have := h4.n1; omega) h4.nd
    obtain ⟨c0, c1, c2, c3, c4_⟩ := h4.at
    have f2 := h4.bx.fz 2
    have hBl := h4.bx.lt
    have hBs : B ≤ w4.heap.size := Nat.le_of_lt hBl
    obtain ⟨Q, hQ⟩ : ∃ Q, inS N x nn = Q := ⟨_, rfl⟩
    have HQ : Hid (inS N x nn = Q) := hQ
    rw [hQ] at kC
    clear hQ
    cases Q with
    | false =>
      have HA : Hid (AnsHe w w4 B s (mFail false true m) b nn d N (addL x l)) := ⟨⟨a, c, h4⟩, hB4⟩
      clear h4 hB4 c0 c1 c4_
      go_wp2_with (first | (go_at_call 48; refine kC.mono ?_; rintro e w9 ⟨rfl, hw9⟩; have hs' := hw9.symm; clear hw9; subst hs') | fail)
      first | go_end0 | refine bodyPost_ret (results_none rfl _ _ _) rfl ?_
      exact ⟨rfl, by rw [HQ.out]; exact HA.out⟩
    | true =>
      by_cases e2 : m = 2
      · subst e2
        have kM := iStep 2 ⟨#[104, 117, 114, 116]⟩ w4
        rw [ms_hurt] at kM
        have HA : Hid (AnsHe w (w4.setCell ⟨B, 2, none⟩ (.int .i64 3)) B s (mFail true true 2) b nn d N (addL x l)) := ⟨⟨a, c, h4.mode 3⟩, hB4.setCell (p := ⟨B, 2, none⟩) (Nat.le_refl _) _⟩
        clear h4 hB4 c0 c1 c4_
        go_wp2_with (first | (go_at_call 48; refine kC.mono ?_; rintro e w9 ⟨rfl, hw9⟩; have hs' := hw9.symm; clear hw9; subst hs') | (go_at_call 10; refine kM.mono ?_; rintro e w9 ⟨rfl, hw9⟩; have hs' := hw9.symm; clear hw9; subst hs') | fail)
        first | go_end0 | refine bodyPost_ret (results_none rfl _ _ _) rfl ?_
        exact ⟨rfl, by rw [HQ.out]; exact HA.out⟩
      have e2' : (m == 2) = false := by simpa using e2
      by_cases e3 : m = 3
      · subst e3
        have HA : Hid (AnsHe w w4 B s (mFail true true 3) b nn d N (addL x l)) := ⟨⟨a, c, h4⟩, hB4⟩
        clear h4 hB4 c0 c1 c4_
        go_wp2_with (first | (go_at_call 48; refine kC.mono ?_; rintro e w9 ⟨rfl, hw9⟩; have hs' := hw9.symm; clear hw9; subst hs') | fail)
        first | go_end0 | refine bodyPost_ret (results_none rfl _ _ _) rfl ?_
        exact ⟨rfl, by rw [HQ.out]; exact HA.out⟩
      have e3' : (m == 3) = false := by simpa using e3
      have HA : Hid (AnsHe w w4 B s (mFail true true m) b nn d N (addL x l)) := by
        have e9 : mFail true true m = m := by unfold mFail; rw [if_neg (by simp [e2]), if_neg (by simp [e3])]
        show AnsHe _ _ _ _ _ _ _ _ _ _
        rw [e9]
        exact ⟨⟨a, c, h4⟩, hB4⟩
      clear h4 hB4 c0 c1 c4_
      go_wp2_with (first | (go_at_call 48; refine kC.mono ?_; rintro e w9 ⟨rfl, hw9⟩; have hs' := hw9.symm; clear hw9; subst hs') | fail)
      first | go_end0 | refine bodyPost_ret (results_none rfl _ _ _) rfl ?_
      exact ⟨rfl, by rw [HQ.out]; exact HA.out⟩
  | false =>
    have HIn2 : Hid (insL l P x = addL x l) := HIn.out rfl
    go_enter Try.func39, Try.ntmps39
    go_upto_region 2 with (first | (go_at_call 45; refine kB.mono ?_; rintro e w2 ⟨rfl, q, hw2⟩; subst hw2) | fail)
    have h1q := h1 q
    have hB1q := hB1 q
    generalize w.drewN q = w1 at *
    clear h1 hB1 h HAd HIn kB c0 c1 c2 c3 c4 hbl
    go_cut [5] from 17 to 28 (fun s5 wx => s5 = .bool false ∧ ∃ a4 c4, Hs wx B s m b nn d N a4 c4 (addL x l) ∧ Below B w wx)
    case first =>
      have hd : Below w1.heap.size w1 w1.drew := (Below.refl _ _).drew
      have hq := h1q.on hd
      have hBq : Below B w w1.drew := hB1q.drew
      have hBl := hq.bx.lt
      obtain ⟨c0, c1, c2, c3, c4_⟩ := hq.at
      clear c0 c1 c2 c3
      have kCl := clone_str x w1.drew hx
      refine wp_region_held (S := (fun _ => True)) (by kernel_rfl) ?_
      change wpAnyH _ _ _ _ _ _ _ _ (World.drew _)
      have hSw := trivial
      refine wpAnyH_take (i := 0) (v := .pointer (some ⟨B, 0, none⟩)) rfl (by kernel_rfl) (by kernel_rfl) (by kernel_rfl) (fun _ _ _ h => h) (Or.inl ⟨by rfl, ?_⟩) hSw ?_
      · intro wz hsz
        obtain ⟨⟩ := hsz
        go_simp
      try simp [Act.put]
      refine wpAnyH_take (i := 1) (v := .pointer (some ⟨B, 0, none⟩)) rfl (by kernel_rfl) (by kernel_rfl) (by kernel_rfl) (fun _ _ _ h => h) (Or.inl ⟨by rfl, ?_⟩) hSw ?_
      · intro wz hsz
        obtain ⟨⟩ := hsz
        go_simp
      try simp [Act.put]
      refine wpAnyH_take (i := 2) (v := .pointer (some ⟨B, 0, none⟩)) rfl (by kernel_rfl) (by kernel_rfl) (by kernel_rfl) (fun _ _ _ h => h) (Or.inl ⟨by rfl, ?_⟩) hSw ?_
      · intro wz hsz
        obtain ⟨⟩ := hsz
        go_simp
      try simp [Act.put]
      refine wpAnyH_take (i := 3) (v := .pointer (some ⟨B, 4, none⟩)) rfl (by kernel_rfl) (by kernel_rfl) (by kernel_rfl) (fun _ _ _ h => h) (Or.inl ⟨by rfl, ?_⟩) hSw ?_
      · intro wz hsz
        obtain ⟨⟩ := hsz
        go_simp
      try simp [Act.put]
      refine wpAnyH_take (i := 5) (v := .int .i64 (P : Int)) rfl (by kernel_rfl) (by kernel_rfl) (by kernel_rfl) (fun _ _ _ h => h) (Or.inl ⟨by rfl, ?_⟩) hSw ?_
      · intro wz hsz
        obtain ⟨⟩ := hsz
        go_simp
      try simp [Act.put]
      refine wpAnyH_take (i := 6) (v := .string x) rfl (by kernel_rfl) (by kernel_rfl) (by kernel_rfl) (fun _ _ _ h => h) (Or.inl ⟨by rfl, ?_⟩) hSw ?_
      · intro wz hsz
        obtain ⟨⟩ := hsz
        go_simp
      try simp [Act.put]
      refine wpAnyH_ready (rs := [4, 7]) (by kernel_rfl) (by simp) ?_
      refine AllReadyH.cons rfl (fun K9 hK => ?_) (AllReadyH.cons rfl (fun K9 hK => ?_) AllReadyH.nil)
      · go_simp
        refine hK.out _ _ (hSw) (fun hSn => ?_)
        clear hK K9 hSw
        have hSw := hSn
        clear hSn
        try simp [Act.put]
        refine wpAnyH_ready (rs := [7]) (by kernel_rfl) (by simp) ?_
        refine AllReadyH.cons rfl (fun K9 hK => ?_) AllReadyH.nil
        go_simp
        go_at_call 47
        refine kCl.mono ?_
        rintro e9 w6 ⟨rfl, hb6⟩
        have h6 := hq.on hb6
        have hB6 := bel_on hBq hb6 (Nat.le_of_lt hBl)
        have hBl6 := h6.bx.lt
        refine hK.out _ _ (trivial) (fun hSn => ?_)
        clear hK K9 hSw
        have hSw := hSn
        clear hSn
        try simp [Act.put]
        refine wpAnyH_ready (rs := [8]) (by kernel_rfl) (by simp) ?_
        refine AllReadyH.cons rfl (fun K9 hK => ?_) AllReadyH.nil
        go_simp
        have hbt : Below w6.heap.size w6 (w6.alloc (.cells #[.string x] 9)) := (Below.refl _ _).alloc (Nat.le_refl _) _
        have h7 := h6.on hbt
        have hB7 := bel_on hB6 hbt (Nat.le_of_lt hBl6)
        have hv7 := World.rowIs_alloc w6 #[.string x] 9 (fun _ => .string x) (by intro i hi; have h0 : i = 0 := (by simpa using hi); subst h0; rfl)
        refine hK.out _ _ (trivial) (fun hSn => ?_)
        clear hK K9 hSw
        have hSw := hSn
        clear hSn
        try simp [Act.put]
        have kIn := ins_any (B + 1) a c l P w6.heap.size 1 x _ (by omega) hpl h7.fl h7.bx.lt hv7 (fun b0 off e0 => by
          obtain ⟨_, _, ⟨e1, _⟩ | ⟨g, F, e1, _, hr, _⟩⟩ := h6.fl
          · rw [e0] at e1; cases e1
          · rw [e0] at e1; cases e1; have := hr.lt; omega)
        refine wpAnyH_ready (rs := [9]) (by kernel_rfl) (by simp) ?_
        refine AllReadyH.cons rfl (fun K9 hK => ?_) AllReadyH.nil
        go_simp
        go_at_call 46
        refine kIn.mono ?_
        rintro e9 w8 ⟨a8, c8, rfl, hf8, hb8, hs8⟩
        rw [HIn2.out] at hf8
        have h9 := h7.turn hb8 hf8 HSr.out HLe.out
        have hB9 : Below B w (w8.setCell ⟨B, 4, none⟩ (.slice a8 (addL x l).length c8)) := (hB7.trans (hb8.mono (Nat.le_succ _))).setCell (p := ⟨B, 4, none⟩) (Nat.le_refl _) _
        rw [HIn2.out]
        have hx8 := (h7.bx.below hb8 (Nat.lt_succ_self _))
        have c8_ := hx8.c 4 (show 4 < 5 by omega)
        have f8 := hx8.fz 4
        have hl8 := hx8.lt
        clear hx8 h7 hB7 hb8 hf8 hv7 kIn
        refine hK.out _ _ (trivial) (fun hSn => ?_)
        clear hK K9 hSw
        have hSw := hSn
        clear hSn
        try simp [Act.put]
        refine wpAnyH_take (i := 10) (v := .pointer (some ⟨B, 0, none⟩)) rfl (by kernel_rfl) (by kernel_rfl) (by kernel_rfl) (fun _ _ _ h => h) (Or.inl ⟨by rfl, ?_⟩) hSw ?_
        · intro wz hsz
          obtain ⟨⟩ := hsz
          go_simp
        try simp [Act.put]
        refine wpAnyH_take (i := 11) (v := .pointer (some ⟨B, 4, none⟩)) rfl (by kernel_rfl) (by kernel_rfl) (by kernel_rfl) (fun _ _ _ h => h) (Or.inl ⟨by rfl, ?_⟩) hSw ?_
        · intro wz hsz
          obtain ⟨⟩ := hsz
          go_simp
        try simp [Act.put]
        refine wpAnyH_ready (rs := [12]) (by kernel_rfl) (by simp) ?_
        refine AllReadyH.cons rfl (fun K9 hK => ?_) AllReadyH.nil
        go_simp
        refine hK.out _ _ (trivial) (fun hSn => ?_)
        clear hK K9 hSw
        have hSw := hSn
        clear hSn
        try simp [Act.put]
        refine wpAnyH_done (by kernel_rfl) ?_ _
        go_wp2_with fail
        go_meet
        case rel => exact ⟨rfl, a8, c8, h9, hB9⟩
      · go_simp
        go_at_call 47
        refine kCl.mono ?_
        rintro e9 w6 ⟨rfl, hb6⟩
        have h6 := hq.on hb6
        have hB6 := bel_on hBq hb6 (Nat.le_of_lt hBl)
        have hBl6 := h6.bx.lt
        refine hK.out _ _ (trivial) (fun hSn => ?_)
        clear hK K9 hSw
        have hSw := hSn
        clear hSn
        try simp [Act.put]
        obtain ⟨d0, d1, d2, d3, d4⟩ := h6.at
        refine wpAnyH_ready (rs := [4, 8]) (by kernel_rfl) (by simp) ?_
        refine AllReadyH.cons rfl (fun K9 hK => ?_) (AllReadyH.cons rfl (fun K9 hK => ?_) AllReadyH.nil)
        · go_simp
          refine hK.out _ _ (hSw) (fun hSn => ?_)
          clear hK K9 hSw
          have hSw := hSn
          clear hSn
          try simp [Act.put]
          refine wpAnyH_ready (rs := [8]) (by kernel_rfl) (by simp) ?_
          refine AllReadyH.cons rfl (fun K9 hK => ?_) AllReadyH.nil
          go_simp
          have hbt : Below w6.heap.size w6 (w6.alloc (.cells #[.string x] 9)) := (Below.refl _ _).alloc (Nat.le_refl _) _
          have h7 := h6.on hbt
          have hB7 := bel_on hB6 hbt (Nat.le_of_lt hBl6)
          have hv7 := World.rowIs_alloc w6 #[.string x] 9 (fun _ => .string x) (by intro i hi; have h0 : i = 0 := (by simpa using hi); subst h0; rfl)
          refine hK.out _ _ (trivial) (fun hSn => ?_)
          clear hK K9 hSw
          have hSw := hSn
          clear hSn
          try simp [Act.put]
          have kIn := ins_any (B + 1) a c l P w6.heap.size 1 x _ (by omega) hpl h7.fl h7.bx.lt hv7 (fun b0 off e0 => by
            obtain ⟨_, _, ⟨e1, _⟩ | ⟨g, F, e1, _, hr, _⟩⟩ := h6.fl
            · rw [e0] at e1; cases e1
            · rw [e0] at e1; cases e1; have := hr.lt; omega)
          refine wpAnyH_ready (rs := [9]) (by kernel_rfl) (by simp) ?_
          refine AllReadyH.cons rfl (fun K9 hK => ?_) AllReadyH.nil
          go_simp
          go_at_call 46
          refine kIn.mono ?_
          rintro e9 w8 ⟨a8, c8, rfl, hf8, hb8, hs8⟩
          rw [HIn2.out] at hf8
          have h9 := h7.turn hb8 hf8 HSr.out HLe.out
          have hB9 : Below B w (w8.setCell ⟨B, 4, none⟩ (.slice a8 (addL x l).length c8)) := (hB7.trans (hb8.mono (Nat.le_succ _))).setCell (p := ⟨B, 4, none⟩) (Nat.le_refl _) _
          rw [HIn2.out]
          have hx8 := (h7.bx.below hb8 (Nat.lt_succ_self _))
          have c8_ := hx8.c 4 (show 4 < 5 by omega)
          have f8 := hx8.fz 4
          have hl8 := hx8.lt
          clear hx8 h7 hB7 hb8 hf8 hv7 kIn
          refine hK.out _ _ (trivial) (fun hSn => ?_)
          clear hK K9 hSw
          have hSw := hSn
          clear hSn
          try simp [Act.put]
          refine wpAnyH_take (i := 10) (v := .pointer (some ⟨B, 0, none⟩)) rfl (by kernel_rfl) (by kernel_rfl) (by kernel_rfl) (fun _ _ _ h => h) (Or.inl ⟨by rfl, ?_⟩) hSw ?_
          · intro wz hsz
            obtain ⟨⟩ := hsz
            go_simp
          try simp [Act.put]
          refine wpAnyH_take (i := 11) (v := .pointer (some ⟨B, 4, none⟩)) rfl (by kernel_rfl) (by kernel_rfl) (by kernel_rfl) (fun _ _ _ h => h) (Or.inl ⟨by rfl, ?_⟩) hSw ?_
          · intro wz hsz
            obtain ⟨⟩ := hsz
            go_simp
          try simp [Act.put]
          refine wpAnyH_ready (rs := [12]) (by kernel_rfl) (by simp) ?_
          refine AllReadyH.cons rfl (fun K9 hK => ?_) AllReadyH.nil
          go_simp
          refine hK.out _ _ (trivial) (fun hSn => ?_)
          clear hK K9 hSw
          have hSw := hSn
          clear hSn
          try simp [Act.put]
          refine wpAnyH_done (by kernel_rfl) ?_ _
          go_wp2_with fail
          go_meet
          case rel => exact ⟨rfl, a8, c8, h9, hB9⟩
        · go_simp
          have hbt : Below w6.heap.size w6 (w6.alloc (.cells #[.string x] 9)) := (Below.refl _ _).alloc (Nat.le_refl _) _
          have h7 := h6.on hbt
          have hB7 := bel_on hB6 hbt (Nat.le_of_lt hBl6)
          have hv7 := World.rowIs_alloc w6 #[.string x] 9 (fun _ => .string x) (by intro i hi; have h0 : i = 0 := (by simpa using hi); subst h0; rfl)
          refine hK.out _ _ (trivial) (fun hSn => ?_)
          clear hK K9 hSw
          have hSw := hSn
          clear hSn
          try simp [Act.put]
          obtain ⟨e0, e1, e2, e3, e4⟩ := h7.at
          refine wpAnyH_ready (rs := [4]) (by kernel_rfl) (by simp) ?_
          refine AllReadyH.cons rfl (fun K9 hK => ?_) AllReadyH.nil
          go_simp
          refine hK.out _ _ (hSw) (fun hSn => ?_)
          clear hK K9 hSw
          have hSw := hSn
          clear hSn
          try simp [Act.put]
          have kIn := ins_any (B + 1) a c l P w6.heap.size 1 x _ (by omega) hpl h7.fl h7.bx.lt hv7 (fun b0 off e0 => by
            obtain ⟨_, _, ⟨e1, _⟩ | ⟨g, F, e1, _, hr, _⟩⟩ := h6.fl
            · rw [e0] at e1; cases e1
            · rw [e0] at e1; cases e1; have := hr.lt; omega)
          refine wpAnyH_ready (rs := [9]) (by kernel_rfl) (by simp) ?_
          refine AllReadyH.cons rfl (fun K9 hK => ?_) AllReadyH.nil
          go_simp
          go_at_call 46
          refine kIn.mono ?_
          rintro e9 w8 ⟨a8, c8, rfl, hf8, hb8, hs8⟩
          rw [HIn2.out] at hf8
          have h9 := h7.turn hb8 hf8 HSr.out HLe.out
          have hB9 : Below B w (w8.setCell ⟨B, 4, none⟩ (.slice a8 (addL x l).length c8)) := (hB7.trans (hb8.mono (Nat.le_succ _))).setCell (p := ⟨B, 4, none⟩) (Nat.le_refl _) _
          rw [HIn2.out]
          have hx8 := (h7.bx.below hb8 (Nat.lt_succ_self _))
          have c8_ := hx8.c 4 (show 4 < 5 by omega)
          have f8 := hx8.fz 4
          have hl8 := hx8.lt
          clear hx8 h7 hB7 hb8 hf8 hv7 kIn
          refine hK.out _ _ (trivial) (fun hSn => ?_)
          clear hK K9 hSw
          have hSw := hSn
          clear hSn
          try simp [Act.put]
          refine wpAnyH_take (i := 10) (v := .pointer (some ⟨B, 0, none⟩)) rfl (by kernel_rfl) (by kernel_rfl) (by kernel_rfl) (fun _ _ _ h => h) (Or.inl ⟨by rfl, ?_⟩) hSw ?_
          · intro wz hsz
            obtain ⟨⟩ := hsz
            go_simp
          try simp [Act.put]
          refine wpAnyH_take (i := 11) (v := .pointer (some ⟨B, 4, none⟩)) rfl (by kernel_rfl) (by kernel_rfl) (by kernel_rfl) (fun _ _ _ h => h) (Or.inl ⟨by rfl, ?_⟩) hSw ?_
          · intro wz hsz
            obtain ⟨⟩ := hsz
            go_simp
          try simp [Act.put]
          refine wpAnyH_ready (rs := [12]) (by kernel_rfl) (by simp) ?_
          refine AllReadyH.cons rfl (fun K9 hK => ?_) AllReadyH.nil
          go_simp
          refine hK.out _ _ (trivial) (fun hSn => ?_)
          clear hK K9 hSw
          have hSw := hSn
          clear hSn
          try simp [Act.put]
          refine wpAnyH_done (by kernel_rfl) ?_ _
          go_wp2_with fail
          go_meet
          case rel => exact ⟨rfl, a8, c8, h9, hB9⟩
    case rest =>
      clear h1q hB1q HIn2 HSr HLe
      obtain ⟨rfl, a4, c4, h4, hB4⟩ := hcut
      obtain ⟨w4, hw4⟩ : ∃ x, x = wc := ⟨_, rfl⟩
      subst hw4
      have kC := iContS b nn d N x w4 (by have := h4.n1; omega) h4.nd
      obtain ⟨c0, c1, c2, c3, c4_⟩ := h4.at
      have f2 := h4.bx.fz 2
      have hBl := h4.bx.lt
      have hBs : B ≤ w4.heap.size := Nat.le_of_lt hBl
      obtain ⟨Q, hQ⟩ : ∃ Q, inS N x nn = Q := ⟨_, rfl⟩
      have HQ : Hid (inS N x nn = Q) := hQ
      rw [hQ] at kC
      clear hQ
      cases Q with
      | false =>
        have HA : Hid (AnsHe w w4 B s (mFail false false m) b nn d N (addL x l)) := ⟨⟨a4, c4, h4⟩, hB4⟩
        clear h4 hB4 c0 c1 c4_
        go_wp2_with (first | (go_at_call 48; refine kC.mono ?_; rintro e w9 ⟨rfl, hw9⟩; have hs' := hw9.symm; clear hw9; subst hs') | fail)
        first | go_end0 | refine bodyPost_ret (results_none rfl _ _ _) rfl ?_
        exact ⟨rfl, by rw [HQ.out]; exact HA.out⟩
      | true =>
        by_cases e2 : m = 2
        · subst e2
          have kM := iStep 2 ⟨#[104, 117, 114, 116]⟩ w4
          rw [ms_hurt] at kM
          have HA : Hid (AnsHe w (w4.setCell ⟨B, 2, none⟩ (.int .i64 3)) B s (mFail true false 2) b nn d N (addL x l)) := ⟨⟨a4, c4, h4.mode 3⟩, hB4.setCell (p := ⟨B, 2, none⟩) (Nat.le_refl _) _⟩
          clear h4 hB4 c0 c1 c4_
          go_wp2_with (first | (go_at_call 48; refine kC.mono ?_; rintro e w9 ⟨rfl, hw9⟩; have hs' := hw9.symm; clear hw9; subst hs') | (go_at_call 10; refine kM.mono ?_; rintro e w9 ⟨rfl, hw9⟩; have hs' := hw9.symm; clear hw9; subst hs') | fail)
          first | go_end0 | refine bodyPost_ret (results_none rfl _ _ _) rfl ?_
          exact ⟨rfl, by rw [HQ.out]; exact HA.out⟩
        have e2' : (m == 2) = false := by simpa using e2
        by_cases e3 : m = 3
        · subst e3
          have kM := iStep 3 ⟨#[115, 116, 111, 112]⟩ w4
          rw [ms_stop] at kM
          have HA : Hid (AnsHe w (w4.setCell ⟨B, 2, none⟩ (.int .i64 4)) B s (mFail true false 3) b nn d N (addL x l)) := ⟨⟨a4, c4, h4.mode 4⟩, hB4.setCell (p := ⟨B, 2, none⟩) (Nat.le_refl _) _⟩
          clear h4 hB4 c0 c1 c4_
          go_wp2_with (first | (go_at_call 48; refine kC.mono ?_; rintro e w9 ⟨rfl, hw9⟩; have hs' := hw9.symm; clear hw9; subst hs') | (go_at_call 10; refine kM.mono ?_; rintro e w9 ⟨rfl, hw9⟩; have hs' := hw9.symm; clear hw9; subst hs') | fail)
          first | go_end0 | refine bodyPost_ret (results_none rfl _ _ _) rfl ?_
          exact ⟨rfl, by rw [HQ.out]; exact HA.out⟩
        have e3' : (m == 3) = false := by simpa using e3
        have HA : Hid (AnsHe w w4 B s (mFail true false m) b nn d N (addL x l)) := by
          have e9 : mFail true false m = m := by unfold mFail; rw [if_neg (by simp [e2]), if_neg (by simp [e3])]
          show AnsHe _ _ _ _ _ _ _ _ _ _
          rw [e9]
          exact ⟨⟨a4, c4, h4⟩, hB4⟩
        clear h4 hB4 c0 c1 c4_
        go_wp2_with (first | (go_at_call 48; refine kC.mono ?_; rintro e w9 ⟨rfl, hw9⟩; have hs' := hw9.symm; clear hw9; subst hs') | fail)
        first | go_end0 | refine bodyPost_ret (results_none rfl _ _ _) rfl ?_
        exact ⟨rfl, by rw [HQ.out]; exact HA.out⟩
set_option maxRecDepth 20000 in
set_option maxHeartbeats 4000000 in
theorem mend_any (B : Nat) (s m : Int) (b : Option Addr) (nn d : Nat) (N : Nat → ByteArray) (a : Option Addr) (c : Nat) (l : List ByteArray) (x : ByteArray) (w : World) (hl : l.length ≤ 60) (h : Hs w B s m b nn d N a c l) :
    Calls Try.prog 40 #[.pointer (some ⟨B, 0, none⟩), .string x] w fun e w' => e = .returned (.tuple #[]) ∧ AnsHe w w' B s (mMend (inS N x nn) (illB N nn (delL x l)) m) b nn d N (delL x l) := by
  have kB := bin_any (B + 1) a c l x w (by omega) h.sr h.fl
  have h1 := fun q => h.on (below_dr (Below.refl w.heap.size w) q)
  have hB1 := fun q => below_dr (Below.refl B w) q
  obtain ⟨c0, c1, c2, c3, c4⟩ := h.at
  have hbl := h.bx.lt
  have hmem : inL l x = false → x ∉ l := inL_no.1
  have hmem2 : inL l x = true → x ∈ l := inL_iff.1
  have HNo : Hid (inL l x = false → delL x l = l) := fun q => delL_no (hmem q)
  have HDe : Hid (inL l x = true → l.take (plc x l) ++ l.drop (plc x l + 1) = delL x l) := fun q => plc_del h.sr (hmem2 q)
  have HLt : Hid (inL l x = true → plc x l < l.length) := fun q => ((plc_mem h.sr).2 (hmem2 q)).1
  have HSr : Hid (Srt (delL x l)) := delL_srt h.sr
  have HLe : Hid ((delL x l).length ≤ 61) := by have := delL_len x l; show _ ≤ _; omega
  clear hmem hmem2
  generalize inL l x = R at *
  generalize plc x l = P at *
  cases R with
  | false =>
    have hNo := HNo.out rfl
    go_enter Try.func40, Try.ntmps40
    go_upto_region 3 with (first | (go_at_call 45; refine kB.mono ?_; rintro e w2 ⟨rfl, q, hw2⟩; subst hw2) | fail)
    have h4 := h1 q
    have hB4 := hB1 q
    rw [← hNo] at h4
    generalize w.drewN q = w4 at *
    clear h1 hB1 h HNo HDe HLt HSr HLe hNo kB c0 c1 c2 c3 c4 hbl
    have hBl := h4.bx.lt
    have hBs : B ≤ w4.heap.size := Nat.le_of_lt hBl
    obtain ⟨c0, c1, c2, c3, c4_⟩ := h4.at
    by_cases e3 : m = 3
    rotate_left
    · have e3' : (m == 3) = false := by simpa using e3
      have HA : Hid (AnsHe w w4 B s (mMend (inS N x nn) (illB N nn (delL x l)) m) b nn d N (delL x l)) := by
        have e9 : mMend (inS N x nn) (illB N nn (delL x l)) m = m := by unfold mMend; rw [if_neg (by simp [e3])]
        show AnsHe _ _ _ _ _ _ _ _ _ _
        rw [e9]
        exact ⟨⟨a, c, h4⟩, hB4⟩
      clear h4 hB4 c0 c1 c4_
      go_wp2
      first | go_end0 | refine bodyPost_ret (results_none rfl _ _ _) rfl ?_
      exact ⟨rfl, HA.out⟩
    subst e3
    have kC := iContS b nn d N x w4 (by have := h4.n1; omega) h4.nd
    have kL := lacks_any B s 3 b nn d N a c (delL x l) w4 h4
    obtain ⟨Q, hQ⟩ : ∃ Q, inS N x nn = Q := ⟨_, rfl⟩
    have HQ : Hid (inS N x nn = Q) := hQ
    rw [hQ] at kC
    obtain ⟨I, hI⟩ : ∃ I, illB N nn (delL x l) = I := ⟨_, rfl⟩
    have HI : Hid (illB N nn (delL x l) = I) := hI
    rw [hI] at kL
    clear hQ hI
    cases Q with
    | false =>
      have HA : Hid (AnsHe w w4 B s (mMend false I 3) b nn d N (delL x l)) := by
        have e9 : mMend false I 3 = 3 := by unfold mMend; rw [if_neg (by simp)]
        show AnsHe _ _ _ _ _ _ _ _ _ _
        rw [e9]
        exact ⟨⟨a, c, h4⟩, hB4⟩
      clear h4 hB4 c0 c1 c4_ kL
      go_wp2_with (first | (go_at_call 48; refine kC.mono ?_; rintro e w9 ⟨rfl, hw9⟩; have hs' := hw9.symm; clear hw9; subst hs') | fail)
      first | go_end0 | refine bodyPost_ret (results_none rfl _ _ _) rfl ?_
      exact ⟨rfl, by rw [HQ.out, HI.out]; exact HA.out⟩
    | true =>
      cases I with
      | true =>
        go_wp2_with (first | (go_at_call 48; refine kC.mono ?_; rintro e w9 ⟨rfl, hw9⟩; have hs' := hw9.symm; clear hw9; subst hs') | (go_at_call 41; refine kL.mono ?_; rintro e w5 ⟨rfl, hb5⟩) | fail)
        first | go_end0 | refine bodyPost_ret (results_none rfl _ _ _) rfl ?_
        exact ⟨rfl, by rw [HQ.out, HI.out]; exact ⟨⟨a, c, h4.on hb5⟩, bel_on hB4 hb5 hBs⟩⟩
      | false =>
        go_upto_region 4 with (first | (go_at_call 48; refine kC.mono ?_; rintro e w9 ⟨rfl, hw9⟩; have hs' := hw9.symm; clear hw9; subst hs') | (go_at_call 41; refine kL.mono ?_; rintro e w5 ⟨rfl, hb5⟩) | fail)
        have h5 := h4.on hb5
        have hB5 := bel_on hB4 hb5 hBs
        have kM := iStep 3 ⟨#[104, 101, 97, 108]⟩ w5
        rw [ms_heal] at kM
        clear h4 hB4 c0 c1 c2 c3 c4_ hb5 kL hBl hBs
        obtain ⟨c0, c1, c2, c3, c4_⟩ := h5.at
        have f2 := h5.bx.fz 2
        have hBl := h5.bx.lt
        have HA : Hid (AnsHe w (w5.setCell ⟨B, 2, none⟩ (.int .i64 2)) B s (mMend true false 3) b nn d N (delL x l)) := ⟨⟨a, c, h5.mode 2⟩, hB5.setCell (p := ⟨B, 2, none⟩) (Nat.le_refl _) _⟩
        clear h5 hB5
        go_wp2_with (first | (go_at_call 10; refine kM.mono ?_; rintro e w9 ⟨rfl, hw9⟩; have hs' := hw9.symm; clear hw9; subst hs') | fail)
        first | go_end0 | refine bodyPost_ret (results_none rfl _ _ _) rfl ?_
        exact ⟨rfl, by rw [HQ.out, HI.out]; exact HA.out⟩
  | true =>
    have HDe2 : Hid (l.take P ++ l.drop (P + 1) = delL x l) := HDe.out rfl
    have hlt := HLt.out rfl
    have i0 : (0 : Int) ≤ (P : Int) := by omega
    go_enter Try.func40, Try.ntmps40
    go_upto_region 2 with (first | (go_at_call 45; refine kB.mono ?_; rintro e w2 ⟨rfl, q, hw2⟩; subst hw2) | fail)
    have h1q := h1 q
    have hB1q := hB1 q
    generalize w.drewN q = w1 at *
    clear h1 hB1 h HNo HDe HLt kB c0 c1 c2 c3 c4 hbl
    have kD := del_any (B + 1) a c l P w1 (by omega) hlt h1q.fl
    rw [HDe2.out, show ((P + 1 : Nat) : Int) = (P : Int) + 1 by omega] at kD
    obtain ⟨c0, c1, c2, c3, c4_⟩ := h1q.at
    have hbl := h1q.bx.lt
    have iP : (P : Int) ≤ 1000 := by omega
    go_wp2_with fail
    refine kD.mono ?_
    rintro e w8 ⟨a8, c8, rfl, hf8, hb8, hs8⟩
    have h9 := h1q.turn hb8 hf8 HSr.out HLe.out
    have hB9 : Below B w (w8.setCell ⟨B, 4, none⟩ (.slice a8 (delL x l).length c8)) := (hB1q.trans (hb8.mono (Nat.le_succ _))).setCell (p := ⟨B, 4, none⟩) (Nat.le_refl _) _
    have hx8 := (h1q.bx.below hb8 (Nat.lt_succ_self _))
    have c8_ := hx8.c 4 (show 4 < 5 by omega)
    have f8 := hx8.fz 4
    have hl8 := hx8.lt
    clear hx8 h1q hB1q hb8 hf8 kD c0 c1 c2 c3 c4_ hbl HDe2 HSr HLe
    go_upto_region 3 with fail
    have h4 := h9
    have hB4 := hB9
    generalize w8.setCell ⟨B, 4, none⟩ (.slice a8 (delL x l).length c8) = w4 at *
    clear h9 hB9 c8_ f8 hl8
    have hBl := h4.bx.lt
    have hBs : B ≤ w4.heap.size := Nat.le_of_lt hBl
    obtain ⟨c0, c1, c2, c3, c4_⟩ := h4.at
    by_cases e3 : m = 3
    rotate_left
    · have e3' : (m == 3) = false := by simpa using e3
      have HA : Hid (AnsHe w w4 B s (mMend (inS N x nn) (illB N nn (delL x l)) m) b nn d N (delL x l)) := by
        have e9 : mMend (inS N x nn) (illB N nn (delL x l)) m = m := by unfold mMend; rw [if_neg (by simp [e3])]
        show AnsHe _ _ _ _ _ _ _ _ _ _
        rw [e9]
        exact ⟨⟨a8, c8, h4⟩, hB4⟩
      clear h4 hB4 c0 c1 c4_
      go_wp2
      first | go_end0 | refine bodyPost_ret (results_none rfl _ _ _) rfl ?_
      exact ⟨rfl, HA.out⟩
    subst e3
    have kC := iContS b nn d N x w4 (by have := h4.n1; omega) h4.nd
    have kL := lacks_any B s 3 b nn d N a8 c8 (delL x l) w4 h4
    obtain ⟨Q, hQ⟩ : ∃ Q, inS N x nn = Q := ⟨_, rfl⟩
    have HQ : Hid (inS N x nn = Q) := hQ
    rw [hQ] at kC
    obtain ⟨I, hI⟩ : ∃ I, illB N nn (delL x l) = I := ⟨_, rfl⟩
    have HI : Hid (illB N nn (delL x l) = I) := hI
    rw [hI] at kL
    clear hQ hI
    cases Q with
    | false =>
      have HA : Hid (AnsHe w w4 B s (mMend false I 3) b nn d N (delL x l)) := by
        have e9 : mMend false I 3 = 3 := by unfold mMend; rw [if_neg (by simp)]
        show AnsHe _ _ _ _ _ _ _ _ _ _
        rw [e9]
        exact ⟨⟨a8, c8, h4⟩, hB4⟩
      clear h4 hB4 c0 c1 c4_ kL
      go_wp2_with (first | (go_at_call 48; refine kC.mono ?_; rintro e w9 ⟨rfl, hw9⟩; have hs' := hw9.symm; clear hw9; subst hs') | fail)
      first | go_end0 | refine bodyPost_ret (results_none rfl _ _ _) rfl ?_
      exact ⟨rfl, by rw [HQ.out, HI.out]; exact HA.out⟩
    | true =>
      cases I with
      | true =>
        go_wp2_with (first | (go_at_call 48; refine kC.mono ?_; rintro e w9 ⟨rfl, hw9⟩; have hs' := hw9.symm; clear hw9; subst hs') | (go_at_call 41; refine kL.mono ?_; rintro e w5 ⟨rfl, hb5⟩) | fail)
        first | go_end0 | refine bodyPost_ret (results_none rfl _ _ _) rfl ?_
        exact ⟨rfl, by rw [HQ.out, HI.out]; exact ⟨⟨a8, c8, h4.on hb5⟩, bel_on hB4 hb5 hBs⟩⟩
      | false =>
        go_upto_region 4 with (first | (go_at_call 48; refine kC.mono ?_; rintro e w9 ⟨rfl, hw9⟩; have hs' := hw9.symm; clear hw9; subst hs') | (go_at_call 41; refine kL.mono ?_; rintro e w5 ⟨rfl, hb5⟩) | fail)
        have h5 := h4.on hb5
        have hB5 := bel_on hB4 hb5 hBs
        have kM := iStep 3 ⟨#[104, 101, 97, 108]⟩ w5
        rw [ms_heal] at kM
        clear h4 hB4 c0 c1 c2 c3 c4_ hb5 kL hBl hBs
        obtain ⟨c0, c1, c2, c3, c4_⟩ := h5.at
        have f2 := h5.bx.fz 2
        have hBl := h5.bx.lt
        have HA : Hid (AnsHe w (w5.setCell ⟨B, 2, none⟩ (.int .i64 2)) B s (mMend true false 3) b nn d N (delL x l)) := ⟨⟨a8, c8, h5.mode 2⟩, hB5.setCell (p := ⟨B, 2, none⟩) (Nat.le_refl _) _⟩
        clear h5 hB5
        go_wp2_with (first | (go_at_call 10; refine kM.mono ?_; rintro e w9 ⟨rfl, hw9⟩; have hs' := hw9.symm; clear hw9; subst hs') | fail)
        first | go_end0 | refine bodyPost_ret (results_none rfl _ _ _) rfl ?_
        exact ⟨rfl, by rw [HQ.out, HI.out]; exact HA.out⟩
end Go.Proofs.Ytoleblhidieheaa
