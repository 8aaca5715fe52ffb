/- tokensOf, walked. -/
import Derived.Test.YtmlfijapndkfhaaDoorQReTk
import Derived.Test.YtmlfijapndkfhaaDoorQLqBase
import Derived.Deep.LoopGhost
import Derived.Deep.CutRange
namespace Go.Proofs.YtmlfijapndkfhaaDoor
open Go.RowKit
theorem infoTok : (Tryd.prog.info? 82).map (fun i => (i.zero, i.size, i.bytes)) = some (some (.agg #[.int .i64 0, .string ⟨#[]⟩]), 2, 24) := by kernel_rfl
def OwT (w : World) (base : Nat) (v : Value) (l : List (Nat × ByteArray)) : Prop := w.ownsRow base 82 2 v l.length (tqC l)
theorem OwT.shape {w : World} {base : Nat} {v : Value} {l : List (Nat × ByteArray)} (h : OwT w base v l) : ∃ a c, v = .slice a l.length c := by
  obtain ⟨_, ⟨rfl, h0⟩ | ⟨g, cap, cur, rfl, _⟩⟩ := h
  · exact ⟨none, 0, by rw [h0]⟩
  · exact ⟨_, _, rfl⟩
theorem OwT.same {w w' : World} {base : Nat} {v : Value} {l : List (Nat × ByteArray)} (h : OwT w base v l) (hb : ∀ q, v.ownBlock = some q → w'.heap[q]? = w.heap[q]?) : OwT w' base v l := by
  obtain ⟨hl, h0 | ⟨g, cap, cur, h1, h2, h3, h4⟩⟩ := h
  · exact ⟨hl, .inl h0⟩
  · exact ⟨hl, .inr ⟨g, cap, cur, h1, h2, (hb g (by rw [h1]; rfl)).trans h3, h4⟩⟩
/-- tokens as they are read -/
def TQ (w : World) (base : Nat) (a : Option Addr) (l : List (Nat × ByteArray)) : Prop := 0 < l.length → ∃ b, a = some ⟨b, 0, none⟩ ∧ (base ≤ b ∧ b < w.heap.size) ∧ ∀ j q, l[j]? = some q → w.cell? ⟨b, j * 2, none⟩ = some (.int .i64 (q.1 : Int)) ∧ w.cell? ⟨b, j * 2 + 1, none⟩ = some (.string q.2)
theorem TQ.below {w w' : World} {base : Nat} {a : Option Addr} {l : List (Nat × ByteArray)} (h : TQ w base a l) (k : Below w.heap.size w w') : TQ w' base a l := fun h0 => by
  obtain ⟨b, e, hl, hc⟩ := h h0
  exact ⟨b, e, ⟨hl.1, Nat.lt_of_lt_of_le hl.2 k.size⟩, fun j q hq => ⟨(k.cell (p := ⟨b, _, none⟩) hl.2).trans (hc j q hq).1, (k.cell (p := ⟨b, _, none⟩) hl.2).trans (hc j q hq).2⟩⟩
theorem OwT.tq {w : World} {base : Nat} {a : Option Addr} {c : Nat} {l : List (Nat × ByteArray)} (h : OwT w base (.slice a l.length c) l) : TQ w base a l := fun h0 => by
  have ho := h
  obtain ⟨_, ⟨_, h1⟩ | ⟨g, cap, cur, h1, h2, h3, h4, _⟩⟩ := h
  · omega
  · cases h1
    refine ⟨g, rfl, ⟨h2, (Array.getElem?_eq_some_iff.1 h3).1⟩, fun j q hq => ?_⟩
    have hj : j < l.length := (List.getElem?_eq_some_iff.1 hq).1
    have hl := tqC_len l
    have hg := tqC_get l j q hq
    exact ⟨(World.ownsRow.cellAt ho _ (by omega)).trans hg.1, (World.ownsRow.cellAt ho _ (by omega)).trans hg.2⟩
theorem tok_new (w : World) (p q : Value) (t : TypeId) : ∀ j u, [p, q][j]? = some u → (w.alloc (.cells #[p, q] t)).cell? ((⟨w.heap.size, 0, none⟩ : Addr).add j) = some u := by
  intro j u hu
  have hb := bx_new (w := w) [p, q] t rfl
  have hj : j < 2 := by simpa using (List.getElem?_eq_some_iff.1 hu).1
  have hc := hb.c j (by simpa using hj)
  rw [Addr.add_lit, Nat.zero_add, hc, ← hu]
theorem tk_step {s : ByteArray} {l : List (Nat × ByteArray)} {fr pos : Nat} (hp : pos ≤ s.size) (hfp : fr ≤ pos) (h : l ++ tks s fr = tks s 0) (hn : ∀ j, fr ≤ j → j < pos → bt (s ++ wsp) j ≠ 32) (hb : bt (s ++ wsp) pos = 32) :
    (fr < pos → (l ++ [(fr, s.extract fr pos)]) ++ tks s (pos + 1) = tks s 0) ∧ (¬ fr < pos → l ++ tks s (pos + 1) = tks s 0) := by
  have hend : tks s pos = tks s (pos + 1) := by
    by_cases c : pos < s.size
    · exact tks_sp c (by rw [← bt_app s c]; exact hb)
    · rw [tks_end c, tks_end (by omega)]
  refine ⟨fun hlt => ?_, fun hlt => ?_⟩
  · have hfs : fr < s.size := by omega
    have hne : ∀ j, fr ≤ j → j < pos → bt s j ≠ 32 := fun j h1 h2 => by rw [← bt_app s (by omega)]; exact hn j h1 h2
    have hk : enK s fr = pos := enK_is (by omega) hp hne (by
      by_cases c : pos < s.size
      · exact .inr (by rw [← bt_app s c]; exact hb)
      · exact .inl (by omega))
    rw [tks_tok hfs (hne fr (Nat.le_refl _) hlt), hk, hend] at h
    rw [List.append_assoc]
    exact h
  · have : fr = pos := by omega
    rw [this, hend] at h
    exact h
theorem tk_end {s : ByteArray} {l : List (Nat × ByteArray)} {fr pos : Nat} (hp : s.size < pos) (h : l ++ tks s fr = tks s 0) (hn : ∀ j, fr ≤ j → j < pos → bt (s ++ wsp) j ≠ 32) : l = tks s 0 := by
  have : ¬ fr ≤ s.size := fun c => hn s.size c hp (bt_last s)
  rw [tks_end (by omega), List.append_nil] at h
  exact h
theorem tk_len {s : ByteArray} : ∀ q i, s.size - i ≤ q → (tks s i).length ≤ s.size - i
  | 0, i, h => by rw [tks_end (by omega)]; exact Nat.zero_le _
  | q + 1, i, h => by
    by_cases c : i < s.size
    · by_cases b : bt s i = 32
      · rw [tks_sp c b]
        have := tk_len (s := s) q (i + 1) (by omega)
        omega
      · rw [tks_tok c b]
        have hg := enK_gt c b
        have := tk_len (s := s) q (enK s i) (by omega)
        simp only [List.length_cons]
        omega
    · rw [tks_end c]; exact Nat.zero_le _
theorem iterAt_same (w : World) (b : Nat) (s : ByteArray) (p q : Nat) (hq : q ≠ b) : (w.iterAt b s p).heap[q]? = w.heap[q]? := by
  unfold World.iterAt
  simp [Ne.symm hq]
theorem sp_one (s : ByteArray) (i : Nat) (hi : i < s.size) : (((Utf8.decode s i).1 : Int) = 32 → (Utf8.decode s i).2 = 1) ∧ (Utf8.decode s i).2 ≤ 4 := by
  have h := step_at s i hi
  rcases h with ⟨h0, e⟩ | ⟨h1, hlt, e⟩ | ⟨h2, h3, h4⟩
  · rw [e]; exact ⟨fun _ => rfl, by simp⟩
  · rw [e]; exact ⟨fun _ => rfl, by simp⟩
  · have := rnK_le (bt s) s.size i
    exact ⟨fun h => by omega, by omega⟩
set_option maxRecDepth 20000 in
set_option maxHeartbeats 8000000 in
theorem iTokens (s : ByteArray) (w : World) (hs : s.size ≤ 200) :
    Calls Tryd.prog 44 #[.string s] w fun e w' => (∃ a c, e = .returned (.slice a (tks s 0).length c) ∧ TQ w' w.heap.size a (tks s 0)) ∧ Below w.heap.size w w' := by
  obtain ⟨i0, hi, hzz⟩ := Option.map_eq_some_iff.1 infoTok
  simp only [Prod.mk.injEq] at hzz
  obtain ⟨hz0, hz1, hz2⟩ := hzz
  have hsz : (s ++ wsp).size = s.size + 1 := by rw [ByteArray.size_append]; rfl
  have hadd : ∀ w, (Op.stringOp .add s ⟨#[32]⟩).run Tryd.prog w = .ok (.string (s ++ wsp)) w := fun w => run_string_add_sum (P := Tryd.prog) (w := w) s wsp (by have : wsp.size = 1 := rfl; omega)
  have HT1 : Hid (∀ {l : List (Nat × ByteArray)} {fr pos : Nat}, pos ≤ s.size → fr ≤ pos → l ++ tks s fr = tks s 0 → (∀ j, fr ≤ j → j < pos → bt (s ++ wsp) j ≠ 32) → bt (s ++ wsp) pos = 32 → (fr < pos → (l ++ [(fr, s.extract fr pos)]) ++ tks s (pos + 1) = tks s 0) ∧ (¬ fr < pos → l ++ tks s (pos + 1) = tks s 0)) := fun h1 h2 h3 h4 h5 => tk_step h1 h2 h3 h4 h5
  have HT2 : Hid (∀ {l : List (Nat × ByteArray)} {fr pos : Nat}, s.size < pos → l ++ tks s fr = tks s 0 → (∀ j, fr ≤ j → j < pos → bt (s ++ wsp) j ≠ 32) → l = tks s 0) := fun h1 h2 h3 => tk_end h1 h2 h3
  have HL0 : Hid ((tks s 0).length ≤ 200) := by have := tk_len (s := s) _ 0 (Nat.le_refl _); show _ ≤ _; omega
  obtain ⟨Z, hZ⟩ : ∃ Z, Z = s ++ wsp := ⟨_, rfl⟩
  rw [← hZ] at hadd hsz HT1 HT2
  have hA : Below w.heap.size w (w.alloc (.cells #[] 82)) := (Below.refl _ _).alloc (Nat.le_refl _) _
  have hO0 : OwT (w.alloc (.cells #[] 82)) w.heap.size (.slice (some ⟨w.heap.size, 0, none⟩) 0 0) [] := World.ownsRow_made w #[] 0 (Nat.le_refl _) (by unfold maxLen; omega) rfl
  clear hZ
  go_enter Tryd.func44, Tryd.ntmps44
  go_upto_region 2 with fail
  generalize hW : w.alloc (.cells #[] 82) = w1 at *
  have hw1 : w.heap.size < w1.heap.size := by rw [← hW, size_al]; exact Nat.lt_succ_self _
  clear hW
  have hI : Below w1.heap.size w1 (w1.iter Z 0) := ((Below.refl _ w1).alloc (Nat.le_refl _) _ : Below w1.heap.size w1 (w1.iter Z 0))
  have HO1 : Hid (OwT (w1.iter Z 0) w.heap.size (.slice (some ⟨w.heap.size, 0, none⟩) 0 0) []) := OwT.same hO0 (fun q hq => hI.block q (World.ownsRow.lt hO0 q hq).2)
  have HB1 : Hid (Below w.heap.size w (w1.iter Z 0)) := hA.trans (hI.mono (Nat.le_of_lt hw1))
  have HQ1 : Hid ((Value.slice (some ⟨w.heap.size, 0, none⟩) 0 0).ownBlock ≠ some w1.heap.size) := fun e => by have : w.heap.size = w1.heap.size := Option.some.inj e; omega
  have HE1 : Hid ([] ++ tks s 0 = tks s 0) := (rfl : [] ++ tks s 0 = tks s 0)
  have HN1 : Hid (∀ j, 0 ≤ j → j < 0 → bt Z j ≠ 32) := fun j _ h => absurd h (Nat.not_lt_zero _)
  have hit1 := World.iter_heap w1 Z 0
  clear hA hO0 hI
  go_wp2
  clear hadd
  go_loopg [3, 4] Z.size (fun gf v f wx => ∃ (pos fr : Nat) (a : Option Addr) (c : Nat) (l : List (Nat × ByteArray)), v = .slice a l.length c ∧ f = .int .i64 (fr : Int) ∧ fr ≤ pos ∧ pos ≤ s.size + 4 ∧ l.length ≤ pos ∧ wx.heap[w1.heap.size]? = some (.stringIter Z pos) ∧ Hid (Below w.heap.size w wx) ∧ Hid (OwT wx w.heap.size (.slice a l.length c) l) ∧ Hid ((Value.slice a l.length c).ownBlock ≠ some w1.heap.size) ∧ Hid (l ++ tks s fr = tks s 0) ∧ Hid (∀ j, fr ≤ j → j < pos → bt Z j ≠ 32) ∧ Z.size ≤ pos + gf)
  case atStart => exact ⟨0, 0, _, _, [], rfl, rfl, Nat.le_refl _, by omega, Nat.le_refl _, hit1, HB1, HO1, HQ1, HE1, HN1, by omega⟩
  case round =>
    obtain ⟨pos, fr, a, c, l, rfl, rfl, hfp, hpb, hlp, hit, HB, HO, HQ, HE, HN, hfu⟩ := hrel
    clear HO1 HB1 HQ1 HE1 HN1 hit1
    by_cases hps : pos < Z.size
    · obtain ⟨g', rfl⟩ : ∃ g', gk = g' + 1 := ⟨gk - 1, by omega⟩
      have hnx : ∀ ty, (Instr.next (.pointer (some ⟨w1.heap.size, 0, none⟩)) true ty).run Tryd.prog wr = _ := fun ty => Lib.run_next_any_at wr w1.heap.size Z pos ty hit hps
      have hwd := Lib.width_pos Z pos
      have hrl := Lib.rune_le Z pos
      have hsp := sp_step Z pos hps
      have hso := sp_one Z pos hps
      obtain ⟨R, hR⟩ : ∃ R, (Utf8.decode Z pos).1 = R := ⟨_, rfl⟩
      obtain ⟨K, hK⟩ : ∃ K, (Utf8.decode Z pos).2 = K := ⟨_, rfl⟩
      rw [hR, hK] at hnx hsp hso
      rw [hK] at hwd
      rw [hR] at hrl
      clear hR hK
      have hit2 := Lib.iterAt_heap wr w1.heap.size Z pos (pos + K) hit
      have HB2 : Hid (Below w.heap.size w (wr.iterAt w1.heap.size Z (pos + K))) := Lib.below_iterAt HB.out (k := w1.heap.size) (Nat.le_of_lt hw1) Z (pos + K)
      have hO2 : OwT (wr.iterAt w1.heap.size Z (pos + K)) w.heap.size (.slice a l.length c) l := HO.out.same (fun q hq => iterAt_same wr w1.heap.size Z (pos + K) q (fun e => HQ.out (by rw [← e]; exact hq)))
      obtain ⟨W, hWd⟩ : ∃ W, wr.iterAt w1.heap.size Z (pos + K) = W := ⟨_, rfl⟩
      rw [hWd] at hnx hit2 HB2 hO2
      clear hWd HB hit HO
      have hltW : w1.heap.size < W.heap.size := (Array.getElem?_eq_some_iff.1 hit2).1
      have j0 : (0 : Int) ≤ (pos : Int) := by omega
      have HSP : Hid (∀ j, pos < j → j < pos + K → bt Z j ≠ 32) := hsp.2
      have HB3 : Hid ((R : Int) = 32 ↔ bt Z pos = 32) := hsp.1
      have HK1 : Hid ((R : Int) = 32 → K = 1) := hso.1
      have hK4 := hso.2
      clear hsp hso
      by_cases hsz2 : (R : Int) = 32
      · have c1 : ((R : Int) != 32) = false := by simp [hsz2]
        have HK : Hid (K = 1) := HK1.out hsz2
        have hst := HT1.out (show pos ≤ s.size by omega) hfp HE.out HN.out (HB3.out.1 hsz2)
        have HN2 : Hid (∀ j, pos + 1 ≤ j → j < pos + K → bt Z j ≠ 32) := fun j h1 h2 => by have := HK.out; omega
        have hK1 := HK.out
        by_cases hfl : fr < pos
        · have j1 : (fr : Int) < (pos : Int) := by omega
          have j2 : (0 : Int) ≤ (fr : Int) := by omega
          have j3 : (fr : Int) ≤ (pos : Int) := by omega
          have j4 : (pos : Int) ≤ (s.size : Int) := by omega
          have HE2 : Hid (l ++ [(fr, s.extract fr pos)] ++ tks s (pos + 1) = tks s 0) := hst.1 hfl
          have hown := hO2
          unfold OwT at hown
          have hbw := HB2.out.size
          clear hst HB3 HK1 HSP HE HN hsz2 HK hK1
          go_wp2_with (at_builtin; go_loud (refine wpList_append_own_at (P := Tryd.prog) _ rfl _ _ 79 rfl w.heap.size 82 i0 (.agg #[.int .i64 0, .string ⟨#[]⟩]) 2 24 Tryd.underlying79 hi hz0 hz1 hz2 rfl (by decide) (.slice a l.length c) l.length (tqC l) rfl (World.ownsRow.alloc hown _) ⟨W.heap.size, 0, none⟩ 1 1 [.int .i64 (fr : Int), .string (s.extract fr pos)] rfl rfl (tok_new _ _ _ _) (fun u hu => by simp at hu; rcases hu with rfl | rfl <;> rfl) (by unfold maxLen; omega) (by omega) (by simp only [size_al]; omega) ?_); intro v8 wq hown8 hgr8 _ hat8)
          have hO8 : OwT wq w.heap.size v8 (l ++ [(fr, s.extract fr pos)]) := by
            unfold OwT
            rw [List.length_append, tqC_app]
            exact hown8
          obtain ⟨ya, yc, rfl⟩ := hO8.shape
          have hit3 : wq.heap[w1.heap.size]? = some (.stringIter Z (pos + K)) := ((hgr8.block _ (by simp only [size_al]; omega) (fun e => HQ.out e.symm)).trans (((Below.refl W.heap.size W).alloc (Nat.le_refl _) _).block _ hltW)).trans hit2
          have HQ8 : Hid ((Value.slice ya (l ++ [(fr, s.extract fr pos)]).length yc).ownBlock ≠ some w1.heap.size) := by
            intro e
            rcases hat8 with h | h
            · exact HQ.out (h.symm.trans e)
            · rw [h] at e
              have := Option.some.inj e
              simp only [size_al] at this
              omega
          have HB8 : Hid (Below w.heap.size w wq) := HB2.out.trans (((Below.refl w.heap.size W).alloc hbw _).grown hgr8 (by simp only [size_al]; omega) (fun q hq => (World.ownsRow.lt hO2 q hq).1))
          have hln : (l ++ [(fr, s.extract fr pos)]).length = l.length + 1 := by simp
          go_roundg g'
          case measure => omega
          case rel => exact ⟨pos + K, pos + 1, ya, yc, _, rfl, by go_num, by omega, by omega, by rw [hln]; omega, hit3, HB8, hO8, HQ8, HE2, HN2, by omega⟩
        · have j1 : ¬ (fr : Int) < (pos : Int) := by omega
          have HE2 : Hid (l ++ tks s (pos + 1) = tks s 0) := hst.2 hfl
          have HO2 : Hid (OwT W w.heap.size (.slice a l.length c) l) := hO2
          clear hst HB3 HK1 HSP HE HN hsz2 HK hK1 hO2
          go_wp2
          go_roundg g'
          case measure => omega
          case rel => exact ⟨pos + K, pos + 1, a, c, l, rfl, by go_num, by omega, by omega, by omega, hit2, HB2, HO2, HQ, HE2, HN2, by omega⟩
      · have c1 : ((R : Int) != 32) = true := by simpa using hsz2
        have HN2 : Hid (∀ j, fr ≤ j → j < pos + K → bt Z j ≠ 32) := fun j h1 h2 => by
          rcases Nat.lt_trichotomy j pos with h3 | h3 | h3
          · exact HN.out j h1 h3
          · rw [h3]; exact fun e => hsz2 (HB3.out.2 e)
          · exact HSP.out j h3 h2
        have HO2 : Hid (OwT W w.heap.size (.slice a l.length c) l) := hO2
        clear HB3 HK1 HSP HN hsz2 hO2
        go_wp2
        go_roundg g'
        case measure => omega
        case rel => exact ⟨pos + K, fr, a, c, l, rfl, rfl, by omega, by omega, by omega, hit2, HB2, HO2, HQ, HE, HN2, by omega⟩
    · have hnx : ∀ ty, (Instr.next (.pointer (some ⟨w1.heap.size, 0, none⟩)) true ty).run Tryd.prog wr = _ := fun ty => Lib.run_next_end_at wr w1.heap.size Z pos ty hit hps
      have hl := HT2.out (show s.size < pos by omega) HE.out HN.out
      subst hl
      have hq := HO.out.tq
      have hB := HB.out
      clear HE HN HQ HO HB HT1 HT2
      go_wp2
      go_ret
      exact ⟨⟨a, c, rfl, hq⟩, hB⟩
end Go.Proofs.YtmlfijapndkfhaaDoor
