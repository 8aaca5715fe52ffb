/- What FnTopics draws: topics, names, patterns (tools/gen_tfe.py). -/
import Derived.Test.YthhaemdpnphhoaaDoorTfD
import Derived.Test.YthhaemdpnphhoaaDoorTfT
namespace Go.Proofs.YthhaemdpnphhoaaDoor
open Go.RowKit
theorem turns_cur {w w' : World} {C : Nat} (h : Turns C (C + 1) w w') : Turns C (C + 1) w w' := h
set_option maxRecDepth 20000 in
set_option maxHeartbeats 2000000 in
theorem part_any (C : Nat) (a : Option Addr) (len cap n : Nat) (w : World) (h : Cur w C a len cap n) (hn : n ≤ 900000) :
    Calls Tryd.prog 29 #[.pointer (some ⟨C, 0, none⟩)] w fun e w' => AnsN w w' e C a len cap n := by
  have k1 := lit_of C a len cap n w h (by omega) [⟨#[97, 114, 109]⟩, ⟨#[98, 97, 115, 101]⟩, ⟨#[120, 49]⟩, ⟨#[99, 109, 100, 95, 118, 101, 108]⟩, ⟨#[97]⟩, ⟨#[115, 99, 97, 110]⟩, ⟨#[111, 100, 111, 109]⟩, ⟨#[97, 98, 99, 100, 101, 102, 103, 104, 105, 106, 107, 108, 109, 110, 111, 112, 113, 114, 115, 116]⟩] (by decide) (by decide) (by decide)
  simp only [List.map_cons, List.map_nil, List.length_cons, List.length_nil, Nat.zero_add, Nat.reduceAdd] at k1
  go_enter Tryd.func29, Tryd.ntmps29
  go_wp2_with fail
  refine k1.mono ?_
  rintro e w' ⟨s, n', rfl, hs, hn', hc, hT⟩
  clear k1 h
  go_wp2
  go_ret
  exact ⟨s, n', rfl, hs, hn', hc, hT⟩
set_option maxRecDepth 20000 in
set_option maxHeartbeats 4000000 in
theorem topic_any (C : Nat) (a : Option Addr) (len cap n : Nat) (w : World) (h : Cur w C a len cap n) (hn : n ≤ 800000) :
    Calls Tryd.prog 15 #[.pointer (some ⟨C, 0, none⟩)] w fun e w' => AnsZ w w' e C a len cap n 4000 60 := by
  go_enter Tryd.func15, Tryd.ntmps15
  go_wp2_with fail
  refine (pick_any C a len cap n 3 w h (by omega)).mono ?_
  rintro e w1 ⟨x, n1, rfl, hx0, hx1, -, hn1, h1, hO1⟩
  have hx3 := hx1 (by omega)
  have hT1 := tn_only hO1
  clear hx1 hO1 h
  obtain ⟨K, rfl⟩ := Int.eq_ofNat_of_zero_le hx0
  go_wp2_with fail
  go_loopw [3, 4] (fun s i wr => ∃ (k n' : Nat) (t' : ByteArray), k ≤ K + 1 ∧ i = .int .i64 (k : Int) ∧ s = .string t' ∧ t'.size ≤ 1001 * (K + 1 - k) ∧ n' ≤ n + 2 + 2 * (K + 1 - k) ∧ Cur wr C a len cap n' ∧ Turns C (C + 1) w wr) (fun _ i _ => (intOf i).toNat)
  case atStart => exact ⟨K + 1, n1, ⟨#[]⟩, Nat.le_refl _, by go_num, rfl, Nat.zero_le _, by omega, h1, hT1⟩
  case round =>
    obtain ⟨k, n', t', hk, rfl, rfl, hts, hn', hc, hT⟩ := hrel
    clear h1 hT1
    cases k with
    | succ k =>
      rw [show ((k + 1 : Nat) : Int) = (k : Int) + 1 by omega]
      have i1 : (0 : Int) < (k : Int) + 1 := by omega
      go_wp2_with fail
      refine (part_any C a len cap n' wr hc (by omega)).mono ?_
      rintro e w2 ⟨s, n2, rfl, hs2, hn2, h2, hT2⟩
      have hT3 := hT.trans hT2
      clear hc hT hT2
      go_wp2
      refine ⟨⟨k, n2, _, by omega, by go_num, rfl, ?_, by omega, h2, hT3⟩, by simp [intOf]⟩
      have h47 : (⟨#[47]⟩ : ByteArray).size = 1 := rfl
      rw [ByteArray.size_append, ByteArray.size_append, h47]
      omega
    | zero =>
      go_wp2_with fail
      refine (pick_any C a len cap n' 10 wr hc (by omega)).mono ?_
      rintro e w2 ⟨y, n2, rfl, hy0, -, -, hn2, h2, hO2⟩
      have hT2 := hT.trans (tn_only hO2)
      clear hc hT hO2
      by_cases ya : y = 0
      · have ja : (y == 0) = true := by simp [ya]
        clear ya
        go_wp2_with fail
        refine (spoilt_any C a len cap n2 t' ⟨#[47, 95, 97, 65, 49, 42]⟩ 3003 w2 h2 (by omega) (by omega) (by omega) (by decide) (by decide)).mono ?_
        rintro e w3 ⟨s, n3, rfl, hs3, hn3, h3, hT3⟩
        have hT4 := hT2.trans hT3
        clear hT2 hT3 h2
        go_wp2
        go_ret
        exact ⟨s, n3, rfl, by omega, by omega, h3, hT4⟩
      · have ja : (y == 0) = false := by simp [ya]
        by_cases yb : y = 1
        · have jb : (y == 1) = true := by simp [yb]
          clear ya yb
          have k1 := lit_of C a len cap n2 w2 h2 (by omega) [⟨#[]⟩, ⟨#[47]⟩, ⟨#[47, 47, 97]⟩, ⟨#[47, 97, 47]⟩, ⟨#[97]⟩, ⟨#[47, 65]⟩, ⟨#[47, 49, 97]⟩, ⟨#[47, 97, 98, 99, 100, 101, 102, 103, 104, 105, 106, 107, 108, 109, 110, 111, 112, 113, 114, 115, 116, 117]⟩, ⟨#[47, 97, 98, 99, 100, 101, 102, 103, 104, 105, 106, 107, 108, 109, 110, 111, 112, 113, 114, 115, 116, 47, 97, 98, 99, 100, 101, 102, 103, 104, 105, 106, 107, 108, 109, 110, 111, 112, 113, 114, 115, 116, 47, 97, 98, 99, 100, 101, 102, 103, 104, 105, 106, 107, 108, 109, 110, 111, 112, 113]⟩, ⟨#[47, 97, 98, 99, 100, 101, 102, 103, 104, 105, 106, 107, 108, 109, 110, 111, 112, 113, 114, 115, 116, 47, 97, 98, 99, 100, 101, 102, 103, 104, 105, 106, 107, 108, 109, 110, 111, 112, 113, 114, 115, 116, 47, 97, 98, 99, 100, 101, 102, 103, 104, 105, 106, 107, 108, 109, 110, 111, 112, 113, 114]⟩] (by decide) (by decide) (by decide)
          simp only [List.map_cons, List.map_nil, List.length_cons, List.length_nil, Nat.zero_add, Nat.reduceAdd] at k1
          go_wp2_with fail
          refine k1.mono ?_
          rintro e w3 ⟨s, n3, rfl, hs3, hn3, h3, hT3⟩
          have hT4 := hT2.trans hT3
          clear hT2 hT3 h2 k1
          go_wp2
          go_ret
          exact ⟨s, n3, rfl, by omega, by omega, h3, hT4⟩
        · have jb : (y == 1) = false := by simp [yb]
          clear ya yb
          go_wp2
          go_ret
          exact ⟨t', n2, rfl, by omega, by omega, h2, hT2⟩
/-- what is drawn: two texts that are not too long -/
def AnsTw (w w' : World) (e : Ending) : Prop := ∃ (s t : ByteArray), e = .returned (.tuple #[.string s, .string t]) ∧ s.size ≤ 50000 ∧ t.size ≤ 50000 ∧ Below w.heap.size w w'
set_option maxRecDepth 20000 in
set_option maxHeartbeats 4000000 in
theorem drawRes (a : Option Addr) (len cap : Nat) (w : World) (hl : len ≤ 1048576) (hb : 0 < len → ∃ b off, a = some ⟨b, off, none⟩ ∧ b < w.heap.size ∧ ∀ i, i < len → ∃ v : Int, w.cell? ⟨b, off + i, none⟩ = some (.int .u8 v) ∧ 0 ≤ v ∧ v ≤ 255) :
    Calls Tryd.prog 7 #[.slice a len cap] w fun e w' => AnsTw w w' e := by
  have hc0 := cur_new w a len cap hl hb
  have hB0 : Below w.heap.size w (w.alloc (.cells #[.slice a len cap, .int .i64 0, .int .u64 0] 32)) := (Below.refl _ _).alloc (Nat.le_refl _) _
  clear hb
  go_enter Tryd.func7, Tryd.ntmps7
  go_wp2_with fail
  refine (topic_any w.heap.size a len cap _ _ hc0 (by omega)).mono ?_
  rintro e w1 ⟨s, n1, rfl, hs1, hn1, hc1, hT1⟩
  have hB1 := hB0.trans (hT1.below (Nat.le_refl _) (by simp))
  clear hc0 hB0 hT1
  go_wp2_with fail
  refine (one_any w.heap.size a len cap _ _ _ hc1 (by omega)).mono ?_
  rintro e w2 ⟨b2, n2, rfl, hn2, hc2, hO2⟩
  have hB2 := hB1.trans hO2.below
  clear hc1 hB1 hO2
  have key : ∃ s2 : ByteArray, s2.size ≤ 4000 ∧ s2 = (if b2 then ⟨#[]⟩ else s) := ⟨_, by split <;> first | exact Nat.zero_le _ | exact hs1, rfl⟩
  cases b2
  case false =>
    go_wp2_with fail
    refine (topic_any w.heap.size a len cap _ _ hc2 (by omega)).mono ?_
    rintro e w3 ⟨t, n3, rfl, ht3, hn3, hc3, hT3⟩
    have hB3 := hB2.trans (hT3.below (Nat.le_refl _) hB2.size)
    clear hc2 hB2 hT3 key
    go_wp2_with fail
    refine (pick_any w.heap.size a len cap _ _ _ hc3 (by omega)).mono ?_
    rintro e w4 ⟨y, n4, rfl, hy0, -, -, hn4, hc4, hO4⟩
    have hB4 := hB3.trans hO4.below
    clear hc3 hB3 hO4 hc4
    by_cases ya : y = 0
    · have ja : (y == 0) = true := by simp [ya]
      clear ya
      go_wp2
      go_ret2
      refine ⟨s, _, rfl, by omega, ?_, hB4⟩
      have h126 : (⟨#[126]⟩ : ByteArray).size = 1 := rfl
      rw [ByteArray.size_append, h126]
      omega
    · have ja : (y == 0) = false := by simp [ya]
      by_cases yb : y = 1
      · have jb : (y == 1) = true := by simp [yb]
        clear ya yb
        by_cases h0 : t.size = 0
        · have j0 : ¬ (0 : Int) < (t.size : Int) := by omega
          have HZ : Hid (t.size = 0) := h0
          clear h0
          go_wp2
          go_ret2
          exact ⟨s, t, rfl, by omega, by omega, hB4⟩
        · have j0 : (0 : Int) < (t.size : Int) := by omega
          have hsb := sub_size t 1 t.size
          go_wp2
          go_ret2
          exact ⟨s, _, rfl, by omega, by omega, hB4⟩
      · have jb : (y == 1) = false := by simp [yb]
        clear ya yb
        go_wp2
        go_ret2
        exact ⟨s, t, rfl, by omega, by omega, hB4⟩
  case true =>
    go_wp2_with fail
    refine (topic_any w.heap.size a len cap _ _ hc2 (by omega)).mono ?_
    rintro e w3 ⟨t, n3, rfl, ht3, hn3, hc3, hT3⟩
    have hB3 := hB2.trans (hT3.below (Nat.le_refl _) hB2.size)
    clear hc2 hB2 hT3 key
    go_wp2_with fail
    refine (pick_any w.heap.size a len cap _ _ _ hc3 (by omega)).mono ?_
    rintro e w4 ⟨y, n4, rfl, hy0, -, -, hn4, hc4, hO4⟩
    have hB4 := hB3.trans hO4.below
    clear hc3 hB3 hO4 hc4
    by_cases ya : y = 0
    · have ja : (y == 0) = true := by simp [ya]
      clear ya
      go_wp2
      go_ret2
      refine ⟨⟨#[]⟩, _, rfl, Nat.zero_le _, ?_, hB4⟩
      have h126 : (⟨#[126]⟩ : ByteArray).size = 1 := rfl
      rw [ByteArray.size_append, h126]
      omega
    · have ja : (y == 0) = false := by simp [ya]
      by_cases yb : y = 1
      · have jb : (y == 1) = true := by simp [yb]
        clear ya yb
        by_cases h0 : t.size = 0
        · have j0 : ¬ (0 : Int) < (t.size : Int) := by omega
          have HZ : Hid (t.size = 0) := h0
          clear h0
          go_wp2
          go_ret2
          exact ⟨⟨#[]⟩, t, rfl, Nat.zero_le _, by omega, hB4⟩
        · have j0 : (0 : Int) < (t.size : Int) := by omega
          have hsb := sub_size t 1 t.size
          go_wp2
          go_ret2
          exact ⟨⟨#[]⟩, _, rfl, Nat.zero_le _, by omega, hB4⟩
      · have jb : (y == 1) = false := by simp [yb]
        clear ya yb
        go_wp2
        go_ret2
        exact ⟨⟨#[]⟩, t, rfl, Nat.zero_le _, by omega, hB4⟩
end Go.Proofs.YthhaemdpnphhoaaDoor
