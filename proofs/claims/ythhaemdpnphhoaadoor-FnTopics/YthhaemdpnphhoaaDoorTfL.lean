/- The walk of the law on topics that are drawn. -/
import Derived.Test.YthhaemdpnphhoaaDoorTfF
import Derived.Test.YthhaemdpnphhoaaDoorTfG
import Derived.Test.YthhaemdpnphhoaaDoorTpRS
import Derived.Test.YthhaemdpnphhoaaDoorTpRJ
import Derived.Test.YthhaemdpnphhoaaDoorTfK1
namespace Go.Proofs.YthhaemdpnphhoaaDoor
open Go.RowKit
/-- the bytes of a code that came in -/
def Byt (w : World) (a : Option Addr) (len : Nat) : Prop := 0 < len → ∃ b off, a = some ⟨b, off, none⟩ ∧ b < w.heap.size ∧ ∀ i, i < len → ∃ v : Int, w.cell? ⟨b, off + i, none⟩ = some (.int .u8 v) ∧ 0 ≤ v ∧ v ≤ 255
theorem Byt.on {w w' : World} {a : Option Addr} {len : Nat} (h : Byt w a len) (k : Below w.heap.size w w') : Byt w' a len := fun h0 => by
  obtain ⟨b, off, ha, hb, hc⟩ := h h0
  refine ⟨b, off, ha, Nat.lt_of_lt_of_le hb k.size, fun i hi => ?_⟩
  obtain ⟨v, hv, hv1⟩ := hc i hi
  exact ⟨v, (k.cell (p := ⟨b, _, none⟩) hb).trans hv, hv1⟩
set_option maxRecDepth 20000 in
set_option maxHeartbeats 4000000 in
theorem topicsIn (a : Option Addr) (len cap : Nat) (a2 : Option Addr) (len2 cap2 : Nat) (w : World) (hM : Mx w) (hl : len ≤ 1048576) (hl2 : len2 ≤ 1048576) (hb : Byt w a len) (hb2 : Byt w a2 len2) :
    Calls Tryd.prog 3 #[.slice a len cap, .slice a2 len2 cap2] w fun e w' => e = .returned (.bool true) ∧ Below w.heap.size w w' := by
  have j1 : ¬ (1048576 : Int) < (len : Int) := by omega
  have j2 : ¬ (1048576 : Int) < (len2 : Int) := by omega
  go_enter Tryd.func3, Tryd.ntmps3
  go_wp2_with fail
  refine (drawRes a len cap w hl hb).mono ?_
  rintro e w1 ⟨s, t, rfl, hs, ht, hB1⟩
  have hM1 := hM.on hB1
  clear hb
  have h1 := fun w hM => iResolve s t w hM (by omega)
  have h2 := fun w => sResolve s t w (by omega)
  have HR : Hid ((rsT s t).toList.isEmpty = false → gtB (rsT s t) = true) := fun h => rs_good h
  have hrs : (rsT s t).size ≤ 200 := by
    unfold rsT
    split
    · next e =>
      rw [Bool.and_eq_true] at e
      obtain ⟨e1, e2⟩ := rs_size e.1
      exact jn_size e1 e2
    · exact Nat.zero_le _
  generalize rsT s t = R at *
  have e0 : (R.toList == R.toList) = true := by simp
  go_wp2_with fail
  refine (h1 _ hM1).mono ?_
  rintro e w2 ⟨rfl, hb2'⟩
  have hM2 := hM1.on hb2'
  have hB2 := stepA hB1 hb2'
  clear hM1 hB1 hb2' h1
  go_wp2_with fail
  refine (h2 _).mono ?_
  rintro e w3 ⟨rfl, hb3⟩
  have hM3 := hM2.on hb3
  have hB3 := stepA hB2 hb3
  clear hM2 hB2 hb3 h2
  cases er : R.toList.isEmpty with
  | true =>
    go_wp2
    go_ret
    exact ⟨rfl, hB3⟩
  | false =>
    have hg := HR.out er
    have h3 := fun w hM => iTopic R w hM (by omega)
    rw [hg] at h3
    have hself := tf_self hg
    have hany := tf_any hg
    clear HR
    go_wp2_with fail
    refine (h3 _ hM3).mono ?_
    rintro e w4 ⟨rfl, hb4⟩
    have hM4 := hM3.on hb4
    have hB4 := stepA hB3 hb4
    clear hM3 hB3 hb4 h3
    go_wp2_with fail
    refine (drawFit a2 len2 cap2 w4 hl2 (hb2.on hB4)).mono ?_
    rintro e w5 ⟨p, n, rfl, hp, hn, hb5⟩
    have hM5 := hM4.on hb5
    have hB5 := stepA hB4 hb5
    clear hM4 hB4 hb5 hb2
    have k1 := fun w hM => iTopicFits R R w hM (by omega) (by omega)
    have k2 := fun w hM => iTopicFits ⟨#[47, 42, 42]⟩ R w hM (by decide) (by omega)
    have k3 := fun w hM => iTopicFits p n w hM (by omega) (by omega)
    have k4 := fun w => sTopicFits p n w (by omega) (by omega)
    rw [hself] at k1
    rw [hany] at k2
    clear hself hany hg
    generalize tfB p n = V at *
    go_wp2_with fail
    refine (k1 _ hM5).mono ?_
    rintro e w6 ⟨rfl, hb6⟩
    have hM6 := hM5.on hb6
    have hB6 := stepA hB5 hb6
    clear hM5 hB5 hb6 k1
    go_wp2_with fail
    refine (k2 _ hM6).mono ?_
    rintro e w7 ⟨rfl, hb7⟩
    have hM7 := hM6.on hb7
    have hB7 := stepA hB6 hb7
    clear hM6 hB6 hb7 k2
    go_wp2_with fail
    refine (k3 _ hM7).mono ?_
    rintro e w8 ⟨rfl, hb8⟩
    have hB8 := stepA hB7 hb8
    clear hM7 hB7 hb8 k3
    go_wp2_with fail
    refine (k4 _).mono ?_
    rintro e w9 ⟨rfl, hb9⟩
    have hB9 := stepA hB8 hb9
    clear hB8 hb9 k4
    cases V <;> (go_wp2; go_ret; exact ⟨rfl, hB9⟩)
set_option maxHeartbeats 1000000 in
theorem topicsAll2 (a : Option Addr) (len cap : Nat) (a2 : Option Addr) (len2 cap2 : Nat) (w : World) (hM : Mx w) (hb : Byt w a len) (hb2 : Byt w a2 len2) :
    Calls Tryd.prog 3 #[.slice a len cap, .slice a2 len2 cap2] w fun e w' => e = .returned (.bool true) ∧ Below w.heap.size w w' := by
  by_cases h : len ≤ 1048576
  · by_cases h2 : len2 ≤ 1048576
    · exact topicsIn a len cap a2 len2 cap2 w hM h h2 hb hb2
    · have j1 : ¬ (1048576 : Int) < (len : Int) := by omega
      have j2 : (1048576 : Int) < (len2 : Int) := by omega
      go_enter Tryd.func3, Tryd.ntmps3
      go_wp2
      go_ret
      exact ⟨rfl, Below.refl _ _⟩
  · have j1 : (1048576 : Int) < (len : Int) := by omega
    go_enter Tryd.func3, Tryd.ntmps3
    go_wp2
    go_ret
    exact ⟨rfl, Below.refl _ _⟩
end Go.Proofs.YthhaemdpnphhoaaDoor
