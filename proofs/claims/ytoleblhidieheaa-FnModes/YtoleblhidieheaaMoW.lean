/- A run of modes, as the program goes through it. -/
import Derived.Test.YtoleblhidieheaaMoV
namespace Go.Proofs.Ytoleblhidieheaa
open Go.RowKit
set_option maxRecDepth 20000 in
set_option maxHeartbeats 4000000 in
theorem iModes (a b : Option Addr) (n c nn d : Nat) (E N : Nat → ByteArray) (w : World) (hn : n ≤ 1048576) (hnn : nn ≤ 1048576) (hsz : ∀ i, i < n * 2 → (E i).size ≤ 1048576) (hE : SL w a (n * 2) E) (hN : SL w b nn N) :
    Calls Try.prog 6 #[.slice a n c, .slice b nn d] w fun e w' => AnsMo w w' e n nn N E ∧ Below w.heap.size w w' := by
  by_cases h1 : n ≤ 60
  case neg =>
    have hk : moOk n nn = false := decide_eq_false (by omega)
    have HA : Hid (AnsMo w w (.returned (.tuple #[.int .i64 0, .slice none 0 0, .bool false])) n nn N E) := ⟨none, 0, by rw [hk]; rfl, fun h => by rw [hk] at h; cases h⟩
    clear hk
    have j1 : (60 : Int) < (n : Int) := by omega
    go_enter Try.func6, Try.ntmps6
    go_wp2
    go_ret3
    exact ⟨HA.out, Below.refl _ _⟩
  by_cases h2 : nn ≤ 10
  case neg =>
    have hk : moOk n nn = false := decide_eq_false (by omega)
    have HA : Hid (AnsMo w w (.returned (.tuple #[.int .i64 0, .slice none 0 0, .bool false])) n nn N E) := ⟨none, 0, by rw [hk]; rfl, fun h => by rw [hk] at h; cases h⟩
    clear hk
    have j1 : ¬ (60 : Int) < (n : Int) := by omega
    have j2 : (10 : Int) < (nn : Int) := by omega
    go_enter Try.func6, Try.ntmps6
    go_wp2
    go_ret3
    exact ⟨HA.out, Below.refl _ _⟩
  have HK : Hid (moOk n nn = true) := decide_eq_true ⟨h1, h2⟩
  have j1 : ¬ (60 : Int) < (n : Int) := by omega
  have j2 : ¬ (10 : Int) < (nn : Int) := by omega
  have HL : Hid (∀ k, (runF E k).length ≤ k) := fun k => runF_len E k
  have HS : Hid (∀ k, Srt (runF E k)) := fun k => runF_srt E k
  have hb0 : Below w.heap.size w (w.alloc (.cells (hev 0 0 b nn d none 0 0).toArray 59)) := (Below.refl _ _).alloc (Nat.le_refl _) _
  have H0 : Hid (Hs (w.alloc (.cells (hev 0 0 b nn d none 0 0).toArray 59)) w.heap.size 0 0 b nn d N none 0 []) :=
    ⟨bx_new (w := w) (hev 0 0 b nn d none 0 0) 59 rfl, fl_nil _ _, List.Pairwise.nil, Nat.zero_le _, hN.below hb0, fun b0 off e0 q0 => by
      obtain ⟨b1, o1, e1, hl1, _⟩ := hN q0
      rw [e0] at e1; cases e1; exact hl1, h2⟩
  go_enter Try.func6, Try.ntmps6
  go_wp2
  go_loopw [24] (fun i wr => ∃ (k : Nat) (a2 : Option Addr) (c2 : Nat), k ≤ n ∧ i = .int .i64 (k : Int) ∧ Hid (Hs wr w.heap.size 0 (runM N nn E k) b nn d N a2 c2 (runF E k)) ∧ Below w.heap.size w wr) (fun i _ => n - (intOf i).toNat)
  case atStart => exact ⟨0, none, 0, Nat.zero_le _, rfl, H0, hb0⟩
  case round =>
    obtain ⟨k, a2, c2, hk, rfl, HH, hB⟩ := hrel
    clear H0 hb0 hN
    have hol := HL.out k
    have hBl := HH.out.bx.lt
    by_cases hlt : k < n
    · obtain ⟨b1, o1, rfl, l1, y0, y1⟩ := sl_two (hE.below hB) hlt
      have j3 : (0 : Int) ≤ (k : Int) := by omega
      have j4 : (k : Int) < (n : Int) := by omega
      have hx := hsz (k * 2 + 1) (by omega)
      have HM2 : Hid (nxM N nn (runM N nn E k) (runF E k) (E (k * 2)) (E (k * 2 + 1)) = runM N nn E (k + 1)) := rfl
      have HF2 : Hid (nxF (runF E k) (E (k * 2)) (E (k * 2 + 1)) = runF E (k + 1)) := rfl
      have hbt : Below wr.heap.size wr (wr.alloc (.cells #[.string (E (k * 2)), .string (E (k * 2 + 1))] 32)) := (Below.refl _ _).alloc (Nat.le_refl _) _
      have b3 := evb (w := wr) (E (k * 2)) (E (k * 2 + 1))
      have z0 := b3.c0
      have z1 := b3.c1
      have hB3 := stepA hB hbt
      have kT := take_any w.heap.size (runM N nn E k) b nn d N a2 c2 (runF E k) (E (k * 2)) (E (k * 2 + 1)) _ hx (by omega) (HH.out.on hbt)
      rw [HM2.out, HF2.out] at kT
      clear HM2 HF2 HH hbt b3 HL HS hsz hx hB
      obtain ⟨M1, hM1⟩ : ∃ M1, M1 = runM N nn E (k + 1) := ⟨_, rfl⟩
      obtain ⟨F1, hF1⟩ : ∃ F1, F1 = runF E (k + 1) := ⟨_, rfl⟩
      have HM1 : Hid (M1 = runM N nn E (k + 1)) := hM1
      have HF1 : Hid (F1 = runF E (k + 1)) := hF1
      rw [← hM1, ← hF1] at kT
      clear hM1 hF1
      generalize E (k * 2) = kd at y0 z0 z1 hB3 kT ⊢
      generalize E (k * 2 + 1) = pt at y1 z0 z1 hB3 kT ⊢
      generalize hw3 : wr.alloc (.cells #[.string kd, .string pt] 32) = w3 at *
      go_wp2_with (first | (go_at_call 24; refine kT.mono ?_; rintro e w5 ⟨rfl, ⟨a5, c5, h5⟩, hb5⟩) | fail)
      have hB5 := hB3.trans hb5
      exact ⟨⟨k + 1, a5, c5, by omega, by go_num, by rw [← HM1.out, ← HF1.out]; exact h5, hB5⟩, by simp [intOf]; omega⟩
    · have hke : k = n := by omega
      subst hke
      have kT := tell_any w.heap.size (runM N nn E k) b nn d N a2 c2 (runF E k) wr HH.out
      have HE : Hid (runM N nn E k = runM N nn E k) := rfl
      clear HE
      go_upto_region 10 with (first | (go_at_call 25; refine kT.mono ?_; rintro e w5 ⟨rfl, h5, hb5⟩) | fail)
      have HA : Hid (AnsMo w w5 (.returned (.tuple #[.int .i64 (runM N nn E k), .slice a2 (runF E k).length c2, .bool true])) k nn N E) := by
        refine ⟨a2, c2, ?_, fun _ => ?_⟩
        · rw [HK.out]; rfl
        · exact h5.fl.ows.mono (Nat.le_succ _)
      have hB5 := hB.trans hb5
      clear HH HK HL HS kT h5 hb5
      go_wp2
      go_ret3
      exact ⟨HA.out, hB5⟩
end Go.Proofs.Ytoleblhidieheaa
