/- The health of a robot, as the program keeps it: its box, what it lacks. -/
import Derived.Test.YtoleblhidieheaaMoI
import Derived.Test.YtoleblhidieheaaMoLock
import Derived.Test.YtoleblhidieheaaSgMode
import Derived.Conc.MuLone
import Derived.Deep.Cut
namespace Go.Proofs.Ytoleblhidieheaa
open Go.RowKit
/-- the box of a health: the lock's two words, the mode, the needed parts, the failed ones -/
abbrev hev (s m : Int) (b : Option Addr) (nn d : Nat) (a : Option Addr) (n c : Nat) : List Value := [.int .i32 s, .int .u32 0, .int .i64 m, .slice b nn d, .slice a n c]
structure Hs (w : World) (B : Nat) (s m : Int) (b : Option Addr) (nn d : Nat) (N : Nat → ByteArray) (a : Option Addr) (c : Nat) (l : List ByteArray) : Prop where
  bx : Bx w B (hev s m b nn d a l.length c)
  fl : Fl w (B + 1) a c l
  sr : Srt l
  le : l.length ≤ 61
  nd : SL w b nn N
  nb : ∀ b0 off, b = some ⟨b0, off, none⟩ → 0 < nn → b0 < B
  n1 : nn ≤ 10
theorem Hs.at {w : World} {B : Nat} {s m : Int} {b : Option Addr} {nn d : Nat} {N : Nat → ByteArray} {a : Option Addr} {c : Nat} {l : List ByteArray} (h : Hs w B s m b nn d N a c l) :
    w.cell? ⟨B, 0, none⟩ = some (.int .i32 s) ∧ w.cell? ⟨B, 1, none⟩ = some (.int .u32 0) ∧ w.cell? ⟨B, 2, none⟩ = some (.int .i64 m) ∧ w.cell? ⟨B, 3, none⟩ = some (.slice b nn d) ∧ w.cell? ⟨B, 4, none⟩ = some (.slice a l.length c) :=
  ⟨h.bx.c 0 (show 0 < 5 by omega), h.bx.c 1 (show 1 < 5 by omega), h.bx.c 2 (show 2 < 5 by omega), h.bx.c 3 (show 3 < 5 by omega), h.bx.c 4 (show 4 < 5 by omega)⟩
theorem Hs.on {w w' : World} {B : Nat} {s m : Int} {b : Option Addr} {nn d : Nat} {N : Nat → ByteArray} {a : Option Addr} {c : Nat} {l : List ByteArray} (h : Hs w B s m b nn d N a c l) (k : Below w.heap.size w w') : Hs w' B s m b nn d N a c l :=
  ⟨h.bx.on k, h.fl.on k, h.sr, h.le, h.nd.below k, h.nb, h.n1⟩
theorem need_keep {w w' : World} {B : Nat} {b : Option Addr} {nn : Nat} {N : Nat → ByteArray} (h : SL w b nn N) (hb : ∀ b0 off, b = some ⟨b0, off, none⟩ → 0 < nn → b0 < B) (k : Below B w w') : SL w' b nn N := fun h0 => by
  obtain ⟨b0, off, rfl, hbw, hc⟩ := h h0
  have h1 := hb b0 off rfl h0
  exact ⟨b0, off, rfl, Nat.lt_of_lt_of_le hbw k.size, fun i hi => (k.cell (p := ⟨b0, off + i, none⟩) h1).trans (hc i hi)⟩
/-- the mode, or the lock's word, stored -/
theorem Hs.mode {w : World} {B : Nat} {s m : Int} {b : Option Addr} {nn d : Nat} {N : Nat → ByteArray} {a : Option Addr} {c : Nat} {l : List ByteArray} (h : Hs w B s m b nn d N a c l) (m2 : Int) : Hs (w.setCell ⟨B, 2, none⟩ (.int .i64 m2)) B s m2 b nn d N a c l :=
  ⟨h.bx.set 2 (show 2 < 5 by omega) (.int .i64 m2), h.fl.set (Nat.lt_succ_self _) _, h.sr, h.le, need_keep h.nd h.nb ((Below.refl B w).setCell (p := ⟨B, 2, none⟩) (Nat.le_refl _) _), h.nb, h.n1⟩
theorem Hs.lock {w : World} {B : Nat} {s m : Int} {b : Option Addr} {nn d : Nat} {N : Nat → ByteArray} {a : Option Addr} {c : Nat} {l : List ByteArray} (h : Hs w B s m b nn d N a c l) (s2 : Int) : Hs (w.setCell ⟨B, 0, none⟩ (.int .i32 s2)) B s2 m b nn d N a c l :=
  ⟨h.bx.set 0 (show 0 < 5 by omega) (.int .i32 s2), h.fl.set (Nat.lt_succ_self _) _, h.sr, h.le, need_keep h.nd h.nb ((Below.refl B w).setCell (p := ⟨B, 0, none⟩) (Nat.le_refl _) _), h.nb, h.n1⟩
/-- the failed parts turned by a call of the library, and stored -/
theorem Hs.turn {w w' : World} {B : Nat} {s m : Int} {b : Option Addr} {nn d : Nat} {N : Nat → ByteArray} {a a2 : Option Addr} {c c2 : Nat} {l l2 : List ByteArray} (h : Hs w B s m b nn d N a c l) (k : Below (B + 1) w w') (hf : Fl w' (B + 1) a2 c2 l2) (hs : Srt l2) (hl : l2.length ≤ 61) :
    Hs (w'.setCell ⟨B, 4, none⟩ (.slice a2 l2.length c2)) B s m b nn d N a2 c2 l2 :=
  ⟨(h.bx.below k (Nat.lt_succ_self _)).set 4 (show 4 < 5 by omega) (.slice a2 l2.length c2), hf.set (Nat.lt_succ_self _) _, hs, hl, need_keep (need_keep h.nd (fun b0 off e q => Nat.lt_succ_of_lt (h.nb b0 off e q)) k) h.nb ((Below.refl B w').setCell (p := ⟨B, 4, none⟩) (Nat.le_refl _) _), h.nb, h.n1⟩
/-- what the program asks of needed parts -/
def lkB (N : Nat → ByteArray) (l : List ByteArray) (k : Nat) : Bool := decide (∃ i, i < k ∧ inL l (N i) = true)
theorem lkB_ill (N : Nat → ByteArray) (l : List ByteArray) (nn : Nat) : lkB N l nn = illB N nn l := by
  rw [Bool.eq_iff_iff]
  unfold lkB illB
  rw [decide_eq_true_iff, List.any_eq_true]
  constructor
  · rintro ⟨i, h, e⟩; exact ⟨N i, inL_iff.1 e, inS_iff.2 ⟨i, h, rfl⟩⟩
  · rintro ⟨x, h, e⟩
    obtain ⟨i, hi, rfl⟩ := inS_iff.1 e
    exact ⟨i, hi, inL_iff.2 h⟩
set_option maxHeartbeats 1000000 in
theorem lacks1 (p B : Nat) (s m : Int) (b : Option Addr) (nn d : Nat) (N : Nat → ByteArray) (a : Option Addr) (c : Nat) (l : List ByteArray) (x : ByteArray) (w : World) (hp : w.cell? ⟨p, 0, none⟩ = some (.pointer (some ⟨B, 0, none⟩))) (h : Hs w B s m b nn d N a c l) :
    Calls Try.prog 51 #[.string x, .pointer (some ⟨p, 0, none⟩)] w fun e w' => e = .returned (.bool (inL l x)) ∧ Below w.heap.size w w' := by
  obtain ⟨c0, c1, c2, c3, c4⟩ := h.at
  have kB := bin_any (B + 1) a c l x w (by have := h.le; omega) h.sr h.fl
  have hb := h.bx.lt
  clear h
  generalize inL l x = R at *
  generalize plc x l = Q at *
  go_enter Try.func51, Try.ntmps51
  go_wp2_with (first | (go_at_call 45; refine kB.mono ?_; rintro e w2 ⟨rfl, q, hw2⟩; subst hw2) | fail)
  go_ret
  exact ⟨rfl, below_dr (Below.refl _ _) q⟩
/-- what IndexFunc tells of the first k needed parts -/
def IdxM (N : Nat → ByteArray) (l : List ByteArray) (k : Nat) (e : Ending) : Prop := ∃ z : Int, e = .returned (.int .i64 z) ∧ decide (0 ≤ z) = lkB N l k
theorem lkB_up {N : Nat → ByteArray} {l : List ByteArray} {k m : Nat} (h : lkB N l k = true) (hk : k ≤ m) : lkB N l m = true := by
  obtain ⟨i, hi, e⟩ := of_decide_eq_true h
  exact decide_eq_true ⟨i, by omega, e⟩
theorem lkB_step (N : Nat → ByteArray) (l : List ByteArray) (k : Nat) : lkB N l (k + 1) = (lkB N l k || inL l (N k)) := by
  rw [Bool.eq_iff_iff, Bool.or_eq_true]
  unfold lkB
  rw [decide_eq_true_iff, decide_eq_true_iff]
  constructor
  · rintro ⟨i, h, e⟩
    by_cases q : i = k
    · subst q; exact .inr e
    · exact .inl ⟨i, by omega, e⟩
  · rintro (⟨i, h, e⟩ | e)
    · exact ⟨i, by omega, e⟩
    · exact ⟨k, by omega, e⟩
set_option maxHeartbeats 2000000 in
theorem idxM (p B : Nat) (s m : Int) (b : Option Addr) (nn d : Nat) (N : Nat → ByteArray) (a : Option Addr) (c : Nat) (l : List ByteArray) (w : World) (hp : w.cell? ⟨p, 0, none⟩ = some (.pointer (some ⟨B, 0, none⟩))) (hpl : p < w.heap.size) (h : Hs w B s m b nn d N a c l) :
    Calls Try.prog 66 #[.slice b nn d, .func (.func 51) #[] #[.pointer (some ⟨p, 0, none⟩)]] w fun e w' => IdxM N l nn e ∧ Below w.heap.size w w' := by
  have hn1 := h.n1
  have HZ : Hid (lkB N l 0 = false) := decide_eq_false fun ⟨i, hi, _⟩ => absurd hi (Nat.not_lt_zero _)
  go_enter Try.func66, Try.ntmps66
  go_wp2
  go_loopw [8] (fun i wr => ∃ k : Nat, k ≤ nn ∧ i = .int .i64 (k : Int) ∧ Hid (lkB N l k = false) ∧ Below w.heap.size w wr) (fun i _ => nn - (intOf i).toNat)
  case atStart => exact ⟨0, Nat.zero_le _, rfl, HZ, Below.refl _ _⟩
  case round =>
    obtain ⟨k, hk, rfl, HE, hB⟩ := hrel
    clear HZ
    by_cases hlt : k < nn
    · obtain ⟨b1, o1, rfl, l1, hc1⟩ := (h.nd.below hB) (by omega)
      have y1 := hc1 k hlt
      have j0 : (0 : Int) ≤ (k : Int) := by omega
      have j1 : (k : Int) < (nn : Int) := by omega
      have kA := lacks1 p B s m _ nn d N a c l (N k) wr ((hB.cell (p := ⟨p, 0, none⟩) hpl).trans hp) (h.on hB)
      have HT : Hid (inL l (N k) = true → lkB N l nn = true) := fun q => lkB_up (k := k + 1) (by rw [lkB_step, q]; simp) (by omega)
      have HF : Hid (inL l (N k) = false → lkB N l (k + 1) = false) := fun q => by rw [lkB_step, q, HE.out]; rfl
      clear hc1 h HE
      generalize inL l (N k) = R at *
      generalize N k = X at *
      cases R with
      | true =>
        have HR : Hid (IdxM N l nn (.returned (.int .i64 (k : Int)))) := ⟨(k : Int), rfl, by rw [HT.out rfl]; simp⟩
        clear HT HF
        go_wp2_with (first | (go_at_call 51; refine kA.mono ?_; rintro e w9 ⟨rfl, hb9⟩) | fail)
        go_ret
        exact ⟨HR.out, stepA hB hb9⟩
      | false =>
        have HR : Hid (lkB N l (k + 1) = false) := HF.out rfl
        clear HT HF
        go_wp2_with (first | (go_at_call 51; refine kA.mono ?_; rintro e w9 ⟨rfl, hb9⟩) | fail)
        exact ⟨⟨k + 1, by omega, by go_num, HR, stepA hB hb9⟩, by simp [intOf]; omega⟩
    · have hke : k = nn := by omega
      subst hke
      have HR : Hid (IdxM N l k (.returned (.int .i64 (-1)))) := ⟨-1, rfl, by rw [HE.out]; rfl⟩
      clear HE
      go_wp2
      go_ret
      exact ⟨HR.out, hB⟩
set_option maxHeartbeats 1000000 in
theorem ctnM (p B : Nat) (s m : Int) (b : Option Addr) (nn d : Nat) (N : Nat → ByteArray) (a : Option Addr) (c : Nat) (l : List ByteArray) (w : World) (hp : w.cell? ⟨p, 0, none⟩ = some (.pointer (some ⟨B, 0, none⟩))) (hpl : p < w.heap.size) (h : Hs w B s m b nn d N a c l) :
    Calls Try.prog 50 #[.slice b nn d, .func (.func 51) #[] #[.pointer (some ⟨p, 0, none⟩)]] w fun e w' => e = .returned (.bool (illB N nn l)) ∧ Below w.heap.size w w' := by
  have k := idxM p B s m b nn d N a c l w hp hpl h
  rw [← lkB_ill]
  generalize hL : lkB N l nn = L at *
  go_enter Try.func50, Try.ntmps50
  go_wp2_with fail
  refine k.mono ?_
  rintro e w2 ⟨⟨z, rfl, hz⟩, hb2⟩
  rw [hL] at hz
  have HZ : Hid (decide (0 ≤ z) = L) := hz
  clear hz k h hp hL
  go_wp2
  go_ret
  exact ⟨ret_bool HZ.out, hb2⟩
set_option maxHeartbeats 1000000 in
theorem lacks_any (B : Nat) (s m : Int) (b : Option Addr) (nn d : Nat) (N : Nat → ByteArray) (a : Option Addr) (c : Nat) (l : List ByteArray) (w : World) (h : Hs w B s m b nn d N a c l) :
    Calls Try.prog 41 #[.pointer (some ⟨B, 0, none⟩)] w fun e w' => e = .returned (.bool (illB N nn l)) ∧ Below w.heap.size w w' := by
  have hbt : Below w.heap.size w (w.alloc (.cells #[.pointer (some ⟨B, 0, none⟩)] 71)) := (Below.refl _ _).alloc (Nat.le_refl _) _
  have b3 := bx_new (w := w) [.pointer (some ⟨B, 0, none⟩)] 71 rfl
  have h3 := h.on hbt
  have hlt3 : w.heap.size < (w.alloc (.cells #[.pointer (some ⟨B, 0, none⟩)] 71)).heap.size := b3.lt
  have z0 := b3.c0
  obtain ⟨c0, c1, c2, c3, c4⟩ := h3.at
  have kC := ctnM w.heap.size B s m b nn d N a c l _ z0 hlt3 h3
  have hBl := h.bx.lt
  generalize illB N nn l = R at *
  clear h h3 b3
  generalize hw3 : w.alloc (.cells #[.pointer (some ⟨B, 0, none⟩)] 71) = w3 at *
  go_enter Try.func41, Try.ntmps41
  go_wp2_with (first | (go_at_call 50; refine kC.mono ?_; rintro e w9 ⟨rfl, hb9⟩) | fail)
  go_ret
  exact ⟨rfl, stepA hbt hb9⟩
end Go.Proofs.Ytoleblhidieheaa
