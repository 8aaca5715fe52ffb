/- Lists of texts that are marked. -/
import Derived.Test.YtmlfijapndkfhaaDoorQWhMkT
namespace Go.Proofs.YtmlfijapndkfhaaDoor
open Go.RowKit
theorem turns_set {w : World} {lo hi b k : Nat} (v : Value) (h0 : lo ≤ b) (h1 : b < hi) : Turns lo hi w (w.setCell ⟨b, k, none⟩ v) :=
  (OnlyIn.of ((Only.refl b w).set k v) (Nat.le_refl b) (Nat.lt_succ_self b)).turns.wide h0 h1
theorem VP.congr {w : World} {b n : Nat} {f g : Nat → Value} (h : VP w b n f) (e : ∀ i, i < n → f i = g i) : VP w b n g := ⟨h.lt, fun i hi => by rw [h.c i hi, e i hi], h.fz⟩
theorem VP.on {w w' : World} {b n : Nat} {f : Nat → Value} (h : VP w b n f) (k : Below w.heap.size w w') : VP w' b n f := h.of k.size (k.block b h.lt)
set_option maxHeartbeats 2000000 in
theorem markSt (a : Option Addr) (n cap k lo hi : Nat) (f : Nat → Value) (w : World) (hn : n ≤ 1048576) (hk : k ≤ 8388608) (h : VQ w lo hi a n f) :
    Calls Tryd.prog 54 #[.slice a n cap, .int .i64 (k : Int)] w fun e w' => e = .returned (.int .i64 ((k + n : Nat) : Int)) ∧ VQ w' lo hi a n (fun i => .string (mkT (k + i))) ∧ Turns lo hi w w' := by
  by_cases h0 : 0 < n
  case neg =>
    have hm0 : n = 0 := by omega
    subst hm0
    go_enter Tryd.func54, Tryd.ntmps54
    go_wp2
    go_loopw [1, 5] (fun v i wr => v = .int .i64 (k : Int) ∧ i = .int .i64 0 ∧ wr = w) (fun _ _ _ => 0)
    case atStart => exact ⟨rfl, rfl, rfl⟩
    case round =>
      obtain ⟨rfl, rfl, hw⟩ := hrel
      have hw' := hw.symm
      clear hw
      subst hw'
      go_wp2
      go_ret
      exact ⟨ret_int (by simp), fun h => by omega, turns_of (Below.refl _ _)⟩
  case pos =>
    obtain ⟨b, rfl, e1, e2, hP⟩ := h h0
    have HP0 : Hid (VP w b n (fun i => if i < 0 then .string (mkT (k + i)) else f i)) := hP.congr fun i _ => by rw [if_neg (by omega)]
    clear h hP
    go_enter Tryd.func54, Tryd.ntmps54
    go_wp2
    go_loopw [1, 5] (fun v i wr => ∃ p : Nat, v = .int .i64 ((k : Int) + (p : Int)) ∧ i = .int .i64 (p : Int) ∧ p ≤ n ∧ Hid (VP wr b n (fun i => if i < p then .string (mkT (k + i)) else f i)) ∧ Turns lo hi w wr) (fun _ i _ => n - (intOf i).toNat)
    case atStart => exact ⟨0, by simp, rfl, Nat.zero_le _, HP0, turns_of (Below.refl _ _)⟩
    case round =>
      obtain ⟨p, rfl, rfl, hp, HP, hT⟩ := hrel
      clear HP0
      by_cases hlt : p < n
      · have j0 : (0 : Int) ≤ (p : Int) := by omega
        have j1 : (p : Int) < (n : Int) := by omega
        have kT := markText_any (k + p) wr (by omega)
        rw [show ((k + p : Nat) : Int) = (k : Int) + (p : Int) by omega] at kT
        obtain ⟨s, hs⟩ : ∃ s, mkT (k + p) = s := ⟨_, rfl⟩
        rw [hs] at kT
        go_wp2_with fail
        refine kT.mono ?_
        rintro e w2 ⟨rfl, hb2⟩
        have HP2 : Hid (VP w2 b n (fun i => if i < p then .string (mkT (k + i)) else f i)) := HP.out.on hb2
        have hT2 := hT.trans (turns_of (lo := lo) (hi := hi) hb2)
        clear HP hT hb2 kT
        have HP3 : Hid (VP (w2.setCell ⟨b, p, none⟩ (.string s)) b n (fun i => if i < p + 1 then .string (mkT (k + i)) else f i)) := (HP2.out.set hlt (.string s)).congr fun i hi => by
          by_cases e : i = p
          · subst e; rw [if_pos rfl, if_pos (by omega), hs]
          · rw [if_neg e]
            by_cases e9 : i < p
            · rw [if_pos e9, if_pos (by omega)]
            · rw [if_neg e9, if_neg (by omega)]
        have hT3 := hT2.trans (turns_set (k := p) (.string s) e1 e2)
        have y0 := HP2.out.c p hlt
        have y1 := HP2.out.fz p
        have y2 := HP2.out.lt
        clear HP2 hT2
        simp only [Nat.lt_irrefl, if_false] at y0
        go_wp2
        exact ⟨⟨p + 1, by go_num, by go_num, by omega, HP3, hT3⟩, by simp [intOf]; omega⟩
      · have hpn : p = n := by omega
        subst hpn
        have HQ : Hid (VQ wr lo hi (some ⟨b, 0, none⟩) p (fun i => .string (mkT (k + i)))) := fun _ => ⟨b, rfl, e1, e2, HP.out.congr fun i hi => by rw [if_pos hi]⟩
        clear HP
        go_wp2
        go_ret
        exact ⟨ret_int (by omega), HQ.out, hT⟩
end Go.Proofs.YtmlfijapndkfhaaDoor
