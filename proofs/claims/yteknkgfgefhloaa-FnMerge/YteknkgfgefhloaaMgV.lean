/- The merge's steps in its own words. -/
import Derived.Test.YteknkgfgefhloaaMgU
import Derived.Test.YteknkgfgefhloaaTaCs
namespace Go.Proofs.Yteknkgfgefhloaa
open Go.RowKit
theorem sortM (f g : Nat → Int) (n m b c : Nat) (w : World) (hn : n + m ≤ 1048576) (h : IP w b ((n + m) * 3) (apF f (n * 3) g)) :
    Calls Try.prog 40 #[.slice (some ⟨b, 0, none⟩) (n + m) c, .func (.func 41) #[] #[]] w fun e w' =>
      e = .returned (.tuple #[]) ∧ ∃ z : List Sw, z.length = n + m ∧ z.Perm (wl f n ++ wl g m) ∧ Wk z ∧ IP w' b ((n + m) * 3) (flS z) ∧ Below b w w' := by
  have hl := wl_len (apF f (n * 3) g) (n + m)
  have k := iSort (wl (apF f (n * 3) g) (n + m)) b c w (by rw [hl]; exact hn) (by rw [hl]; exact h.congr fun i hi => (wl_fl hi).symm)
  rw [hl] at k
  refine k.mono ?_
  rintro e w' ⟨he, z, hz, hw, hi, hb⟩
  exact ⟨he, z, hz.length_eq.trans hl, by rw [← wl_app]; exact hz, hw, hi, hb⟩
theorem compM (z : List Sw) (k b c : Nat) (w : World) (hk : z.length = k) (hn : k ≤ 1048576) (hc : k ≤ c) (h : IP w b (k * 3) (flS z)) :
    Calls Try.prog 42 #[.slice (some ⟨b, 0, none⟩) k c] w fun e w' => e = .returned (.slice (some ⟨b, 0, none⟩) (cpt z).length c) ∧ IP w' b ((cpt z).length * 3) (flS (cpt z)) ∧ Below b w w' := by
  subst hk
  have k := iCompact b z.length c (flS z) w hn hc h
  rw [cp_fl] at k
  exact k
theorem riseM (z : List Sw) (b c : Nat) (w : World) (hn : z.length ≤ 1048576) (h : IP w b (z.length * 3) (flS z)) :
    Calls Try.prog 43 #[.slice (some ⟨b, 0, none⟩) z.length c] w fun e w' => e = .returned (.bool (risK (flS z) z.length)) ∧ Below w.heap.size w w' :=
  iRising _ _ c _ w hn h.il
theorem cpt_le (z : List Sw) : (cpt z).length ≤ z.length := by
  have := cpW_le (swF (flS z)) z.length
  rw [cp_fl] at this
  exact this
/-- what a merge of two lists is, or none -/
def okM (f : Nat → Int) (n : Nat) (g : Nat → Int) (m : Nat) : Option (List Sw) := if ((decide (n ≤ 40) && risK f n) && (decide (m ≤ 40) && risK g m)) = true then mg (wl f n) (wl g m) else none
def AnsM (w w' : World) (e : Ending) : Option (List Sw) → Prop
  | none => e = .returned (.tuple #[.slice none 0 0, .bool false])
  | some z => ∃ a c, e = .returned (.tuple #[.slice a z.length c, .bool true]) ∧ LQ w' w.heap.size w'.heap.size a (z.length * 3) (flS z)
end Go.Proofs.Yteknkgfgefhloaa
