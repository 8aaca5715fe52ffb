/- A token, taken. -/
import Derived.Test.YtmlfijapndkfhaaDoorQReTn
namespace Go.Proofs.YtmlfijapndkfhaaDoor
open Go.RowKit
theorem isW_of {t : ByteArray} (h : isW t = true) : t = wdR ∨ t = wdA := by
  unfold isW at h
  rw [Bool.or_eq_true] at h
  rcases h with h | h
  · refine .inl (ba_ext ?_)
    have := eq_of_beq h
    rw [ByteArray.toList_eq] at this
    rw [this]; rfl
  · refine .inr (ba_ext ?_)
    have := eq_of_beq h
    rw [ByteArray.toList_eq] at this
    rw [this]; rfl
theorem nx_R : nxP wdR = 1 := by unfold nxP isA; simp [ByteArray.toList_eq, wdR]
theorem nx_A : nxP wdA = 2 := by unfold nxP isA; simp [ByteArray.toList_eq, wdA]
theorem isW_R : isW wdR = true := by unfold isW; simp [ByteArray.toList_eq, wdR]
theorem isW_A : isW wdA = true := by unfold isW; simp [ByteArray.toList_eq, wdA]
/-- what comes of a token that has no odd byte -/
def AnsK (w w' : World) (e : Ending) (a : Nat → Addr) (B b0 at' : Nat) (r : Except (Nat × Int) WS) : Prop :=
  match r with
  | .error (k, x) => e = .returned (snt (a k)) ∧ (1 ≤ k ∧ k ≤ 5) ∧ x = (at' : Int) ∧ Below w.heap.size w w'
  | .ok s' => e = .returned .nilIface ∧ ∃ ra rc aa ac, Rd w' B b0 s' ra rc aa ac
theorem ans_word {w w' : World} {e : Ending} {a : Nat → Addr} {B b0 at' nx : Nat} {s : WS} {t : ByteArray} {ra aa : Option Addr} {rc ac : Nat} (hW : isW t = true) (hx : nxP t = nx) (ho : (oddU (bt t) t.size 0 0).1 < 0) (h : AnsW w w' e a B b0 s nx ra rc aa ac) : AnsK w w' e a B b0 at' (wsT (at', t) s) := by
  unfold wsT
  simp only
  rw [if_neg (by omega), if_pos hW, hx]
  rcases h with ⟨h1, h2, h3⟩ | ⟨h1, h2, h3⟩
  · rw [if_pos h1]
    exact ⟨h2, by decide, rfl, by rw [h3]; exact Below.refl _ _⟩
  · rw [if_neg h1]
    exact ⟨h2, ra, rc, aa, ac, h3⟩
theorem ans_name {w w' : World} {e : Ending} {a : Nat → Addr} {B b0 at' : Nat} {s : WS} {t : ByteArray} (hW : ¬ isW t = true) (ho : (oddU (bt t) t.size 0 0).1 < 0) (h : AnsNm w w' e a B b0 s t (wsN t s)) : AnsK w w' e a B b0 at' (wsT (at', t) s) := by
  unfold wsT
  simp only
  rw [if_neg (by omega), if_neg hW]
  unfold wsN at h
  by_cases c0 : s.p = 0
  · rw [if_pos c0] at h ⊢
    exact ⟨h.1, by decide, rfl, h.2⟩
  · rw [if_neg c0] at h ⊢
    by_cases c1 : 12 < (oddU (bt t) t.size 0 0).2 ∨ s.many = 6
    · rw [if_pos c1] at h ⊢
      exact ⟨h.1, by decide, rfl, h.2⟩
    · rw [if_neg c1] at h ⊢
      by_cases c2 : inS (gS s.cur) t s.cur.length = true
      · rw [if_pos c2] at h ⊢
        exact ⟨h.1, by decide, rfl, h.2⟩
      · rw [if_neg c2] at h ⊢
        exact h
theorem iWordAny (w : World) (B b0 : Nat) (s : WS) (ra : Option Addr) (rc : Nat) (aa : Option Addr) (ac : Nat) (a : Nat → Addr) (t : ByteArray) (at' : Nat) (hS : Se w a) (hok : WsOk s) (h : Rd w B b0 s ra rc aa ac) (ho : (oddU (bt t) t.size 0 0).1 < 0) (hW : isW t = true) :
    Calls Tryd.prog 66 #[.pointer (some ⟨B, 0, none⟩), .string t] w fun e w' => AnsK w w' e a B b0 at' (wsT (at', t) s) ∧ Kb B b0 w w' := by
  rcases isW_of hW with ht | ht
  · have k := iWord1 w B b0 s ra rc aa ac a hS hok.p h
    rw [← ht] at k
    have hn : nxP t = 1 := by rw [ht]; exact nx_R
    exact k.mono fun e w' ⟨h1, h2⟩ => ⟨ans_word hW hn ho h1, h2⟩
  · have k := iWord2 w B b0 s ra rc aa ac a hS hok.p h
    rw [← ht] at k
    have hn : nxP t = 2 := by rw [ht]; exact nx_A
    exact k.mono fun e w' ⟨h1, h2⟩ => ⟨ans_word hW hn ho h1, h2⟩
theorem iNameAny (w : World) (B b0 : Nat) (s : WS) (ra : Option Addr) (rc : Nat) (aa : Option Addr) (ac : Nat) (a : Nat → Addr) (t : ByteArray) (at' : Nat) (hS : Se w a) (hok : WsOk s) (h : Rd w B b0 s ra rc aa ac) (ht : t.size ≤ 200) (ho : (oddU (bt t) t.size 0 0).1 < 0) (hW : ¬ isW t = true) :
    Calls Tryd.prog 67 #[.pointer (some ⟨B, 0, none⟩), .string t] w fun e w' => AnsK w w' e a B b0 at' (wsT (at', t) s) ∧ Kb B b0 w w' := by
  obtain ⟨p, R, A⟩ := s
  have hp := hok.p
  match p, hp with
  | 0, _ => exact (iName0 w B b0 R A ra rc aa ac a t hS h).mono fun e w' ⟨h1, h2⟩ => ⟨ans_name hW ho h1, h2⟩
  | 1, _ => exact (iName1 w B b0 R A ra rc aa ac a t hS hok h ht ho).mono fun e w' ⟨h1, h2⟩ => ⟨ans_name hW ho h1, h2⟩
  | 2, _ => exact (iName2 w B b0 R A ra rc aa ac a t hS hok h ht ho).mono fun e w' ⟨h1, h2⟩ => ⟨ans_name hW ho h1, h2⟩
theorem iTake (w : World) (B b0 : Nat) (s : WS) (ra : Option Addr) (rc : Nat) (aa : Option Addr) (ac : Nat) (a : Nat → Addr) (t : ByteArray) (at' : Nat) (hS : Se w a) (hok : WsOk s) (h : Rd w B b0 s ra rc aa ac) (ht : t.size ≤ 200) (ho : (oddU (bt t) t.size 0 0).1 < 0) :
    Calls Tryd.prog 46 #[.pointer (some ⟨B, 0, none⟩), .string t] w fun e w' => AnsK w w' e a B b0 at' (wsT (at', t) s) ∧ Kb B b0 w w' := by
  have kI := iIsW t w
  have kW := fun hW => iWordAny w B b0 s ra rc aa ac a t at' hS hok h ho hW
  have kN := fun hW => iNameAny w B b0 s ra rc aa ac a t at' hS hok h ht ho hW
  generalize wsT (at', t) s = r at *
  clear hS hok h ho
  cases hw : isW t with
  | true =>
    rw [hw] at kI
    have k := kW hw
    clear kW kN
    go_enter Tryd.func46, Tryd.ntmps46
    go_wp2_with fail
    refine kI.mono ?_
    rintro e w2 ⟨rfl, hw2⟩
    have hs := hw2.symm
    clear hw2 kI
    subst hs
    go_wp2_with fail
    refine k.mono ?_
    rintro e w3 ⟨hA, hB⟩
    clear k
    obtain ⟨v, rfl⟩ : ∃ v, e = .returned v := by
      unfold AnsK at hA
      split at hA
      · exact ⟨_, hA.1⟩
      · exact ⟨_, hA.1⟩
    go_wp2
    go_ret
    exact ⟨hA, hB⟩
  | false =>
    rw [hw] at kI
    have k := kN (by rw [hw]; simp)
    clear kW kN
    go_enter Tryd.func46, Tryd.ntmps46
    go_wp2_with fail
    refine kI.mono ?_
    rintro e w2 ⟨rfl, hw2⟩
    have hs := hw2.symm
    clear hw2 kI
    subst hs
    go_wp2_with fail
    refine k.mono ?_
    rintro e w3 ⟨hA, hB⟩
    clear k
    obtain ⟨v, rfl⟩ : ∃ v, e = .returned v := by
      unfold AnsK at hA
      split at hA
      · exact ⟨_, hA.1⟩
      · exact ⟨_, hA.1⟩
    go_wp2
    go_ret
    exact ⟨hA, hB⟩
end Go.Proofs.YtmlfijapndkfhaaDoor
