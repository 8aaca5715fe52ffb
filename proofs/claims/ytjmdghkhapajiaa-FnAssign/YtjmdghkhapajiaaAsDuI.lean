/- DuesOf, as the program takes it. -/
import Derived.Test.YtjmdghkhapajiaaAsDuL
import Derived.BigQuiet
import Derived.Deep.Cut
namespace Go.Proofs.Ytjmdghkhapajiaa
open Go.RowKit
theorem row_zero0 {w : World} {b n : Nat} (h : w.rowIs b 3 n (fun _ => .int .i64 0)) : IP w b n (fun _ => 0) := ⟨h.lt, fun _ hi => h.cell hi, fun j => h.frozen j⟩
/-- what DuesOf tells -/
def DuA (n : Nat) (F : Nat → Nat → Int) (g : Nat → Int) (w w' : World) (e : Ending) : Prop :=
  (∃ r, r ≤ n ∧ (∀ s, s < r → duQ F g n s = true) ∧ duQ F g n r = false ∧ AnsTb w w' e n (duD F g n (r + 1)) true) ∨ ((∀ s, s ≤ n → duQ F g n s = true) ∧ AnsTb w w' e 0 (fun _ => 0) false)
theorem du_bd {n m : Nat} {K : Nat → Nat} {F : Nat → Nat → Int} {g : Nat → Int} (ga : GA n m K F g) (r : Nat) (hr : r ≤ n) : Bd n (duD F g n r) (3600000 * (r : Int)) := duD_bd ga r (by omega)
theorem du_all {n m : Nat} {K : Nat → Nat} {F : Nat → Nat → Int} {g : Nat → Int} (ga : GA n m K F g) (h : ∀ s, s < n → duQ F g n s = true) : ∀ s, s ≤ n → duQ F g n s = true := fun s hs => by
  by_cases e : s = n
  · subst e
    cases c : duQ F g s s with
    | true => rfl
    | false =>
      obtain ⟨r, hr, k⟩ := du_end ga c
      rw [h r hr] at k; cases k
  · exact h s (by omega)
set_option maxHeartbeats 8000000 in
set_option maxRecDepth 20000 in
theorem iDues_no (a : Option Addr) (n c : Nat) (K : Nat → Nat) (F : Nat → Nat → Int) (b : Option Addr) (m d : Nat) (g : Nat → Int) (w : World) (hn : n ≤ 1048576) (hK : ∀ i, i < n → K i ≤ 1048576) (hm : m ≤ 1048576) (h : RR w a n K F) (h2 : IL w b m g) (hga : gaB n m K F g = false) :
    Calls Try.prog 12 #[.slice a n c, .slice b m d] w fun e w' => AnsTb w w' e 0 (fun _ => 0) false ∧ Below w.heap.size w w' := by
  have kG := iGoodA a n c K F b m d g w hn hK hm h h2
  rw [hga] at kG
  go_enter Try.func12, Try.ntmps12
  go_wp2_with (first | (go_at_call 39; refine kG.mono ?_; rintro e w1 ⟨rfl, hb⟩; clear kG) | fail)
  go_ret2
  exact ⟨ansTb_nil _ _ _ _, hb⟩
set_option maxHeartbeats 8000000 in
set_option maxRecDepth 20000 in
theorem iDues_in (a : Option Addr) (n c : Nat) (K : Nat → Nat) (F : Nat → Nat → Int) (b : Option Addr) (m d : Nat) (g : Nat → Int) (w : World) (hn : n ≤ 1048576) (hK : ∀ i, i < n → K i ≤ 1048576) (hm : m ≤ 1048576) (h : RR w a n K F) (h2 : IL w b m g) (hga : gaB n m K F g = true) :
    Calls Try.prog 12 #[.slice a n c, .slice b m d] w fun e w' => DuA n F g w w' e ∧ Below w.heap.size w w' := by
  have kG := iGoodA a n c K F b m d g w hn hK hm h h2
  rw [hga] at kG
  obtain ⟨A, C, hA⟩ := h
  have ga := gaB_t hga
  have hmn2 := ga.len.symm
  subst hmn2
  have hn6 := ga.gp.hi
  clear hga
  have hmk := run_make_row' (P := Try.prog) 24 3 (.int .i64 0) 8 Try.underlying24 infoI rfl .i64 .i64 n (by omega) (by omega)
  go_enter Try.func12, Try.ntmps12
  go_wp2_with fail
  refine kG.mono ?_
  rintro e w1 ⟨rfl, hb⟩
  clear kG
  have HI0 : Hid (IP (w1.alloc (.cells (madeCells #[.int .i64 0] n) 3)) w1.heap.size n (duD F g n 0)) := row_zero0 (World.rowIs_made w1 (.int .i64 0) n 3)
  have hBm : Below w.heap.size w (w1.alloc (.cells (madeCells #[.int .i64 0] n) 3)) := hb.alloc hb.size _
  have hDb : w.heap.size ≤ w1.heap.size := hb.size
  go_wp2_with fail
  clear hmk hb
  generalize w1.alloc (.cells (madeCells #[.int .i64 0] n) 3) = w2 at HI0 hBm ⊢
  generalize w1.heap.size = Db at HI0 hDb ⊢
  go_loopw [16] (fun i wr => ∃ r : Nat, r ≤ n ∧ i = .int .i64 (r : Int) ∧ Hid (∀ s, s < r → duQ F g n s = true) ∧ IP wr Db n (duD F g n r) ∧ Below w.heap.size w wr) (fun i _ => n - (intOf i).toNat)
  case atStart => exact ⟨0, Nat.zero_le _, rfl, fun s hs => absurd hs (Nat.not_lt_zero _), HI0.out, hBm⟩
  case round =>
    obtain ⟨r, hr, rfl, HE, hP, hB⟩ := hrel
    clear HI0 hBm
    have i0 : (0 : Int) ≤ (r : Int) := by omega
    by_cases hlt : r < n
    · have i1 : (r : Int) < (n : Int) := by omega
      have kL := lower_any a n c A K C F b d n g Db n (duD F g n r) (3600000 * (r : Int)) w wr ga hA h2 hB hDb hP (du_bd ga r hr) (by omega)
      have HEd : Hid (duD F g n (r + 1) = rndD F g n (duD F g n r) n) := rfl
      have HQ : Hid (duQ F g n r = rndQ F g n (duD F g n r) n) := rfl
      generalize rndQ F g n (duD F g n r) n = q at kL HQ
      rw [← HEd.out] at kL
      clear hP
      have HA : Hid (LL w a n A K C F) := hA
      clear hA
      cases q with
      | false =>
        go_wp2_with (first | (go_at_call 40; refine kL.mono ?_; rintro e w5 ⟨rfl, hP5, hO5⟩; clear kL) | fail)
        go_ret2
        exact ⟨.inl ⟨r, hr, HE.out, HQ.out, some ⟨Db, 0, none⟩, n, rfl, lq_of hP5 hDb hP5.lt⟩, hB.trans (hO5.below.mono hDb)⟩
      | true =>
        have HE2 : Hid (∀ s, s < r + 1 → duQ F g n s = true) := fun s hs => by
          by_cases e : s = r
          · subst e; exact HQ.out
          · exact HE.out s (by omega)
        clear HE HQ
        go_wp2_with (first | (go_at_call 40; refine kL.mono ?_; rintro e w5 ⟨rfl, hP5, hO5⟩; clear kL) | fail)
        exact ⟨⟨r + 1, by omega, by go_num, HE2, hP5, hB.trans (hO5.below.mono hDb)⟩, by simp [intOf]; omega⟩
    · have hrn : r = n := by omega
      subst hrn
      have HE2 : Hid (∀ s, s ≤ r → duQ F g r s = true) := du_all ga HE.out
      clear HE hP hA h2
      go_wp2
      go_ret2
      exact ⟨.inr ⟨HE2.out, ansTb_nil _ _ _ _⟩, hB⟩
end Go.Proofs.Ytjmdghkhapajiaa
