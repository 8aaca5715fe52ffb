/- JoinTurn as the document's model answers it. -/
import Derived.Test.YtpnbkmlmbfogdaaTnJoin
namespace Go.Proofs.Ytpnbkmlmbfogdaa
open Go.RowKit

theorem hid_wrap {p D x : Int} (hp : Half p) (h : Int.tdiv p D = x) : wrap64 (Int.tdiv p D) = x := by
  have := tdiv_half p D hp
  unfold Half at this
  rw [wrap_id (by omega) (by omega), h]
theorem box_in {p D : Int} (hp : Half p) : I64 (Int.tdiv p D) := by
  have := tdiv_half p D hp
  unfold Half at this
  unfold I64
  omega
theorem hid_neg {p g x : Int} (hp : Half p) (h : Int.tdiv p (-g) = x) : wrap64 (-Int.tdiv p g) = x := by
  rw [← Int.tdiv_neg]
  exact hid_wrap hp h

theorem boxes3e {w w' : World} {p q p' q' p'' q'' : Int} {t t' t'' : TypeId} (h : w' = ((w.alloc (two p q t)).alloc (two p' q' t')).alloc (two p'' q'' t'')) :
    Box w' w.heap.size p q ∧ Box w' (w.heap.size + 1) p' q' ∧ Box w' (w.heap.size + 1 + 1) p'' q'' ∧ Below w.heap.size w w' := by
  subst h
  exact boxes3 (Below.refl _ _)

theorem boxT {w w1 w2 : World} {r : Nat} {x y : Int} {t : TypeId} (B : Box w1 r 0 0) (hB : Below w.heap.size w w1) (h : Below (w1.alloc (two x y t)).drew.heap.size (w1.alloc (two x y t)).drew w2) :
    Box w2 r 0 0 ∧ Box w2 w1.heap.size x y ∧ Below w.heap.size w w2 := by
  have h' : Below (w1.alloc (two x y t)).heap.size (w1.alloc (two x y t)) w2 := (Below.refl _ _).drew.trans h
  exact ⟨(B.alloc _).on h', (box_new w1 x y t).on h', below_on hB (below_new h')⟩

set_option maxHeartbeats 4000000 in
theorem l5Join_any (a b c d : Int) (w : World) (g1 : goodT a b = true) (g2 : goodT c d = true) :
    Calls Try.prog 14 #[tn a b, tn c d] w fun o w' => o = .returned (.tuple #[tn (tellP (a * d + c * b) (b * d - a * c)) (tellQ (a * d + c * b) (b * d - a * c)), .bool (fitT (pP (a * d + c * b) (b * d - a * c)) (pQ (a * d + c * b) (b * d - a * c)))]) ∧ Below w.heap.size w w' := by
  obtain ⟨a0, a1, b0, b1⟩ := good_fit g1
  obtain ⟨c0, c1, d0, d1⟩ := good_fit g2
  have pad := @mul_in a d ⟨a0, a1⟩ ⟨by omega, by omega⟩
  have pcb := @mul_in c b ⟨c0, c1⟩ ⟨by omega, by omega⟩
  have pbd := @mul_in b d ⟨by omega, by omega⟩ ⟨by omega, by omega⟩
  have pac := @mul_in a c ⟨a0, a1⟩ ⟨c0, c1⟩
  have hz := join_ne (good_ne g1) (good_ne g2)
  have ip : Half (a * d + c * b) := ⟨by omega, by omega⟩
  have iq : Half (b * d - a * c) := ⟨by omega, by omega⟩
  clear g1 g2 a0 a1 b0 b1 c0 c1 d0 d1
  obtain ⟨p, hp⟩ : ∃ p, a * d + c * b = p := ⟨_, rfl⟩
  obtain ⟨q, hq⟩ : ∃ q, b * d - a * c = q := ⟨_, rfl⟩
  rw [hp, hq]
  rw [hp] at hz ip
  rw [hq] at hz iq
  have HP : Hid (a * d + c * b = p) := hp
  have HQ : Hid (b * d - a * c = q) := hq
  clear hp hq
  have lg := fun w => l4Gcd_any p q w ip iq
  have hg : ¬ (Int.gcd p q : Int) = 0 := by have := gcd_pos hz; omega
  have e1 : q < 0 ∨ (q = 0 ∧ p < 0) → sg p q = -(Int.gcd p q : Int) := fun k => by unfold sg; rw [if_pos k]
  have e2 : ¬ (q < 0 ∨ (q = 0 ∧ p < 0)) → sg p q = (Int.gcd p q : Int) := fun k => by unfold sg; rw [if_neg k]
  have hgi := gcd_half ip iq
  have ls := fun w => specGood_any (pP p q) (pQ p q) w (box_in ip) (box_in iq)
  rw [good_told hz] at ls
  have eP : Int.tdiv p (sg p q) = pP p q := rfl
  have eQ : Int.tdiv q (sg p q) = pQ p q := rfl
  have t1 : tellP p q = if fitT (pP p q) (pQ p q) then pP p q else 0 := rfl
  have t2 : tellQ p q = if fitT (pP p q) (pQ p q) then pQ p q else 0 := rfl
  rw [t1, t2]
  clear t1 t2 hz
  generalize pP p q = x at *
  generalize pQ p q = y at *
  generalize (Int.gcd p q : Int) = g at lg hg e1 e2 hgi
  unfold Half at hgi
  go_enter Try.func14, Try.ntmps14
  go_wp2_with fail
  rw [HP.out, HQ.out]
  refine (lg _).mono ?_
  rintro o w1 ⟨rfl, hw⟩
  obtain ⟨B0, B1, B2, hB⟩ := boxes3e hw
  clear hw pad pcb pbd pac lg B0 B1 HP HQ
  by_cases h1 : q < 0
  · have ed := e1 (Or.inl h1)
    clear e1 e2
    have hg' : ¬ -g = 0 := by omega
    go_upto_region 6 with fail
    have HX : Hid (wrap64 (-Int.tdiv p g) = x) := hid_neg ip (by rw [← ed]; exact eP)
    have HY : Hid (wrap64 (-Int.tdiv q g) = y) := hid_neg iq (by rw [← ed]; exact eQ)
    clear ed eP eQ ip iq
    go_region
    rw [HX.out, HY.out]
    clear HX HY
    go_wp2_with fail
    refine (ls _).mono ?_
    rintro o w2 ⟨rfl, hb2⟩
    obtain ⟨R, T, hB⟩ := boxT B2 hB hb2
    clear hb2 B2 ls
    have RR := R
    obtain ⟨k0, k1, k2, k3, k4⟩ := R
    obtain ⟨m0, m1, m2, m3, m4⟩ := T
    cases hf : fitT x y
    · go_wp2
      all_goals
        (try simp only [Exit.inBlock, Exit.then])
        exact ret_box_tmp rfl rfl (RR.set 0 0) rfl ⟨rfl, below_two hB (by omega) _ _⟩
    · go_wp2
      all_goals
        (try simp only [Exit.inBlock, Exit.then])
        exact ret_box_tmp rfl rfl (RR.set x y) rfl ⟨rfl, below_two hB (by omega) _ _⟩
  cases h2 : (q == 0)
  · have h2' : ¬ q = 0 := by simpa using h2
    have ed := e2 (by omega)
    clear e1 e2
    go_upto_region 6 with fail
    have HX : Hid (wrap64 (Int.tdiv p g) = x) := hid_wrap ip (by rw [← ed]; exact eP)
    have HY : Hid (wrap64 (Int.tdiv q g) = y) := hid_wrap iq (by rw [← ed]; exact eQ)
    clear ed eP eQ ip iq
    go_region
    rw [HX.out, HY.out]
    clear HX HY
    go_wp2_with fail
    refine (ls _).mono ?_
    rintro o w2 ⟨rfl, hb2⟩
    obtain ⟨R, T, hB⟩ := boxT B2 hB hb2
    clear hb2 B2 ls
    have RR := R
    obtain ⟨k0, k1, k2, k3, k4⟩ := R
    obtain ⟨m0, m1, m2, m3, m4⟩ := T
    cases hf : fitT x y
    · go_wp2
      all_goals
        (try simp only [Exit.inBlock, Exit.then])
        exact ret_box_tmp rfl rfl (RR.set 0 0) rfl ⟨rfl, below_two hB (by omega) _ _⟩
    · go_wp2
      all_goals
        (try simp only [Exit.inBlock, Exit.then])
        exact ret_box_tmp rfl rfl (RR.set x y) rfl ⟨rfl, below_two hB (by omega) _ _⟩
  have h2' : q = 0 := by simpa using h2
  by_cases h3 : p < 0
  · have ed := e1 (Or.inr ⟨h2', h3⟩)
    clear e1 e2 h2'
    have hg' : ¬ -g = 0 := by omega
    go_upto_region 6 with fail
    have HX : Hid (wrap64 (-Int.tdiv p g) = x) := hid_neg ip (by rw [← ed]; exact eP)
    have HY : Hid (wrap64 (-Int.tdiv q g) = y) := hid_neg iq (by rw [← ed]; exact eQ)
    clear ed eP eQ ip iq
    go_region
    rw [HX.out, HY.out]
    clear HX HY
    go_wp2_with fail
    refine (ls _).mono ?_
    rintro o w2 ⟨rfl, hb2⟩
    obtain ⟨R, T, hB⟩ := boxT B2 hB hb2
    clear hb2 B2 ls
    have RR := R
    obtain ⟨k0, k1, k2, k3, k4⟩ := R
    obtain ⟨m0, m1, m2, m3, m4⟩ := T
    cases hf : fitT x y
    · go_wp2
      all_goals
        (try simp only [Exit.inBlock, Exit.then])
        exact ret_box_tmp rfl rfl (RR.set 0 0) rfl ⟨rfl, below_two hB (by omega) _ _⟩
    · go_wp2
      all_goals
        (try simp only [Exit.inBlock, Exit.then])
        exact ret_box_tmp rfl rfl (RR.set x y) rfl ⟨rfl, below_two hB (by omega) _ _⟩
  · have ed := e2 (by omega)
    clear e1 e2 h2'
    go_upto_region 6 with fail
    have HX : Hid (wrap64 (Int.tdiv p g) = x) := hid_wrap ip (by rw [← ed]; exact eP)
    have HY : Hid (wrap64 (Int.tdiv q g) = y) := hid_wrap iq (by rw [← ed]; exact eQ)
    clear ed eP eQ ip iq
    go_region
    rw [HX.out, HY.out]
    clear HX HY
    go_wp2_with fail
    refine (ls _).mono ?_
    rintro o w2 ⟨rfl, hb2⟩
    obtain ⟨R, T, hB⟩ := boxT B2 hB hb2
    clear hb2 B2 ls
    have RR := R
    obtain ⟨k0, k1, k2, k3, k4⟩ := R
    obtain ⟨m0, m1, m2, m3, m4⟩ := T
    cases hf : fitT x y
    · go_wp2
      all_goals
        (try simp only [Exit.inBlock, Exit.then])
        exact ret_box_tmp rfl rfl (RR.set 0 0) rfl ⟨rfl, below_two hB (by omega) _ _⟩
    · go_wp2
      all_goals
        (try simp only [Exit.inBlock, Exit.then])
        exact ret_box_tmp rfl rfl (RR.set x y) rfl ⟨rfl, below_two hB (by omega) _ _⟩
end Go.Proofs.Ytpnbkmlmbfogdaa
