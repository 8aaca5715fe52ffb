/- The walk of the law FnPlaces, behind its draws. -/
import Derived.Test.YtipopglbpfdcmaaDoorPlMath
import Derived.Test.YtipopglbpfdcmaaDoorStImpl
namespace Go.Proofs.YtipopglbpfdcmaaDoor
open Go.RowKit

/-- what is drawn: cells, a list, a way, a distance -/
def AnsSee (w' : World) (e : Ending) : Prop := ∃ (W : Int) (a : Option Addr) (n c : Nat) (f : Nat → Int) (b : Option Addr) (m d : Nat) (g : Nat → Int) (v x : Int), e = .returned (.tuple #[cel W a n c, .slice b m d, .int .i64 v, .int .i64 x]) ∧ IL w' a n f ∧ IL w' b m g ∧ n ≤ 1000 ∧ m ≤ 1000
/-- how many are seen at the first r distances -/
def cN (W : Int) (n : Nat) (f : Nat → Int) (m : Nat) (g : Nat → Int) (v : Int) (r : Nat) : Nat := if seeQ W n f m g v then cnt17 (fun p => farV W n f p v) g m r else 0
theorem cN_succ (W : Int) (n : Nat) (f : Nat → Int) (m : Nat) (g : Nat → Int) (v : Int) (r : Nat) : cN W n f m g v (r + 1) = cN W n f m g v r + (seeL W n f m g v (r : Int)).length := by
  unfold cN seeL
  cases seeQ W n f m g v with
  | false => rfl
  | true => rfl
theorem cN_le (W : Int) (n : Nat) (f : Nat → Int) (m : Nat) (g : Nat → Int) (v : Int) (r : Nat) : cN W n f m g v r ≤ m := by
  unfold cN
  split
  · exact cnt17_le _ _ _ _
  · omega
set_option maxHeartbeats 4000000 in
theorem fnPlaces (a0 : Option Addr) (len cap : Nat) (w : World) (hl : len ≤ 1048576) (hT : Tab w)
    (hD : Calls Tryd.prog 4 #[.slice a0 len cap] w fun e w' => AnsSee w' e ∧ Below w.heap.size w w') :
    Calls Tryd.prog 3 #[.slice a0 len cap] w fun e w' => e = .returned (.bool true) ∧ Below w.heap.size w w' := by
  have j0 : ¬ (1048576 : Int) < (len : Int) := by omega
  go_enter Tryd.func3, Tryd.ntmps3
  go_wp2_with fail
  refine hD.mono ?_
  rintro e w1 ⟨⟨W, a, n, c, f, b, m, d, g, v, x, rfl, hf, hg, hn, hm⟩, hb1⟩
  have hT1 := hT.on hb1
  clear hD hT
  have hI := fun (r : Int) w h1 h2 h3 => implSee W a b n c m d f g v r w (by omega) (by omega) h1 h2 h3
  have hS := fun (r : Int) w h1 h2 => specSee W a b n c m d f g v r w (by omega) (by omega) h1 h2
  have hP := fun w h1 h2 h3 => implStp W a b n c m d f g v w (by omega) (by omega) h1 h2 h3
  have hR := fun w h1 h2 => specStp W a b n c m d f g v w (by omega) (by omega) h1 h2
  have bM := bx_new (w := w1) (celL W a n c) 25 rfl
  have hbM : Below w1.heap.size w1 (w1.alloc (celO W a n c 25)) := (Below.refl _ _).alloc (Nat.le_refl _) _
  have hB2 := stepA hb1 hbM
  have hf2 := hf.below hbM
  have hg2 := hg.below hbM
  have hT2 := hT1.on hbM
  clear hb1 hbM hf hg hT1
  cases hQ : seeQ W n f m g v with
  | false =>
    rw [hQ] at hP hR
    have hI' : ∀ (r : Int) (w : World) (h1 : IL w a n f) (h2 : IL w b m g) (h3 : Tab w), Calls Tryd.prog 5 #[cel W a n c, .slice b m d, .int .i64 v, .int .i64 r] w fun e w' => AnsB w w' e (seeL W n f m g v r) false ∧ Below w.heap.size w w' := fun r w h1 h2 h3 => by rw [← hQ]; exact hI r w h1 h2 h3
    have hS' : ∀ (r : Int) (w : World) (h1 : IL w a n f) (h2 : IL w b m g), Calls Tryd.prog 6 #[cel W a n c, .slice b m d, .int .i64 v, .int .i64 r] w fun e w' => AnsB w w' e (seeL W n f m g v r) false ∧ Below w.heap.size w w' := fun r w h1 h2 => by rw [← hQ]; exact hS r w h1 h2
    have HQ : Hid (seeQ W n f m g v = false) := hQ
    clear hI hS hQ
    go_wp2
    obtain ⟨w2, hw2⟩ : ∃ w2, w1.alloc (celO W a n c 25) = w2 := ⟨_, rfl⟩
    have hsz : w2.heap.size = w1.heap.size + 1 := by rw [← hw2]; simp
    rw [hw2] at bM hB2 hf2 hg2 hT2
    have hw2' : w1.alloc (.cells #[.int .i64 W, .slice a n c] 25) = w2 := hw2
    rw [hw2']
    clear hw2 hw2'
    go_loopw [7, 8] (fun s i wr => ∃ r : Nat, r ≤ 17 ∧ i = .int .i64 r ∧ s = .int .i64 (cN W n f m g v r : Nat) ∧ Below w2.heap.size w2 wr) (fun _ i _ => 18 - (intOf i).toNat)
    case atStart => exact ⟨0, by omega, rfl, by simp [cN, cnt17], Below.refl _ _⟩
    case round =>
      obtain ⟨r, hr, rfl, rfl, hB⟩ := hrel
      have bw := bM.on hB
      have x0 := bw.c0
      have x1 := bw.c1
      have hfw := hf2.below hB
      have hgw := hg2.below hB
      have hTw := hT2.on hB
      have hBw := stepA hB2 hB
      by_cases hlt : r < 17
      · have j1 : (r : Int) ≤ 16 := by omega
        have hc := cN_succ W n f m g v r
        have hc1 := cN_le W n f m g v r
        have hc2 := cN_le W n f m g v (r + 1)
        have hi := hI' (r : Int) wr hfw hgw hTw
        generalize seeL W n f m g v (r : Int) = L at hi hc
        have hss := hS' (r : Int)
        generalize seeL W n f m g v (r : Int) = L2 at hss
        generalize hN2 : cN W n f m g v (r + 1) = N2 at hc hc2
        have HN2 : Hid (cN W n f m g v (r + 1) = N2) := hN2
        clear hN2
        generalize cN W n f m g v r = N1 at hc hc1 ⊢
        have HC : Hid (N2 = N1 + L.length) := hc
        have hLl : L.length ≤ 1000 := by omega
        clear hc
        go_wp2_with fail
        refine hi.mono ?_
        rintro e w4 ⟨⟨a4, c4, rfl, -⟩, hb4⟩
        have bw4 := bw.on hb4
        have hf4 := hfw.below hb4
        have hg4 := hgw.below hb4
        have hB4 := stepA hB hb4
        clear hi bw x0 x1 hb4 hfw hgw hTw hBw hB
        have x0 := bw4.c0
        have x1 := bw4.c1
        go_wp2_with fail
        refine (hss w4 hf4 hg4).mono ?_
        rintro e w5 ⟨⟨a5, c5, rfl, -⟩, hb5⟩
        have hB5 := stepA hB4 hb5
        clear hss x0 x1 bw4 hf4 hg4 hB4 hb5
        go_wp2
        exact ⟨⟨r + 1, by omega, by go_num, by rw [HN2.out, HC.out]; go_num, hB5⟩, by simp [intOf]; omega⟩
      · have hr2 : r = 17 := by omega
        subst hr2
        clear hI' hS'
        have hc0 : cN W n f m g v 17 = 0 := by unfold cN; rw [HQ.out]; rfl
        rw [hc0]
        clear hc0 HQ
        go_wp2_with fail
        refine (hP wr hfw hgw hTw).mono ?_
        rintro e w4 ⟨⟨a4, c4, rfl, -⟩, hb4⟩
        have bw4 := bw.on hb4
        have hf4 := hfw.below hb4
        have hg4 := hgw.below hb4
        have hB4 := stepA hBw hb4
        clear hP bw x0 x1 hb4 hfw hgw hTw hBw hB
        have x0 := bw4.c0
        have x1 := bw4.c1
        go_wp2_with fail
        refine (hR w4 hf4 hg4).mono ?_
        rintro e w5 ⟨⟨a5, c5, rfl, -⟩, hb5⟩
        have hB5 := stepA hB4 hb5
        go_wp2
        go_ret
        exact ⟨rfl, hB5⟩
  | true =>
    rw [hQ] at hP hR
    have hI' : ∀ (r : Int) (w : World) (h1 : IL w a n f) (h2 : IL w b m g) (h3 : Tab w), Calls Tryd.prog 5 #[cel W a n c, .slice b m d, .int .i64 v, .int .i64 r] w fun e w' => AnsB w w' e (seeL W n f m g v r) true ∧ Below w.heap.size w w' := fun r w h1 h2 h3 => by rw [← hQ]; exact hI r w h1 h2 h3
    have hS' : ∀ (r : Int) (w : World) (h1 : IL w a n f) (h2 : IL w b m g), Calls Tryd.prog 6 #[cel W a n c, .slice b m d, .int .i64 v, .int .i64 r] w fun e w' => AnsB w w' e (seeL W n f m g v r) true ∧ Below w.heap.size w w' := fun r w h1 h2 => by rw [← hQ]; exact hS r w h1 h2
    have HQ : Hid (seeQ W n f m g v = true) := hQ
    clear hI hS hQ
    go_wp2
    obtain ⟨w2, hw2⟩ : ∃ w2, w1.alloc (celO W a n c 25) = w2 := ⟨_, rfl⟩
    have hsz : w2.heap.size = w1.heap.size + 1 := by rw [← hw2]; simp
    rw [hw2] at bM hB2 hf2 hg2 hT2
    have hw2' : w1.alloc (.cells #[.int .i64 W, .slice a n c] 25) = w2 := hw2
    rw [hw2']
    clear hw2 hw2'
    go_loopw [7, 8] (fun s i wr => ∃ r : Nat, r ≤ 17 ∧ i = .int .i64 r ∧ s = .int .i64 (cN W n f m g v r : Nat) ∧ Below w2.heap.size w2 wr) (fun _ i _ => 18 - (intOf i).toNat)
    case atStart => exact ⟨0, by omega, rfl, by simp [cN, cnt17], Below.refl _ _⟩
    case round =>
      obtain ⟨r, hr, rfl, rfl, hB⟩ := hrel
      have bw := bM.on hB
      have x0 := bw.c0
      have x1 := bw.c1
      have hfw := hf2.below hB
      have hgw := hg2.below hB
      have hTw := hT2.on hB
      have hBw := stepA hB2 hB
      by_cases hlt : r < 17
      · have j1 : (r : Int) ≤ 16 := by omega
        have hc := cN_succ W n f m g v r
        have hc1 := cN_le W n f m g v r
        have hc2 := cN_le W n f m g v (r + 1)
        have hi := hI' (r : Int) wr hfw hgw hTw
        generalize seeL W n f m g v (r : Int) = L at hi hc
        have hss := hS' (r : Int)
        generalize seeL W n f m g v (r : Int) = L2 at hss
        generalize hN2 : cN W n f m g v (r + 1) = N2 at hc hc2
        have HN2 : Hid (cN W n f m g v (r + 1) = N2) := hN2
        clear hN2
        generalize cN W n f m g v r = N1 at hc hc1 ⊢
        have HC : Hid (N2 = N1 + L.length) := hc
        have hLl : L.length ≤ 1000 := by omega
        clear hc
        go_wp2_with fail
        refine hi.mono ?_
        rintro e w4 ⟨⟨a4, c4, rfl, -⟩, hb4⟩
        have bw4 := bw.on hb4
        have hf4 := hfw.below hb4
        have hg4 := hgw.below hb4
        have hB4 := stepA hB hb4
        clear hi bw x0 x1 hb4 hfw hgw hTw hBw hB
        have x0 := bw4.c0
        have x1 := bw4.c1
        go_wp2_with fail
        refine (hss w4 hf4 hg4).mono ?_
        rintro e w5 ⟨⟨a5, c5, rfl, -⟩, hb5⟩
        have hB5 := stepA hB4 hb5
        clear hss x0 x1 bw4 hf4 hg4 hB4 hb5
        go_wp2
        exact ⟨⟨r + 1, by omega, by go_num, by rw [HN2.out, HC.out]; go_num, hB5⟩, by simp [intOf]; omega⟩
      · have hr2 : r = 17 := by omega
        subst hr2
        clear hI' hS'
        have hc0 : cN W n f m g v 17 = m := by unfold cN; rw [HQ.out]; exact cnt17_all _ _ _ _ (see_bd HQ.out)
        rw [hc0]
        have hu := stp_und HQ.out
        have h1 : (stpL W n f m g v).length ≤ m := stp_le
        have h2 : (stpL W n f (stpL W n f m g v).length (gl (stpL W n f m g v)) v).length ≤ (stpL W n f m g v).length := stp_le
        clear hc0 HQ
        generalize stpL W n f m g v = L at hP hu h1 h2
        have hP2 := fun b d w h1 h2 h3 => implStp W a b n c L.length d f (gl L) v w (by omega) (by omega) h1 h2 h3
        rw [hu] at hP2
        clear hu
        generalize stpL W n f L.length (gl L) v = L2 at hP2 h2
        have hi := hP wr hfw hgw hTw
        go_wp2_with fail
        refine hi.mono ?_
        rintro e w4 ⟨⟨a4, c4, rfl, hA4⟩, hb4⟩
        have bw4 := bw.on hb4
        have hf4 := hfw.below hb4
        have hT4 := hTw.on hb4
        have hB4 := stepA hBw hb4
        have hi4 := hP2 a4 c4 w4 hf4 hA4.il hT4
        clear hi hP hP2 bw x0 x1 hb4 hfw hgw hTw hBw hB
        have x0 := bw4.c0
        have x1 := bw4.c1
        have k1 : (L.length : Int) ≤ (m : Int) := by omega
        have k2 : (L2.length : Int) ≤ (L.length : Int) := by omega
        go_wp2_with fail
        refine hi4.mono ?_
        rintro e w5 ⟨⟨a5, c5, rfl, -⟩, hb5⟩
        have hB5 := stepA hB4 hb5
        go_wp2
        go_ret
        exact ⟨rfl, hB5⟩
theorem fnPlaces_long (a0 : Option Addr) (len cap : Nat) (w : World) (hL : 1048576 < len) (hm : len ≤ 9223372036854775807) :
    Calls Tryd.prog 3 #[.slice a0 len cap] w fun e w' => e = .returned (.bool true) ∧ Below w.heap.size w w' := by
  have j : (1048576 : Int) < (len : Int) := by omega
  go_enter Tryd.func3, Tryd.ntmps3
  go_wp2
  go_ret
  exact ⟨rfl, Below.refl _ _⟩
end Go.Proofs.YtipopglbpfdcmaaDoor
