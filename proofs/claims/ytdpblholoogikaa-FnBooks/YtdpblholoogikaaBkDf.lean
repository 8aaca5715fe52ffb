/- Draws: bookings, a lane, from where, how long. -/
import Derived.Test.YtdpblholoogikaaBkDr
import Derived.Test.YtdpblholoogikaaCurNew
import Derived.Test.YtdpblholoogikaaByOpen
namespace Go.Proofs.Ytdpblholoogikaa
open Go.RowKit
/-- drawn: bookings and three numbers -/
def AnsDff (w w' : World) (e : Ending) : Prop := ∃ (N : Nat) (p : Option Addr) (c : Nat) (x y z : Int), e = .returned (.tuple #[.slice p N c, .int .i64 x, .int .i64 y, .int .i64 z]) ∧ Below w.heap.size w w'
theorem results_tmp4 {fn : Func} {t u v x : Tmp} (h : fn.results = #[.tmp t, .tmp u, .tmp v, .tmp x]) (tmps : Array Value) (P : Program) (w : World) :
    (results fn tmps).run P w = .ok (.tuple #[tmps.getD t undef, tmps.getD u undef, tmps.getD v undef, tmps.getD x undef]) w := by
  simp [results, h]
theorem ipL (w : World) (l : List Int) : IP (w.alloc (.cells (ivL l).toArray 3)) w.heap.size l.length (fun i => l.getD i 0) := by
  have h := bx_new (b := w.heap.size) (w := w) (ivL l) 3 rfl
  refine ⟨h.lt, fun i hi => ?_, h.fz⟩
  rw [h.c i (by simpa using hi)]
  exact ivL_get hi
theorem am_bd (l : List Int) (h : ∀ x ∈ l, -1 ≤ x ∧ x ≤ 10001) (i : Nat) : -1 ≤ l.getD i 0 ∧ l.getD i 0 ≤ 10001 := by
  unfold List.getD
  cases e : l[i]? with
  | none => simp
  | some x => exact h x (List.mem_of_getElem? e)
set_option maxRecDepth 20000 in
set_option maxHeartbeats 4000000 in
theorem drawFf (a : Option Addr) (len cap : Nat) (w : World) (hl : len ≤ 1048576) (hb : BL w a len) :
    Calls Try.prog 8 #[.slice a len cap] w fun e w' => AnsDff w w' e := by
  have hcur := cur_new w a len cap hl hb
  have hB0 : Below w.heap.size w (w.alloc (.cells #[.slice a len cap, .int .i64 0, .int .u64 0] 41)) := (Below.refl _ _).alloc (Nat.le_refl _) _
  go_enter Try.func8, Try.ntmps8
  go_upto_region 2 with fail
  generalize w.alloc (.cells #[.slice a len cap, .int .i64 0, .int .u64 0] 41) = w0 at *
  go_wp2_with fail
  refine (books_any w.heap.size a len cap 0 _ hcur (by omega)).mono ?_
  rintro e w1 ⟨n1, N, p, c, G, rfl, hN, hO, hn1, hc1, hT1⟩
  have hs0 := hcur.lt
  have hB1 : Below w.heap.size w w1 := hB0.trans (hT1.below (Nat.le_refl _) (by omega))
  clear hcur hB0 hT1 hO
  go_wp2_with fail
  refine (one_any w.heap.size a len cap _ _ _ hc1 (by omega)).mono ?_
  rintro e w2 ⟨q, n2, rfl, m2, hc2, hO2⟩
  have hB2 := hB1.trans hO2.below
  clear hc1 hB1 hO2
  cases q with
  | false =>
    go_wp2_with fail
    refine (pick_any w.heap.size a len cap _ _ _ hc2 (by omega)).mono ?_
    rintro e w3 ⟨v3, n3, rfl, p3, q3, -, m3, hc3, hO3⟩
    have hB3 := hB2.trans hO3.below
    clear hc2 hB2 hO3
    go_wp2_with fail
    refine (pick_any w.heap.size a len cap _ _ _ hc3 (by omega)).mono ?_
    rintro e w4 ⟨v4, n4, rfl, p4, q4, -, m4, hc4, hO4⟩
    have hB4 := hB3.trans hO4.below
    clear hc3 hB3 hO4
    go_wp2_with fail
    refine (pick_any w.heap.size a len cap _ _ _ hc4 (by omega)).mono ?_
    rintro e w5 ⟨v5, n5, rfl, p5, q5, -, m5, hc5, hO5⟩
    have q5 := q5 (by omega)
    have hB5 := hB4.trans hO5.below
    clear hc4 hB4 hO5 hc5
    have HA : Hid (AnsDff w w5 (.returned (.tuple #[.slice p N c, .int .i64 v3, .int .i64 v4, .int .i64 (1 + v5)]))) := ⟨N, p, c, v3, v4, 1 + v5, rfl, hB5⟩
    clear hB5
    go_wp2
    (try simp only [Exit.inBlock, Exit.then])
    refine bodyPost_ret (results_tmp4 rfl _ _ _) rfl ?_
    exact HA.out
  | true =>
    go_wp2_with fail
    refine (pick_any w.heap.size a len cap _ _ _ hc2 (by omega)).mono ?_
    rintro e w3 ⟨v3, n3, rfl, p3, q3, -, m3, hc3, hO3⟩
    have q3 := q3 (by omega)
    have hB3 := hB2.trans hO3.below
    clear hc2 hB2 hO3
    have hI := ipL w3 [0, 9990, 10000, 10001, -1]
    have hBa : Below w3.heap.size w3 (w3.alloc (.cells (ivL [0, 9990, 10000, 10001, -1]).toArray 3)) := (Below.refl _ _).alloc (Nat.le_refl _) _
    have hlC : w3.heap.size ≠ w.heap.size := by have := hc3.lt; omega
    have hs3 := hc3.lt
    have hc4 := hc3.below hBa hc3.lt
    have hB4 := hB3.trans (hBa.mono (by omega))
    clear hc3 hB3 hBa
    go_wp2_with fail
    refine (among_any w.heap.size a len cap _ w3.heap.size 5 5 _ _ hc4 (by omega) hI hlC (by omega) (by omega)).mono ?_
    rintro e w5 ⟨i5, n5, hi5, rfl, m5, hc5, hO5⟩
    have hB5 := hB4.trans hO5.below
    clear hc4 hB4 hO5 hI hlC
    have hI := ipL w5 [1, 10, 9990, 10000, 10001, 0]
    have hBa : Below w5.heap.size w5 (w5.alloc (.cells (ivL [1, 10, 9990, 10000, 10001, 0]).toArray 3)) := (Below.refl _ _).alloc (Nat.le_refl _) _
    have hlC : w5.heap.size ≠ w.heap.size := by have := hc5.lt; omega
    have hs5 := hc5.lt
    have hc6 := hc5.below hBa hc5.lt
    have hB6 := hB5.trans (hBa.mono (by omega))
    clear hc5 hB5 hBa
    generalize ([0, 9990, 10000, 10001, -1] : List Int).getD i5 0 = u5 at *
    go_wp2_with fail
    refine (among_any w.heap.size a len cap _ w5.heap.size 6 6 _ _ hc6 (by omega) hI hlC (by omega) (by omega)).mono ?_
    rintro e w7 ⟨i7, n7, hi7, rfl, m7, hc7, hO7⟩
    have hB7 := hB6.trans hO7.below
    clear hc6 hB6 hO7 hI hlC hc7
    generalize ([1, 10, 9990, 10000, 10001, 0] : List Int).getD i7 0 = u7 at *
    have HA : Hid (AnsDff w w7 (.returned (.tuple #[.slice p N c, .int .i64 (v3 - 1), .int .i64 u5, .int .i64 u7]))) := ⟨N, p, c, v3 - 1, u5, u7, rfl, hB7⟩
    clear hB7
    go_wp2
    (try simp only [Exit.inBlock, Exit.then])
    refine bodyPost_ret (results_tmp4 rfl _ _ _) rfl ?_
    exact HA.out
end Go.Proofs.Ytdpblholoogikaa
