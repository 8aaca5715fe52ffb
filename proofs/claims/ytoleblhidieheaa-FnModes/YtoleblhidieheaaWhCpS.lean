/- Lists of texts: copied, compared, their sizes. -/
import Derived.Test.YtoleblhidieheaaWhSl
import Derived.Test.YtoleblhidieheaaWhVq
namespace Go.Proofs.Ytoleblhidieheaa
open Go.RowKit
theorem infoStr : (Try.prog.info? 9).map (fun i => (i.zero, i.size, i.bytes)) = some (some (.string ⟨#[]⟩), 1, 16) := by kernel_rfl
theorem bl_same (a : ByteArray) : (a.toList == a.toList) = true := by simp
theorem bl_same' (a : ByteArray) : (a.toList != a.toList) = false := by simp

theorem VQ.sl {w : World} {lo hi : Nat} {a : Option Addr} {n : Nat} {S : Nat → ByteArray} (h : VQ w lo hi a n (fun i => .string (S i))) : SL w a n S := fun h0 => by
  obtain ⟨b, rfl, _, _, hP⟩ := h h0
  exact ⟨b, 0, rfl, hP.lt, fun i hi => by rw [Nat.zero_add]; exact hP.c i hi⟩
theorem SL.alloc {w : World} {a : Option Addr} {n : Nat} {S : Nat → ByteArray} (h : SL w a n S) (o : Obj) : SL (w.alloc o) a n S := h.below ((Below.refl w.heap.size w).alloc (Nat.le_refl _) o)
/-- the row behind a copy's first k stores -/
def rowSt (S : Nat → ByteArray) (k : Nat) (i : Nat) : Value := if i < k then .string (S i) else (.string ⟨#[]⟩)
theorem rowSt_step (S : Nat → ByteArray) (k : Nat) {w : World} {b n : Nat} (h : w.rowIs b 9 n (rowSt S k)) : (w.setCell ⟨b, k, none⟩ (.string (S k))).rowIs b 9 n (rowSt S (k + 1)) := by
  refine (h.set k _).congr fun i _ => ?_
  unfold rowSt
  by_cases e : i = k
  · subst e; simp
  · by_cases e2 : i < k
    · simp [e, e2, Nat.lt_succ_of_lt e2]
    · have : ¬ i < k + 1 := by omega
      simp [e, e2, this]
set_option maxHeartbeats 800000 in
theorem copySt (a : Option Addr) (len cap : Nat) (S : Nat → ByteArray) (w : World) (hl : len ≤ 1048576) (hc : SL w a len S) :
    Calls Try.prog 14 #[.slice a len cap] w fun e w' => e = .returned (.slice (some ⟨w.heap.size, 0, none⟩) len len) ∧ VQ w' w.heap.size (w.heap.size + 1) (some ⟨w.heap.size, 0, none⟩) len (fun i => .string (S i)) ∧ w.heap.size < w'.heap.size ∧ Below w.heap.size w w' := by
  have hmk := run_make_row' (P := Try.prog) 24 9 (.string ⟨#[]⟩) 16 Try.underlying24 infoStr rfl .i64 .i64 len (by omega) (by omega)
  have hr0 : (w.alloc (.cells (madeCells #[(.string ⟨#[]⟩)] len) 9)).rowIs w.heap.size 9 len (rowSt S 0) := (World.rowIs_made w (.string ⟨#[]⟩) len 9).congr fun i _ => by simp [rowSt]
  have hb0 : Below w.heap.size w (w.alloc (.cells (madeCells #[(.string ⟨#[]⟩)] len) 9)) := (Below.refl _ _).alloc (Nat.le_refl _) _
  have HR : Hid ((w.alloc (.cells (madeCells #[(.string ⟨#[]⟩)] len) 9)).rowIs w.heap.size 9 len (rowSt S 0)) := hr0
  clear hr0
  go_enter Try.func14, Try.ntmps14
  go_wp2
  go_loopw [4] (fun i wr => ∃ k : Nat, k ≤ len ∧ i = .int .i64 k ∧ wr.rowIs w.heap.size 9 len (rowSt S k) ∧ Below w.heap.size w wr) (fun i _ => len - (intOf i).toNat)
  case atStart => exact ⟨0, Nat.zero_le _, rfl, HR.out, hb0⟩
  case round =>
    obtain ⟨k, hk, rfl, hrow, hbel⟩ := hrel
    by_cases hlt : k < len
    · obtain ⟨b, off, rfl, hbw, hcell⟩ := hc (by omega)
      have hck : wr.cell? ⟨b, off + k, none⟩ = some (.string (S k)) := (hbel.cell (p := ⟨b, off + k, none⟩) hbw).trans (hcell k hlt)
      have ho : wr.cell? ⟨w.heap.size, k, none⟩ = some ((.string ⟨#[]⟩)) := by rw [hrow.cell hlt]; simp [rowSt]
      have hfz := hrow.frozen k
      have hrow' := rowSt_step S k hrow
      have hbel' := hbel.setCell (p := ⟨w.heap.size, k, none⟩) (Nat.le_refl _) (.string (S k))
      clear hcell hc hmk hb0 HR hrow hbel
      go_wp2
      exact ⟨⟨k + 1, by omega, by go_num, hrow', hbel'⟩, by simp [intOf]; omega⟩
    · have : k = len := by omega
      subst this
      clear hmk hb0 HR
      go_wp2
      go_ret
      exact ⟨rfl, fun _ => ⟨w.heap.size, rfl, Nat.le_refl _, Nat.lt_succ_self _, vp_row (hrow.congr fun i hi => by simp [rowSt, hi])⟩, hrow.lt, hbel⟩
set_option maxHeartbeats 800000 in
theorem eqSt (a1 a2 : Option Addr) (len c1 c2 : Nat) (S : Nat → ByteArray) (w : World) (hl : len ≤ 1048576) (hc1 : SL w a1 len S) (hc2 : SL w a2 len S) :
    Calls Try.prog 15 #[.slice a1 len c1, .slice a2 len c2] w fun e w' => e = .returned (.bool true) ∧ Below w.heap.size w w' := by
  go_enter Try.func15, Try.ntmps15
  go_wp2
  go_loopw [5] (fun i wr => ∃ k : Nat, k ≤ len ∧ i = .int .i64 k ∧ Below w.heap.size w wr) (fun i _ => len - (intOf i).toNat)
  case atStart => exact ⟨0, Nat.zero_le _, rfl, Below.refl _ _⟩
  case round =>
    obtain ⟨k, hk, rfl, hB⟩ := hrel
    by_cases hlt : k < len
    · obtain ⟨b1, o1, rfl, hb1, hcell1⟩ := hc1 (by omega)
      obtain ⟨b2, o2, rfl, hb2, hcell2⟩ := hc2 (by omega)
      have hk1 : wr.cell? ⟨b1, o1 + k, none⟩ = some (.string (S k)) := (hB.cell (p := ⟨b1, _, none⟩) hb1).trans (hcell1 k hlt)
      have hk2 : wr.cell? ⟨b2, o2 + k, none⟩ = some (.string (S k)) := (hB.cell (p := ⟨b2, _, none⟩) hb2).trans (hcell2 k hlt)
      have hlt' : (k : Int) < (len : Int) := by omega
      clear hcell1 hcell2 hc1 hc2
      have hse := bl_same (S k)
      have hsn := bl_same' (S k)
      generalize S k = s at *
      go_wp2
      go_region
      go_wp2
      exact ⟨⟨k + 1, by omega, by go_num, by first | exact hB | exact below_dr hB _ | exact hB.drew⟩, by simp [intOf]; omega⟩
    · clear hc1 hc2
      go_wp2
      go_ret
      exact ⟨rfl, hB⟩

/-- what is left behind the first k texts -/
def lefS (S : Nat → ByteArray) (l : Int) : Nat → Int
  | 0 => l
  | k + 1 => lefS S l k - ((S k).size : Int)
theorem lefS_le (S : Nat → ByteArray) (l : Int) {k m : Nat} (h : k ≤ m) : lefS S l m ≤ lefS S l k := by
  induction m with
  | zero => have : k = 0 := by omega
            subst this; exact Int.le_refl _
  | succ m ih =>
    by_cases e : k = m + 1
    · subst e; exact Int.le_refl _
    · have := ih (by omega)
      show lefS S l m - _ ≤ _
      omega
theorem lefS_sz (S : Nat → ByteArray) (l : Int) {k m : Nat} (h : k < m) : ((S k).size : Int) ≤ l - lefS S l m := by
  have h1 := lefS_le S l (k := k + 1) (m := m) (by omega)
  have h2 := lefS_le S l (k := 0) (m := k) (by omega)
  have h3 : lefS S l (k + 1) = lefS S l k - ((S k).size : Int) := rfl
  have h4 : lefS S l 0 = l := rfl
  omega
/-- what a list of texts leaves of a room of l -/
def lefB (S : Nat → ByteArray) (n : Nat) (l : Int) : Int := if lefS S (l - (n : Int)) n < 0 then -1 else lefS S (l - (n : Int)) n
set_option maxHeartbeats 1600000 in
theorem szSt (a : Option Addr) (n c : Nat) (S : Nat → ByteArray) (l : Int) (w : World) (h0 : 0 ≤ l) (h1 : l ≤ 1048576) (hm : n ≤ 9223372036854775807) (hS : ∀ i, i < n → (S i).size ≤ 9223372036854775807) (ha : SL w a n S) :
    Calls Try.prog 12 #[.slice a n c, .int .i64 l] w fun e w' => e = .returned (.int .i64 (lefB S n l)) ∧ w' = w := by
  have e0 : lefS S (l - (n : Int)) 0 = l - (n : Int) := rfl
  by_cases hh : l - (n : Int) < 0
  · have hv : lefB S n l = -1 := by
      unfold lefB
      have := lefS_le S (l - (n : Int)) (k := 0) (m := n) (by omega)
      rw [if_pos (by omega)]
    rw [hv]
    clear hv e0
    go_enter Try.func12, Try.ntmps12
    go_wp2
    go_ret
    exact ⟨rfl, rfl⟩
  · have HN : Hid (∀ k, k ≤ n → lefS S (l - (n : Int)) k < 0 → lefB S n l = -1) := fun k hk h => by
      unfold lefB
      have := lefS_le S (l - (n : Int)) (k := k) (m := n) hk
      rw [if_pos (by omega)]
    have HV : Hid (¬ lefS S (l - (n : Int)) n < 0 → lefB S n l = lefS S (l - (n : Int)) n) := fun h => by
      unfold lefB
      rw [if_neg h]
    have HE : Hid (∀ k, lefS S (l - (n : Int)) (k + 1) = lefS S (l - (n : Int)) k - ((S k).size : Int)) := fun _ => rfl
    have HZ : Hid (lefS S (l - (n : Int)) 0 = l - (n : Int)) := e0
    clear e0
    generalize lefS S (l - (n : Int)) = G at *
    generalize lefB S n l = V at *
    go_enter Try.func12, Try.ntmps12
    go_wp2
    go_loopw [1, 5] (fun v i wr => ∃ (k : Nat) (T : Int), k ≤ n ∧ i = .int .i64 k ∧ v = .int .i64 T ∧ 0 ≤ T ∧ T ≤ 1048576 ∧ Hid (T = G k) ∧ wr = w) (fun _ i _ => n - (intOf i).toNat)
    case atStart => exact ⟨0, l - (n : Int), Nat.zero_le _, rfl, by simp, by omega, by omega, HZ.out.symm, rfl⟩
    case round =>
      obtain ⟨k, T, hk, rfl, rfl, hT0, hT1, HT, hw⟩ := hrel
      have hs' := hw.symm
      clear hw
      subst hs'
      by_cases hlt : k < n
      · obtain ⟨b, off, rfl, hbw, hcell⟩ := ha (by omega)
        have hck := hcell k hlt
        have hsz := hS k hlt
        have i0 : (0 : Int) ≤ (k : Int) := by omega
        have i1 : (k : Int) < (n : Int) := by omega
        have HT2 : Hid (T - ((S k).size : Int) = G (k + 1)) := by show T - ((S k).size : Int) = G (k + 1); rw [HE.out k, HT.out]
        clear hcell hS HT HZ HE HV
        generalize S k = s at *
        by_cases hz : T - (s.size : Int) < 0
        · have HV2 : Hid (V = -1) := HN.out (k + 1) (by omega) (by rw [← HT2.out]; exact hz)
          go_wp2
          go_ret
          exact ⟨by rw [HV2.out]; rfl, rfl⟩
        · go_wp2
          exact ⟨⟨k + 1, T - (s.size : Int), by omega, by go_num, by simp, by omega, by omega, HT2, trivial⟩, by simp [intOf]; omega⟩
      · have hke : k = n := by omega
        subst hke
        have HV2 : Hid (V = T) := by
          show V = T
          rw [HT.out]
          exact HV.out (by rw [← HT.out]; omega)
        clear HN HV HE HZ HT
        go_wp2
        go_ret
        exact ⟨by rw [HV2.out]; rfl, rfl⟩
end Go.Proofs.Ytoleblhidieheaa
