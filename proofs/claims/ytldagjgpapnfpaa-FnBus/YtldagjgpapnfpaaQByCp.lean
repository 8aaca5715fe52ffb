/- A row of ints that grows while a cursor is drawn from (as in ChEvD). -/
import Derived.Test.YtldagjgpapnfpaaQCurPk
import Derived.Test.YtldagjgpapnfpaaQLqBase
namespace Go.Proofs.Ytldagjgpapnfpaa
open Go.RowKit
theorem tn_only {C : Nat} {w w' : World} (h : Only C w w') : Turns C (C + 1) w w' := (OnlyIn.of h (Nat.le_refl _) (Nat.lt_succ_self _)).turns
theorem tn_below {lo hi B : Nat} {w w' w'' : World} (h : Turns lo hi w w') (k : Below B w' w'') (hB : w.heap.size ≤ B) : Turns lo hi w w'' :=
  ⟨k.os.trans h.os, k.tape.trans h.tape, k.output.trans h.output, Nat.le_trans h.size k.size, fun x hx hn => (k.block x (by omega)).trans (h.block x hx hn)⟩
/-- what stands while events are drawn -/
structure Es (w wx : World) (C : Nat) (a : Option Addr) (len cap n' : Nat) (v : Value) (k : Nat) (F : Nat → Int) : Prop where
  cur : Cur wx C a len cap n'
  own : Own wx w.heap.size v k F
  t : Turns C (C + 1) w wx
section
variable {w wx wy : World} {C : Nat} {a : Option Addr} {len cap n' n2 : Nat} {v v' : Value} {k : Nat} {F : Nat → Int}
theorem Es.step (h : Es w wx C a len cap n' v k F) (hc : Cur wy C a len cap n2) (o : Only C wx wy) (hC : C < w.heap.size) : Es w wy C a len cap n2 v k F :=
  ⟨hc, h.own.only o hC, h.t.trans (tn_only o)⟩
theorem Es.app {x : Int} (h : Es w wx C a len cap n' v k F) (ho : wy.ownsRow w.heap.size 3 1 v' (k + 1) (vL F k ++ [.int .i64 x])) (hg : (wx.alloc (.cells #[.int .i64 x] 3)).grownBy wy v.ownBlock) (hC : C < w.heap.size) : Es w wy C a len cap n' v' (k + 1) (put F k x) := by
  have hb : Below w.heap.size wx wy := ((Below.refl _ _).alloc h.t.size (.cells #[.int .i64 x] 3)).grown hg (by simp; have := h.t.size; omega) (fun q hq => (World.ownsRow.lt h.own q hq).1)
  exact ⟨h.cur.below hb hC, own_put ho, tn_below h.t hb (Nat.le_refl _)⟩
end
/-- how long a slice is -/
def lenV : Value → Nat
  | .slice _ n _ => n
  | _ => 0
end Go.Proofs.Ytldagjgpapnfpaa

/- Lists of any values (one cell each) of a call's own. -/
namespace Go.Proofs.Ytldagjgpapnfpaa
open Go.RowKit
/-- a row of values in one block that may be written -/
structure VP (w : World) (b n : Nat) (f : Nat → Value) : Prop where
  lt : b < w.heap.size
  c : ∀ i, i < n → w.cell? ⟨b, i, none⟩ = some (f i)
  fz : ∀ i, w.frozen? ⟨b, i, none⟩ = false
/-- .. that lies from lo on, below hi -/
def VQ (w : World) (lo hi : Nat) (a : Option Addr) (n : Nat) (f : Nat → Value) : Prop :=
  0 < n → ∃ b, a = some ⟨b, 0, none⟩ ∧ lo ≤ b ∧ b < hi ∧ VP w b n f
section
variable {w w' : World} {lo hi lo' hi' b n : Nat} {a : Option Addr} {f g : Nat → Value}
theorem VP.of (h : VP w b n f) (hs : w.heap.size ≤ w'.heap.size) (e : w'.heap[b]? = w.heap[b]?) : VP w' b n f :=
  ⟨Nat.lt_of_lt_of_le h.lt hs, fun i hi => (cell_same e i).trans (h.c i hi), fun i => (frozen_same e i).trans (h.fz i)⟩
theorem vp_row {t : TypeId} (h : w.rowIs b t n f) : VP w b n f := ⟨h.lt, fun _ hi => h.cell hi, fun i => h.frozen i⟩
theorem VP.far {b' k : Nat} (h : VP w b n f) (v : Value) (hn : b ≠ b') : VP (w.setCell ⟨b', k, none⟩ v) b n f := by
  have hO : Only b' w (w.setCell ⟨b', k, none⟩ v) := (Only.refl b' w).set k v
  exact h.of (by simp) (hO.block b hn)
theorem VP.set (h : VP w b n f) {k : Nat} (hk : k < n) (v : Value) : VP (w.setCell ⟨b, k, none⟩ v) b n (fun i => if i = k then v else f i) := by
  refine ⟨by simpa using h.lt, fun i hi => ?_, fun j => by simpa using h.fz j⟩
  by_cases e : i = k
  · subst e; rw [if_pos rfl]; exact World.cell?_setCell_same _ _ _ (h.c i hi)
  · rw [if_neg e]; exact (World.cell?_setCell_other _ _ _ _ (by simp <;> omega)).trans (h.c i hi)
theorem VQ.on (h : VQ w lo hi a n f) (k : Below w.heap.size w w') : VQ w' lo hi a n f := fun h0 => by
  obtain ⟨b, rfl, h1, h2, hP⟩ := h h0
  exact ⟨b, rfl, h1, h2, hP.of k.size (k.block b hP.lt)⟩
theorem VQ.turns (h : VQ w lo hi a n f) (k : Turns lo' hi' w w') (hd : hi ≤ lo' ∨ hi' ≤ lo) : VQ w' lo hi a n f := fun h0 => by
  obtain ⟨b, rfl, h1, h2, hP⟩ := h h0
  exact ⟨b, rfl, h1, h2, hP.of k.size (k.block b hP.lt (by omega))⟩
theorem VQ.wide (h : VQ w lo hi a n f) (h0 : lo' ≤ lo) (h1 : hi ≤ hi') : VQ w lo' hi' a n f := fun hn => by
  obtain ⟨b, rfl, h2, h3, hP⟩ := h hn
  exact ⟨b, rfl, by omega, by omega, hP⟩
theorem vq_none (w : World) (lo hi : Nat) (a : Option Addr) (f : Nat → Value) : VQ w lo hi a 0 f := fun h => absurd h (Nat.lt_irrefl _)
theorem vq_set (h : VQ w lo hi a n f) {b k : Nat} (v : Value) (hn : b < lo ∨ hi ≤ b) : VQ (w.setCell ⟨b, k, none⟩ v) lo hi a n f := fun h0 => by
  obtain ⟨c, rfl, h2, h3, hP⟩ := h h0
  exact ⟨c, rfl, h2, h3, hP.far v (by omega)⟩
end
end Go.Proofs.Ytldagjgpapnfpaa

/- Lists of bytes: copied, compared, their sizes (tools/gen_bycp.py). -/
namespace Go.Proofs.Ytldagjgpapnfpaa
open Go.RowKit
/-- the bytes of a list, by their index -/
def YL (w : World) (a : Option Addr) (n : Nat) (S : Nat → Int) : Prop :=
  0 < n → ∃ b off, a = some ⟨b, off, none⟩ ∧ b < w.heap.size ∧ ∀ i, i < n → w.cell? ⟨b, off + i, none⟩ = some (.int .u8 (S i))
theorem YL.below {w w' : World} {a : Option Addr} {n : Nat} {S : Nat → Int} (h : YL w a n S) (hb : Below w.heap.size w w') : YL w' a n S := fun h0 => by
  obtain ⟨b, off, rfl, hbw, hc⟩ := h h0
  exact ⟨b, off, rfl, Nat.lt_of_lt_of_le hbw hb.size, fun i hi => (hb.cell (p := ⟨b, off + i, none⟩) hbw).trans (hc i hi)⟩
theorem YL.none (w : World) (S : Nat → Int) : YL w none 0 S := fun h => absurd h (Nat.lt_irrefl _)
theorem infoU8 : (Try.prog.info? 5).map (fun i => (i.zero, i.size, i.bytes)) = some (some (.int .u8 0), 1, 1) := by kernel_rfl

theorem VQ.yl {w : World} {lo hi : Nat} {a : Option Addr} {n : Nat} {S : Nat → Int} (h : VQ w lo hi a n (fun i => .int .u8 (S i))) : YL w a n S := fun h0 => by
  obtain ⟨b, rfl, _, _, hP⟩ := h h0
  exact ⟨b, 0, rfl, hP.lt, fun i hi => by rw [Nat.zero_add]; exact hP.c i hi⟩
theorem YL.alloc {w : World} {a : Option Addr} {n : Nat} {S : Nat → Int} (h : YL w a n S) (o : Obj) : YL (w.alloc o) a n S := h.below ((Below.refl w.heap.size w).alloc (Nat.le_refl _) o)
/-- the row behind a copy's first k stores -/
def rowBy (S : Nat → Int) (k : Nat) (i : Nat) : Value := if i < k then .int .u8 (S i) else (.int .u8 0)
theorem rowBy_step (S : Nat → Int) (k : Nat) {w : World} {b n : Nat} (h : w.rowIs b 5 n (rowBy S k)) : (w.setCell ⟨b, k, none⟩ (.int .u8 (S k))).rowIs b 5 n (rowBy S (k + 1)) := by
  refine (h.set k _).congr fun i _ => ?_
  unfold rowBy
  by_cases e : i = k
  · subst e; simp
  · by_cases e2 : i < k
    · simp [e, e2, Nat.lt_succ_of_lt e2]
    · have : ¬ i < k + 1 := by omega
      simp [e, e2, this]
set_option maxHeartbeats 800000 in
theorem copyBy (a : Option Addr) (len cap : Nat) (S : Nat → Int) (w : World) (hl : len ≤ 1048576) (hc : YL w a len S) :
    Calls Try.prog 77 #[.slice a len cap] w fun e w' => e = .returned (.slice (some ⟨w.heap.size, 0, none⟩) len len) ∧ VQ w' w.heap.size (w.heap.size + 1) (some ⟨w.heap.size, 0, none⟩) len (fun i => .int .u8 (S i)) ∧ w.heap.size < w'.heap.size ∧ Below w.heap.size w w' := by
  have hmk := run_make_row' (P := Try.prog) 22 5 (.int .u8 0) 1 Try.underlying22 infoU8 rfl .i64 .i64 len (by omega) (by omega)
  have hr0 : (w.alloc (.cells (madeCells #[(.int .u8 0)] len) 5)).rowIs w.heap.size 5 len (rowBy S 0) := (World.rowIs_made w (.int .u8 0) len 5).congr fun i _ => by simp [rowBy]
  have hb0 : Below w.heap.size w (w.alloc (.cells (madeCells #[(.int .u8 0)] len) 5)) := (Below.refl _ _).alloc (Nat.le_refl _) _
  have HR : Hid ((w.alloc (.cells (madeCells #[(.int .u8 0)] len) 5)).rowIs w.heap.size 5 len (rowBy S 0)) := hr0
  clear hr0
  go_enter Try.func77, Try.ntmps77
  go_wp2
  go_loopw [4] (fun i wr => ∃ k : Nat, k ≤ len ∧ i = .int .i64 k ∧ wr.rowIs w.heap.size 5 len (rowBy S k) ∧ Below w.heap.size w wr) (fun i _ => len - (intOf i).toNat)
  case atStart => exact ⟨0, Nat.zero_le _, rfl, HR.out, hb0⟩
  case round =>
    obtain ⟨k, hk, rfl, hrow, hbel⟩ := hrel
    by_cases hlt : k < len
    · obtain ⟨b, off, rfl, hbw, hcell⟩ := hc (by omega)
      have hck : wr.cell? ⟨b, off + k, none⟩ = some (.int .u8 (S k)) := (hbel.cell (p := ⟨b, off + k, none⟩) hbw).trans (hcell k hlt)
      have ho : wr.cell? ⟨w.heap.size, k, none⟩ = some ((.int .u8 0)) := by rw [hrow.cell hlt]; simp [rowBy]
      have hfz := hrow.frozen k
      have hrow' := rowBy_step S k hrow
      have hbel' := hbel.setCell (p := ⟨w.heap.size, k, none⟩) (Nat.le_refl _) (.int .u8 (S k))
      clear hcell hc hmk hb0 HR hrow hbel
      go_wp2
      exact ⟨⟨k + 1, by omega, by go_num, hrow', hbel'⟩, by simp [intOf]; omega⟩
    · have : k = len := by omega
      subst this
      clear hmk hb0 HR
      go_wp2
      go_ret
      exact ⟨rfl, fun _ => ⟨w.heap.size, rfl, Nat.le_refl _, Nat.lt_succ_self _, vp_row (hrow.congr fun i hi => by simp [rowBy, hi])⟩, hrow.lt, hbel⟩
set_option maxHeartbeats 800000 in
theorem eqBy (a1 a2 : Option Addr) (len c1 c2 : Nat) (S : Nat → Int) (w : World) (hl : len ≤ 1048576) (hc1 : YL w a1 len S) (hc2 : YL w a2 len S) :
    Calls Try.prog 78 #[.slice a1 len c1, .slice a2 len c2] w fun e w' => e = .returned (.bool true) ∧ Below w.heap.size w w' := by
  go_enter Try.func78, Try.ntmps78
  go_wp2
  go_loopw [5] (fun i wr => ∃ k : Nat, k ≤ len ∧ i = .int .i64 k ∧ Below w.heap.size w wr) (fun i _ => len - (intOf i).toNat)
  case atStart => exact ⟨0, Nat.zero_le _, rfl, Below.refl _ _⟩
  case round =>
    obtain ⟨k, hk, rfl, hB⟩ := hrel
    by_cases hlt : k < len
    · obtain ⟨b1, o1, rfl, hb1, hcell1⟩ := hc1 (by omega)
      obtain ⟨b2, o2, rfl, hb2, hcell2⟩ := hc2 (by omega)
      have hk1 : wr.cell? ⟨b1, o1 + k, none⟩ = some (.int .u8 (S k)) := (hB.cell (p := ⟨b1, _, none⟩) hb1).trans (hcell1 k hlt)
      have hk2 : wr.cell? ⟨b2, o2 + k, none⟩ = some (.int .u8 (S k)) := (hB.cell (p := ⟨b2, _, none⟩) hb2).trans (hcell2 k hlt)
      have hlt' : (k : Int) < (len : Int) := by omega
      clear hcell1 hcell2 hc1 hc2
      generalize S k = s at *
      go_wp2
      go_region
      go_wp2
      exact ⟨⟨k + 1, by omega, by go_num, by first | exact hB | exact below_dr hB _ | exact hB.drew⟩, by simp [intOf]; omega⟩
    · clear hc1 hc2
      go_wp2
      go_ret
      exact ⟨rfl, hB⟩
set_option maxHeartbeats 800000 in
theorem szBy (a : Option Addr) (n c : Nat) (l : Int) (w : World) (h0 : 0 ≤ l) (h1 : l ≤ 1048576) (hm : n ≤ 9223372036854775807) :
    Calls Try.prog 76 #[.slice a n c, .int .i64 l] w fun e w' => e = .returned (.int .i64 (if l < (n : Int) then -1 else l - (n : Int))) ∧ w' = w := by
  by_cases hh : l < (n : Int)
  · rw [if_pos hh]
    have h2 : l - (n : Int) < 0 := by omega
    go_enter Try.func76, Try.ntmps76
    go_wp2
    go_ret
    exact ⟨rfl, rfl⟩
  · rw [if_neg hh]
    have h2 : ¬ l - (n : Int) < 0 := by omega
    go_enter Try.func76, Try.ntmps76
    go_wp2
    go_ret
    exact ⟨rfl, rfl⟩
end Go.Proofs.Ytldagjgpapnfpaa
