/- Topics as bytes: their parts, and which are good. -/
import Derived.Test.YthhaemdpnphhoaaDoorWhM
import Derived.Lib.SplitLaws
import Derived.Lib.IndexBytes
import Derived.Lib.SlTrimSet
namespace Go.Proofs.YthhaemdpnphhoaaDoor
/-- the bytes of a text -/
abbrev bl (s : ByteArray) : List UInt8 := s.data.toList
abbrev mkT (l : List UInt8) : ByteArray := ⟨l.toArray⟩
/-- what lies between strokes -/
def prt : List UInt8 → List (List UInt8)
  | [] => [[]]
  | c :: r => if c = 47 then [] :: prt r else (match prt r with | p :: q => (c :: p) :: q | [] => [[c]])
theorem prt_ne (l : List UInt8) : prt l ≠ [] := by
  cases l with
  | nil => simp [prt]
  | cons c r =>
    unfold prt
    split
    · simp
    · split <;> simp
theorem prt_none : ∀ {l : List UInt8}, (47 : UInt8) ∉ l → prt l = [l]
  | [], _ => rfl
  | c :: r, h => by
    have h1 : c ≠ 47 := fun e => h (by simp [e])
    have h2 : (47 : UInt8) ∉ r := fun e => h (by simp [e])
    rw [prt, if_neg h1, prt_none h2]
theorem prt_hit (r : List UInt8) : ∀ {a : List UInt8}, (47 : UInt8) ∉ a → prt (a ++ 47 :: r) = a :: prt r
  | [], _ => by simp [prt]
  | c :: a, h => by
    have h1 : c ≠ 47 := fun e => h (by simp [e])
    have h2 : (47 : UInt8) ∉ a := fun e => h (by simp [e])
    rw [List.cons_append, prt, if_neg h1, prt_hit r h2]
theorem ix_none {l : List UInt8} (h : (47 : UInt8) ∉ l) : Lib.index l [47] = -1 := by
  induction l with
  | nil => rfl
  | cons c r ih =>
    have h1 : c ≠ 47 := fun e => h (by simp [e])
    have h2 : (47 : UInt8) ∉ r := fun e => h (by simp [e])
    have h3 : (47 == c) = false := by simp; exact fun e => h1 e.symm
    simp [Lib.index, List.isPrefixOf, h3, ih h2]
theorem ix_hit (r : List UInt8) {a : List UInt8} (h : (47 : UInt8) ∉ a) : Lib.index (a ++ 47 :: r) [47] = (a.length : Int) := by
  induction a with
  | nil => simp [Lib.index, List.isPrefixOf]
  | cons c a ih =>
    have h1 : c ≠ 47 := fun e => h (by simp [e])
    have h2 : (47 : UInt8) ∉ a := fun e => h (by simp [e])
    have h3 : (47 == c) = false := by simp; exact fun e => h1 e.symm
    have e := ih h2
    rw [List.cons_append, Lib.index]
    have h4 : ([47] : List UInt8).isPrefixOf (c :: (a ++ 47 :: r)) = false := by simp [List.isPrefixOf, h3]
    rw [h4, e]
    have h5 : ((a.length : Int) == -1) = false := by simp
    rw [h5]
    simp
/-- a text with a stroke in it, cut at the first one -/
theorem cut_one : ∀ (l : List UInt8), (47 : UInt8) ∈ l → ∃ a r, l = a ++ 47 :: r ∧ (47 : UInt8) ∉ a
  | c :: l, h => by
    by_cases e : c = 47
    · subst e; exact ⟨[], l, rfl, by simp⟩
    · obtain ⟨a, r, h1, h2⟩ := cut_one l (by rcases List.mem_cons.1 h with h | h; exact absurd h.symm e; exact h)
      exact ⟨c :: a, r, by rw [h1]; rfl, by simp [h2]; exact fun x => e x.symm⟩
theorem split_prt : ∀ (n : Nat) (l : List UInt8), l.length ≤ n → Lib.splitK [47] 0 (Lib.count l [47]) l = prt l := by
  intro n
  induction n with
  | zero =>
    intro l hl
    have : l = [] := List.eq_nil_of_length_eq_zero (by omega)
    subst this
    rfl
  | succ n ih =>
    intro l hl
    by_cases h : (47 : UInt8) ∈ l
    · obtain ⟨a, r, rfl, ha⟩ := cut_one l h
      have hi := ix_hit r ha
      rw [Lib.count_hit (by simp) hi, prt_hit r ha]
      have hd : (a ++ 47 :: r).drop (a.length + ([47] : List UInt8).length) = r := by
        rw [List.drop_append]
        simp
      rw [hd, Nat.add_comm, Lib.splitK, hi]
      have h5 : ((a.length : Int) == -1) = false := by simp
      rw [h5]
      have ht : (a ++ 47 :: r).take ((a.length : Int).toNat + 0) = a := by simp
      simp only [Int.toNat_natCast] at hd ht ⊢
      rw [hd, ht, ih r (by simp at hl; omega)]
      simp
    · rw [Lib.count_miss (ix_none h), prt_none h]
      rfl
theorem bl_inj {a b : ByteArray} (h : bl a = bl b) : a = b := by
  cases a; cases b
  simp only [bl] at h
  congr 1
  exact Array.toList_inj.1 h
theorem mk_bl (s : ByteArray) : mkT (bl s) = s := bl_inj (by simp)
theorem splitB_prt (s : ByteArray) : Lib.splitB ⟨#[47]⟩ 0 (Lib.countB s ⟨#[47]⟩) s = (prt (bl s)).map mkT := by
  have h := Lib.splitB_data ⟨#[47]⟩ 0 (Lib.countB s ⟨#[47]⟩) s
  have h2 := split_prt _ (bl s) (Nat.le_refl _)
  have h3 : (Lib.splitB ⟨#[47]⟩ 0 (Lib.countB s ⟨#[47]⟩) s).map bl = prt (bl s) := by rw [← h2]; exact h
  rw [← h3, List.map_map]
  conv => lhs; rw [← List.map_id (Lib.splitB ⟨#[47]⟩ 0 (Lib.countB s ⟨#[47]⟩) s)]
  exact List.map_congr_left fun x _ => (mk_bl x).symm
/-- the parts of a text that begins with a stroke -/
def tpL : List UInt8 → List (List UInt8)
  | [] => []
  | c :: r => if c = 47 then prt r else []
def tpP (s : ByteArray) : List ByteArray := (tpL (bl s)).map mkT
/-- a byte that may stand in a part -/
def ltB (x : Int) : Bool := decide (97 ≤ x ∧ x ≤ 122) || decide (48 ≤ x ∧ x ≤ 57) || decide (x = 95)
def ptK (s : ByteArray) : Nat → Bool
  | 0 => true
  | k + 1 => ptK s k && ltB (bt s k)
theorem ptK_iff (s : ByteArray) (k : Nat) : ptK s k = true ↔ ∀ i, i < k → ltB (bt s i) = true := by
  induction k with
  | zero => simp [ptK]
  | succ k ih =>
    unfold ptK
    rw [Bool.and_eq_true, ih]
    constructor
    · rintro ⟨h1, h2⟩ i hi
      rcases Nat.lt_or_eq_of_le (Nat.le_of_lt_succ hi) with h | rfl
      · exact h1 i h
      · exact h2
    · exact fun h => ⟨fun i hi => h i (by omega), h k (by omega)⟩
theorem ptK_no {s : ByteArray} {n k : Nat} (hk : k < n) (h : ltB (bt s k) = false) : ptK s n = false := by
  cases e : ptK s n with
  | false => rfl
  | true => rw [(ptK_iff s n).1 e k hk] at h; cases h
/-- a good part -/
def gpB (s : ByteArray) : Bool := decide (1 ≤ s.size) && decide (s.size ≤ 20) && decide (97 ≤ bt s 0) && decide (bt s 0 ≤ 122) && ptK s s.size
/-- a good topic -/
def gtB (s : ByteArray) : Bool := decide (s.size ≤ 60) && !(tpP s).isEmpty && (tpP s).all gpB
theorem dropW_nil {α : Type} (p : α → Bool) : ∀ l : List α, l.dropWhile p = [] ↔ ∀ x ∈ l, p x = true
  | [] => by simp
  | a :: l => by
    rw [List.dropWhile_cons]
    by_cases h : p a = true
    · rw [if_pos h, dropW_nil p l]
      simp [h]
    · rw [if_neg h]
      simp [h]
theorem trim_nil (l cs : List UInt8) : Lib.trimS l cs = [] ↔ ∀ b ∈ l, cs.contains b = true := by
  unfold Lib.trimS Lib.trimLeftS Lib.trimRightS
  rw [dropW_nil]
  constructor
  · intro h
    suffices H : l.reverse.dropWhile (cs.contains ·) = [] by
      intro b hb
      exact (dropW_nil _ _).1 H b (by simpa using hb)
    cases e : l.reverse.dropWhile (cs.contains ·) with
    | nil => rfl
    | cons a t =>
      have h1 := h a (by rw [e]; simp)
      have h2 : (cs.contains ·) a = false := by
        have := List.head?_dropWhile_not (cs.contains ·) l.reverse
        rw [e] at this
        simpa using this
      simp at h1 h2
      exact absurd h1 h2
  · intro h b hb
    have h1 : b ∈ l.reverse.dropWhile (cs.contains ·) := by simpa using hb
    exact h b (by simpa using (List.dropWhile_suffix _).subset h1)
/-- the bytes of parts, as the program lists them -/
abbrev ptC : List UInt8 := [97, 98, 99, 100, 101, 102, 103, 104, 105, 106, 107, 108, 109, 110, 111, 112, 113, 114, 115, 116, 117, 118, 119, 120, 121, 122, 48, 49, 50, 51, 52, 53, 54, 55, 56, 57, 95]
theorem ptC_lt : ∀ x : Fin 256, ptC.contains (UInt8.ofNat x.val) = ltB (x.val : Int) := by decide +kernel
theorem ptC_of (b : UInt8) : ptC.contains b = ltB (b.toNat : Int) := by
  have := ptC_lt ⟨b.toNat, b.toNat_lt⟩
  simpa using this
theorem bt_list (s : ByteArray) (i : Nat) (hi : i < s.size) : s.data.toList[i]? = some (s[i]) := by
  have : i < s.data.toList.length := by simpa using hi
  rw [List.getElem?_eq_getElem this]
  rfl
theorem bt_of (s : ByteArray) (i : Nat) (hi : i < s.size) : bt s i = ((s[i]).toNat : Int) := by unfold bt; rw [dif_pos hi]
theorem trim_part (s : ByteArray) : (Lib.trimS (bl s) ptC).isEmpty = ptK s s.size := by
  rw [Bool.eq_iff_iff, ptK_iff, List.isEmpty_iff, trim_nil]
  constructor
  · intro h i hi
    have := h (s[i]) (List.mem_of_getElem? (bt_list s i hi))
    rw [bt_of s i hi, ← ptC_of]
    exact this
  · intro h b hb
    obtain ⟨i, hi, rfl⟩ := List.mem_iff_getElem.1 hb
    have hi' : i < s.size := by simpa using hi
    have := h i hi'
    rw [bt_of s i hi', ← ptC_of] at this
    exact this
end Go.Proofs.YthhaemdpnphhoaaDoor
