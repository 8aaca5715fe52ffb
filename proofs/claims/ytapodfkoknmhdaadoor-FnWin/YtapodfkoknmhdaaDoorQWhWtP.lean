/- slices.Sort and slices.Compact, laid at this dump in plain words (printed by a script). -/
import Derived.Shelf.Strings.Builder1
import Derived.Shelf.Strings.Builder2
import Derived.Shelf.Strings.OnBuilder
import Derived.Shelf.Utf8.RuneCount
import Derived.Shelf.Unicode.Decode
import Derived.Shelf.Strings.RuneCount
import Derived.Shelf.Unicode.DecodeSlow
import Derived.Shelf.Unicode.DecodeAny
import Derived.Shelf.Slices.Turned
import Derived.Ground.SlgfProg
import Derived.Shelf.SlicesE.IndexFunc
import Derived.Test.YtapodfkoknmhdaaDoorProg
import Derived.Test.YtapodfkoknmhdaaDoorQWhWtC
namespace Go.Proofs
open Go.Shelf
def Tryd.lays156_ren : Go.Shelf.Ren := ⟨fun | 156 => 43 | 165 => 87 | 166 => 88 | 169 => 89 | 240 => 117 | 241 => 118 | 276 => 134 | 277 => 135 | n => n, fun | 31 => 23 | 9 => 9 | 3 => 3 | 4 => 4 | 0 => 0 | 20 => 20 | 72 => 112 | 76 => 114 | 70 => 110 | 37 => 22 | 75 => 79 | 127 => 147 | 164 => 158 | 5 => 5 | 80 => 116 | n => n, fun | n => n⟩
theorem Tryd.lays156 : Go.Proofs.Lays.n156 Tryd.prog Tryd.lays156_ren := {
  mixed := by kernel_rfl
  f156 := Tryd.func43.trans (congrArg some (by kernel_rfl))
  f165 := Tryd.func87.trans (congrArg some (by kernel_rfl))
  f166 := Tryd.func88.trans (congrArg some (by kernel_rfl))
  f169 := Tryd.func89.trans (congrArg some (by kernel_rfl))
  f240 := Tryd.func117.trans (congrArg some (by kernel_rfl))
  f241 := Tryd.func118.trans (congrArg some (by kernel_rfl))
  f276 := Tryd.func134.trans (congrArg some (by kernel_rfl))
  f277 := Tryd.func135.trans (congrArg some (by kernel_rfl))
  t0 := Tryd.underlying0
  a0 := Tryd.isAgg0
  z0 := Tryd.sizeOf0
  v0 := Tryd.zeroValue0
  t3 := Tryd.underlying3
  a3 := Tryd.isAgg3
  z3 := Tryd.sizeOf3
  v3 := Tryd.zeroValue3
  t4 := Tryd.underlying4
  a4 := Tryd.isAgg4
  z4 := Tryd.sizeOf4
  v4 := Tryd.zeroValue4
  t9 := Tryd.underlying9
  a9 := Tryd.isAgg9
  z9 := Tryd.sizeOf9
  v9 := Tryd.zeroValue9
  t20 := Tryd.underlying20
  a20 := Tryd.isAgg20
  z20 := Tryd.sizeOf20
  v20 := Tryd.zeroValue20
  t31 := Tryd.underlying23
  a31 := Tryd.isAgg23
  z31 := Tryd.sizeOf23
  v31 := Tryd.zeroValue23
  t37 := Tryd.underlying22
  a37 := Tryd.isAgg22
  z37 := Tryd.sizeOf22
  v37 := Tryd.zeroValue22
  t70 := Tryd.underlying110
  a70 := Tryd.isAgg110
  z70 := Tryd.sizeOf110
  v70 := Tryd.zeroValue110
  t72 := Tryd.underlying112
  a72 := Tryd.isAgg112
  z72 := Tryd.sizeOf112
  v72 := Tryd.zeroValue112
  t75 := Tryd.underlying79
  a75 := Tryd.isAgg79
  z75 := Tryd.sizeOf79
  v75 := Tryd.zeroValue79
  t76 := Tryd.underlying114
  a76 := Tryd.isAgg114
  z76 := Tryd.sizeOf114
  v76 := Tryd.zeroValue114
  t127 := Tryd.underlying147
  a127 := Tryd.isAgg147
  z127 := Tryd.sizeOf147
  v127 := Tryd.zeroValue147
  t164 := Tryd.underlying158
  a164 := Tryd.isAgg158
  z164 := Tryd.sizeOf158
  v164 := Tryd.zeroValue158 }
theorem Tryd.Builder_Extra_156 : Builder.Extra Tryd.prog Tryd.lays156_ren := {
  sizeBuilder := by kernel_rfl
  liesBuilder := by kernel_rfl
  t5 := Tryd.underlying5
  a5 := Tryd.isAgg5
  z5 := Tryd.sizeOf5
  v5 := Tryd.zeroValue5
  infoByte := by kernel_rfl
  cellsByte := by kernel_rfl
  sizeByte := by kernel_rfl
  neB5 := by decide }
open Go.RowKit in
theorem Tryd.strings_Join_none (a : Option Addr) (c : Nat) (sep : ByteArray) (w : World) :
    Calls Tryd.prog 43 #[.slice a 0 c, .string sep] w fun e w' => e = .returned (.string ⟨#[]⟩) ∧ w' = w := Any.strings_Join_none Tryd.lays156 Tryd.Builder_Extra_156 a c sep w
open Go.RowKit in
theorem Tryd.strings_Join (bk o c : Nat) (xs : List ByteArray) (sep : ByteArray) (w : World) (hcells : ∀ (j : Nat) x, xs[j]? = some x → w.cell? ⟨bk, o + j, none⟩ = some (.string x)) (hbk : bk < w.heap.size) (hN : xs.length ≤ 140737488355328) (hcap : xs.length ≤ c) (hlen : (Lib.join (xs.map (·.data.toList)) sep.data.toList).length ≤ 140737488355328) :
    Calls Tryd.prog 43 #[.slice (some ⟨bk, o, none⟩) xs.length c, .string sep] w fun e w' => e = .returned (.string ⟨(Lib.join (xs.map (·.data.toList)) sep.data.toList).toArray⟩) ∧ Below w.heap.size w w' := Any.strings_Join Tryd.lays156 Tryd.Builder_Extra_156 bk o c xs sep w hcells hbk hN hcap hlen
end Go.Proofs

/- A part of a wish's text, and its parts laid together, as the program does it. -/
namespace Go.Proofs.YtapodfkoknmhdaaDoor
open Go.RowKit
theorem OwS.mono {w : World} {base base' : Nat} {v : Value} {l : List ByteArray} (h : OwS w base v l) (hb : base' ≤ base) : OwS w base' v l := by
  obtain ⟨hl, h | ⟨g, cap, cur, h1, h2, h3⟩⟩ := h
  · exact ⟨hl, .inl h⟩
  · exact ⟨hl, .inr ⟨g, cap, cur, h1, Nat.le_trans hb h2, h3⟩⟩
theorem slL_get (l : List ByteArray) : slL (fun i => l[i]!) l.length = l := by
  apply List.ext_getElem?
  intro i
  by_cases h : i < l.length
  · simp [slL, h]
  · simp [slL, h]
/-- a list of texts that a function tells -/
def AnsT (w' : World) (e : Ending) (l : List ByteArray) : Prop := ∃ a c, e = .returned (.slice a l.length c) ∧ ((a = none ∧ l.length = 0 ∧ c = 0) ∨ ∃ b o, a = some ⟨b, o, none⟩) ∧ SL w' a l.length (fun i => l[i]!)
theorem ansT_ows {w' : World} {base : Nat} {v : Value} {l : List ByteArray} (h : OwS w' base v l) : AnsT w' (.returned v) l := by
  rcases h.shape with ⟨rfl, rfl⟩ | ⟨g, c, rfl, _, _, _⟩
  · exact ⟨none, 0, rfl, .inl ⟨rfl, rfl, rfl⟩, SL.none _ _⟩
  · exact ⟨_, c, rfl, .inr ⟨g, 0, rfl⟩, ows_sl h rfl⟩
theorem cell_str (w : World) (s : ByteArray) (t : TypeId) : SL (w.alloc (.cells #[.string s] t)) (some ⟨w.heap.size, 0, none⟩) 1 (fun _ => s) := fun _ => ⟨w.heap.size, 0, rfl, by simp, fun i hi => by
  have : i = 0 := by omega
  subst this
  exact cell_one_new _ _ _ 0 _ (by simp)⟩
set_option maxRecDepth 20000 in
set_option maxHeartbeats 2000000 in
theorem iPart (wd : ByteArray) (a : Option Addr) (n c : Nat) (f : Nat → ByteArray) (w : World) (hn : n ≤ 1048575) (ha : SL w a n f) :
    Calls Tryd.prog 45 #[.string wd, .slice a n c] w fun e w' => AnsT w' e (prtL wd f n) ∧ Below w.heap.size w w' := by
  by_cases h0 : n = 0
  · subst h0
    rw [prtL_zero]
    go_enter Tryd.func45, Tryd.ntmps45
    go_wp2
    go_ret
    exact ⟨⟨none, 0, rfl, .inl ⟨rfl, rfl, rfl⟩, SL.none _ _⟩, Below.refl _ _⟩
  · have HP : Hid (prtL wd f n = slL (fun _ => wd) 1 ++ slL f n) := by
      show prtL wd f n = _
      unfold prtL
      rw [if_neg h0]
      simp [slL]
    have hb1 : Below w.heap.size w (w.alloc (.cells #[.string wd] 9)) := (Below.refl _ _).alloc (Nat.le_refl _) _
    have hb2 : Below w.heap.size w ((w.alloc (.cells #[.string wd] 9)).alloc (.cells #[.slice (some ⟨w.heap.size, 0, none⟩) 1 1, .slice a n c] 23)) := hb1.alloc (by simp) _
    have bx := bx_new (w := w.alloc (.cells #[.string wd] 9)) (b := w.heap.size + 1) [.slice (some ⟨w.heap.size, 0, none⟩) 1 1, .slice a n c] 23 (by simp)
    have s1 := (cell_str w wd 9).alloc (.cells #[.slice (some ⟨w.heap.size, 0, none⟩) 1 1, .slice a n c] 23)
    have k2 : (a = none ∧ n = 0 ∧ c = 0) ∨ ∃ b o, a = some ⟨b, o, none⟩ := by
      obtain ⟨b, o, e, _⟩ := ha (by omega)
      exact .inr ⟨b, o, e⟩
    have kC := iConcat (w.heap.size + 1) (some ⟨w.heap.size, 0, none⟩) a 1 1 n c (fun _ => wd) f _ (by omega) (by omega) (by simp) bx.c0 bx.c1 (.inr ⟨_, _, rfl⟩) k2 s1 (ha.below hb2)
    have e0 : ((n : Int) == 0) = false := by simp; omega
    clear bx s1 k2
    go_enter Tryd.func45, Tryd.ntmps45
    go_wp2_with fail
    refine kC.mono ?_
    rintro e w4 ⟨⟨v, rfl, hO⟩, hb4⟩
    have hB4 := stepA hb2 hb4
    have hA := ansT_ows hO
    rw [← HP.out] at hA
    clear kC HP hO
    go_wp2
    go_ret
    exact ⟨hA, hB4⟩
theorem iJoin {base : Nat} (v : Value) (l : List ByteArray) (w : World) (h : OwS w base v l) (hl : l.length ≤ 1048576) (hs : (Lib.join (l.map (·.data.toList)) wsp.data.toList).length ≤ 140737488355328) :
    Calls Tryd.prog 43 #[v, .string wsp] w fun e w' => e = .returned (.string ⟨(Lib.join (l.map (·.data.toList)) wsp.data.toList).toArray⟩) ∧ Below w.heap.size w w' := by
  rcases h.shape with ⟨rfl, rfl⟩ | ⟨g, c, rfl, _, hg, hc⟩
  · refine (Tryd.strings_Join_none none 0 wsp w).mono ?_
    rintro e w' ⟨rfl, rfl⟩
    exact ⟨rfl, Below.refl _ _⟩
  · refine Tryd.strings_Join g 0 c l wsp w (fun j x hx => ?_) hg (by omega) hc hs
    have hj : j < l.length := (List.getElem?_eq_some_iff.1 hx).1
    rw [Nat.zero_add, World.ownsRow.cellAt h j (by omega)]
    simp [hx]
end Go.Proofs.YtapodfkoknmhdaaDoor
