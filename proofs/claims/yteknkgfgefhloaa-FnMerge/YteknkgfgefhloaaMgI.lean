/- Doubles side by side left out: how far the second loop has come. -/
import Derived.Test.YteknkgfgefhloaaMgE
namespace Go.Proofs.Yteknkgfgefhloaa
open Go.RowKit
structure InvC (F : Nat → Int) (n b : Nat) (w : World) (k m p : Nat) (wr : World) : Prop where
  len : p = (cpW (swF F) (k + m + 2)).length
  le : p ≤ k + 1 + m
  ip : IP wr b (n * 3) (mixS (cpW (swF F) (k + m + 2)) F)
  bel : Below b w wr
theorem ip_drN {w : World} {b n : Nat} {F : Nat → Int} (h : IP w b n F) (q : Nat) : IP (w.drewN q) b n F := ⟨h.lt, h.c, h.fz⟩
theorem InvC.same {F : Nat → Int} {n b k m p : Nat} {w wr : World} (h : InvC F n b w k m p wr) (hq : swF F (k + m + 2) = swF F (k + m + 1)) (q : Nat) : InvC F n b w k (m + 1) p (wr.drewN q) := by
  have e : cpW (swF F) (k + (m + 1) + 2) = cpW (swF F) (k + m + 2) := cpW_same (k := k + m + 2) (by omega) hq
  exact ⟨by rw [e]; exact h.len, by have := h.le; omega, by rw [e]; exact ip_drN h.ip q, below_dr h.bel q⟩
theorem InvC.new {F : Nat → Int} {n b k m p : Nat} {w wr : World} (h : InvC F n b w k m p wr) (hn : k + m + 2 < n) (hq : swF F (k + m + 2) ≠ swF F (k + m + 1)) (q : Nat) {D E G : Int} (hd : (D, E, G) = swF F (k + m + 2)) :
    InvC F n b w k (m + 1) (p + 1) ((((wr.drewN q).setCell ⟨b, p * 3, none⟩ (.int .i64 D)).setCell ⟨b, p * 3 + 1, none⟩ (.int .i64 E)).setCell ⟨b, p * 3 + 2, none⟩ (.int .i64 G)) := by
  have e : cpW (swF F) (k + (m + 1) + 2) = cpW (swF F) (k + m + 2) ++ [swF F (k + m + 2)] := cpW_new (k := k + m + 2) hq
  have hl := h.le
  have hp := h.len
  have h1 := (((ip_drN h.ip q).set (k := p * 3) (by omega) D).set (k := p * 3 + 1) (by omega) E).set (k := p * 3 + 2) (by omega) G
  refine ⟨by rw [e]; simp; exact hp, by omega, ?_, ?_⟩
  · rw [e, ← hd]
    refine h1.congr fun i _ => ?_
    rw [hp]
    exact mixS_app _ F (D, E, G) i
  · exact ((below_dr h.bel q).trans ((((Only.refl b (wr.drewN q)).set (p * 3) _).set (p * 3 + 1) _).set (p * 3 + 2) _).below)
theorem InvC.cell {F : Nat → Int} {n b k m p : Nat} {w wr : World} (h : InvC F n b w k m p wr) {t : Nat} (h1 : (k + 1 + m) * 3 ≤ t) (h2 : t < n * 3) : wr.cell? ⟨b, t, none⟩ = some (.int .i64 (F t)) := by
  rw [h.ip.c t h2, mixS_hi (by have := h.le; have := h.len; omega)]
theorem InvC.done {F : Nat → Int} {n b k m p : Nat} {w wr : World} (h : InvC F n b w k m p wr) (hn : k + m + 2 = n) (vs : List Value) :
    p = (cpW (swF F) n).length ∧ IP (wr.setCells b (p * 3) vs) b (p * 3) (flS (cpW (swF F) n)) ∧ Below b w (wr.setCells b (p * 3) vs) := by
  subst hn
  have hl := h.le
  have hp := h.len
  have h0 : IP wr b (p * 3) (flS (cpW (swF F) (k + m + 2))) := ⟨h.ip.lt, fun i hi => by rw [h.ip.c i (by omega), mixS_lo (by omega)], h.ip.fz⟩
  obtain ⟨a, c⟩ := clear_ip vs (p * 3) wr (Nat.le_refl _) h0
  exact ⟨hp, a, h.bel.trans c.below⟩
theorem clear3 {w : World} {b n : Nat} {H : Nat → Int} (h : IP w b (n * 3) H) (p c : Nat) (hp : p < n) :
    ∃ vs, ∀ ty, (Builtin.clear_ #[23] ty #[.slice (some ⟨b, p * 3, none⟩) (n - p) c]).run Try.prog w = .ok (.tuple #[]) (w.setCells b (p * 3) vs) := by
  refine ⟨(Builtin.zeroCells #[.int .i64 0, .int .i64 0, .int .i64 0] (n - p)).toList, fun ty => ?_⟩
  have hlen : (Builtin.zeroCells #[.int .i64 0, .int .i64 0, .int .i64 0] (n - p)).toList.length = (n - p) * 3 := by simp [Builtin.zeroCells]; try omega
  have hone : ∀ v ∈ (Builtin.zeroCells #[.int .i64 0, .int .i64 0, .int .i64 0] (n - p)).toList, v.oneCell' = true := by
    intro v hv
    simp [Builtin.zeroCells] at hv
    obtain ⟨i, hi, rfl⟩ := hv
    have : i % 3 = 0 ∨ i % 3 = 1 ∨ i % 3 = 2 := by omega
    rcases this with e | e | e <;> simp [e] <;> rfl
  have hst := run_storeCells_cells (P := Try.prog) b (p * 3) (Builtin.zeroCells #[.int .i64 0, .int .i64 0, .int .i64 0] (n - p)).toList 0 w (fun j hj => by rw [h.c _ (by omega)]; rfl) (fun j _ => h.fz _) hone
  simp only [Nat.add_zero] at hst
  obtain ⟨m, hm⟩ : ∃ m, n - p = m + 1 := ⟨n - p - 1, by omega⟩
  rw [hm] at hst ⊢
  have hz : ∀ w, (zeroValue 29).run Try.prog w = .ok (.agg #[.int .i64 0, .int .i64 0, .int .i64 0]) w := Try.zeroValue29
  have hc : (Value.agg #[.int .i64 0, .int .i64 0, .int .i64 0]).cells = #[.int .i64 0, .int .i64 0, .int .i64 0] := by kernel_rfl
  simp [Builtin.clear_, run_underlying Try.underlying23, hz, hc, hst]
end Go.Proofs.Yteknkgfgefhloaa
