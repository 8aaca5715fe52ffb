/- A clone of a list of ints. -/
import Derived.Test.YtbhfkhlhfpmkmaaLqBase
import Derived.Test.YtbhfkhlhfpmkmaaRyShelf
namespace Go.Proofs.Ytbhfkhlhfpmkmaa
open Go.RowKit

theorem clone_any (a : Option Addr) (n c : Nat) (f : Nat → Int) (w : World) (hf : IL w a n f) (h1 : 1 ≤ n) (h2 : n ≤ 1000) :
    Calls Try.prog 52 #[.slice a n c] w fun e w' => (∃ ta tc, e = .returned (.slice ta n tc) ∧ Own w' w.heap.size (.slice ta n tc) n f) ∧ Below w.heap.size w w' := by
  obtain ⟨b, off, rfl, hb, hc⟩ := hf (by omega)
  have hg : ∀ j, j < n → ((List.range n).map f).getD j 0 = f j := fun j hj => by simp [List.getD, hj]
  refine (Try.slices_Clone_int b off n c ((List.range n).map f) w (by simp) (by omega) (fun j hj => ?_)).mono ?_
  · have hj' : j < n := by simpa using hj
    rw [hg j hj']; exact hc j hj'
  · rintro e w' ⟨v', rfl, hown, -, hB⟩
    have hO : Own w' w.heap.size v' n f := by
      have e1 : (((List.range n).map f).take n).map (Value.int .i64) = vL f n := by
        rw [List.take_of_length_le (by simp), List.map_map]; rfl
      rw [e1] at hown
      exact hown
    obtain ⟨ta, tc, rfl⟩ := hO.shape
    exact ⟨⟨ta, tc, rfl, hO⟩, hB⟩
end Go.Proofs.Ytbhfkhlhfpmkmaa
