/- Numbers alone: what is left of bookings when somebody gives back. -/
import Derived.Test.YtdpblholoogikaaBkM
namespace Go.Proofs.Ytdpblholoogikaa
open Go.RowKit
/-- what is left of one -/
def frS (who at_ a f t u : Int) : List Int := if u = who ∧ at_ < t then (if at_ ≤ f then [] else [a, f, at_, u]) else [a, f, t, u]
def frL (F : Nat → Int) (who at_ : Int) : Nat → List Int
  | 0 => []
  | k + 1 => frL F who at_ k ++ frS who at_ (F (k * 4)) (F (k * 4 + 1)) (F (k * 4 + 2)) (F (k * 4 + 3))
theorem frL_len (F : Nat → Int) (who at_ : Int) (n : Nat) : (frL F who at_ n).length ≤ n * 4 := by
  induction n with
  | zero => simp [frL]
  | succ n ih =>
    unfold frL frS
    rw [List.length_append]
    split
    · split <;> simp <;> omega
    · simp; omega
end Go.Proofs.Ytdpblholoogikaa
