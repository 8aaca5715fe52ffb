/- Bookings marked and held, from 1 on. -/
import Derived.Test.YtdpkmobmlpfjpaaFkBkH
namespace Go.Proofs.Ytdpkmobmlpfjpaa
open Go.RowKit
theorem markB1 (a : Option Addr) (n cap : Nat) (K : Int) (lo hi : Nat) (F : Nat → Int) (w : World) (hn : n ≤ 1048576) (hK : K = 1 + ((n * 4 : Nat) : Int)) (h : LQ w lo hi a (n * 4) F) :
    Calls Try.prog 22 #[.slice a n cap, .int .i64 1] w fun e w' => e = .returned (.int .i64 K) ∧ LQ w' lo hi a (n * 4) (fun i => ((1 : Nat) : Int) + (i : Int)) ∧ Turns lo hi w w' :=
  (markBookedT a n cap 1 lo hi F w hn (by omega) h).mono fun e w' ⟨h1, h2, h3⟩ => ⟨h1.trans (ret_int (by rw [hK]; rfl)), h2, h3⟩
theorem heldB1 (a : Option Addr) (n cap : Nat) (K : Int) (lo hi : Nat) (w : World) (hn : n ≤ 1048576) (hK : K = 1 + ((n * 4 : Nat) : Int)) (h : LQ w lo hi a (n * 4) (fun i => ((1 : Nat) : Int) + (i : Int))) :
    Calls Try.prog 23 #[.slice a n cap, .int .i64 1] w fun e w' => e = .returned (.int .i64 K) ∧ w' = w :=
  (heldBookedT a n cap 1 lo hi w hn (by omega) h).mono fun e w' ⟨h1, h2⟩ => ⟨h1.trans (ret_int (by rw [hK]; rfl)), h2⟩
end Go.Proofs.Ytdpkmobmlpfjpaa
