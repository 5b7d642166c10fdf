/-
  THE CONTRACT OF THE REFERENCE'S 'part': a fraction in lowest terms, of a number not below 0 and one above 0.
-/
import Derived.Test.YtdbakhhjiijcnaaDoorStream
import Derived.Handy
import Derived.RegionTactic
import Derived.ChangeAlike
namespace Go.Proofs.YtdbakhhjiijcnaaDoor.Frac
open Go.ChangeShapes Go.WideShapes Go.ChangeAt Go.RowKit
set_option linter.unusedVariables false

theorem gcd_step (x y : Nat) (h : y ≠ 0) : Nat.gcd y (x % y) = Nat.gcd x y := by
  rw [Nat.gcd_comm x y, Nat.gcd_rec y x, Nat.gcd_comm]

theorem quo_wrap (n g : Nat) (hg : 0 < g) (hn : n ≤ 4611686018427387904) : wrap64 ((n : Int) / (g : Int)) = ((n / g : Nat) : Int) := by
  have h : n / g ≤ n := Nat.div_le_self _ _
  have e : (n : Int) / (g : Int) = ((n / g : Nat) : Int) := rfl
  rw [e]
  exact IntWalk.wrap64_in _ ⟨Int.le_trans (by decide) (Int.natCast_nonneg _), by omega⟩
theorem part_end (n d g : Nat) (hg : 0 < g) (hn : n ≤ 4611686018427387904) (hd : d ≤ 4611686018427387904) :
    Ending.returned (Value.agg #[.int .i64 (wrap64 ((n : Int) / (g : Int))), .int .i64 (wrap64 ((d : Int) / (g : Int)))]) = .returned (.agg #[.int .i64 ((n / g : Nat) : Int), .int .i64 ((d / g : Nat) : Int)]) := by
  rw [quo_wrap n g hg hn, quo_wrap d g hg hd]

end Go.Proofs.YtdbakhhjiijcnaaDoor.Frac
