/-
  THE CONTRACTS OF THE REFERENCE'S 'AddOf' and 'ComparedOf'.
-/
import Derived.Test.YtppdhchlgkihoaaDoorRight
namespace Go.Proofs.YtppdhchlgkihoaaDoor.Frac
open Go.ChangeShapes Go.WideShapes Go.ChangeAt Go.RowKit
set_option linter.unusedVariables false

theorem right_out {n d : Int} (h : right n d = true) : ∃ a b : Nat, n = a ∧ d = b ∧ 1 ≤ b ∧ b ≤ 1000000000 ∧ a ≤ 1000000000 := by
  unfold right at h
  have h := of_decide_eq_true h
  exact ⟨n.toNat, d.toNat, by omega, by omega, by omega, by omega, by omega⟩

/-- What AddOf hands back: numerator, denominator, error. -/
def addR (n1 d1 n2 d2 : Int) : Int × Int × Int :=
  if right n1 d1 = true ∧ right n2 d2 = true then
    let num := (n1 * d2 + n2 * d1).toNat
    let den := (d1 * d2).toNat
    let g := Nat.gcd num den
    if 1000000000 < den / g ∨ 1000000000 < num / g then (0, 0, 2) else (((num / g : Nat) : Int), ((den / g : Nat) : Int), 0)
  else (0, 0, 3)

theorem mul_le_big {a b : Nat} (ha : a ≤ 1000000000) (hb : b ≤ 1000000000) : a * b ≤ 1000000000000000000 := Nat.mul_le_mul ha hb

/-- The three numbers as one returned value. -/
def fracRes (r : Int × Int × Int) : Value := .tuple #[.agg #[.int .i64 r.1, .int .i64 r.2.1], .int .i64 r.2.2]

def cmpI (x y : Int) : Int := if x < y then -1 else if y < x then 1 else 0

end Go.Proofs.YtppdhchlgkihoaaDoor.Frac
