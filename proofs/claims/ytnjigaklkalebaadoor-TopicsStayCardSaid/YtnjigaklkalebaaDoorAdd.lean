/-
  THE CONTRACTS OF THE REFERENCE'S 'AddOf' and 'ComparedOf'.
-/
import Derived.Test.YtnjigaklkalebaaDoorRight
namespace Go.Proofs.YtnjigaklkalebaaDoor.Frac
open Go.ChangeShapes Go.WideShapes Go.ChangeAt Go.RowKit
set_option linter.unusedVariables false

theorem right_out {n d : Int} (h : right n d = true) : ∃ a b : Nat, n = a ∧ d = b ∧ 1 ≤ b ∧ b ≤ 1000000000 ∧ a ≤ 1000000000 := by
  unfold right at h
  have h := of_decide_eq_true h
  exact ⟨n.toNat, d.toNat, by omega, by omega, by omega, by omega, by omega⟩

/-- What AddOf hands back: numerator, denominator, error. -/
def addR (n1 d1 n2 d2 : Int) : Int × Int × Int :=
  if right n1 d1 = true ∧ right n2 d2 = true then
    let num := (n1 * d2 + n2 * d1).toNat
    let den := (d1 * d2).toNat
    let g := Nat.gcd num den
    if 1000000000 < den / g ∨ 1000000000 < num / g then (0, 0, 2) else (((num / g : Nat) : Int), ((den / g : Nat) : Int), 0)
  else (0, 0, 3)

theorem mul_le_big {a b : Nat} (ha : a ≤ 1000000000) (hb : b ≤ 1000000000) : a * b ≤ 1000000000000000000 := Nat.mul_le_mul ha hb

/-- The three numbers as one returned value. -/
def fracRes (r : Int × Int × Int) : Value := .tuple #[.agg #[.int .i64 r.1, .int .i64 r.2.1], .int .i64 r.2.2]

theorem cmp_nan (x : Int) (w : World) : Calls Tryd.prog 59 #[.int .i64 x] w fun e w' => e = .returned (.bool false) ∧ w' = w := by
  go_enter Tryd.func59, Tryd.ntmps59
  go_wp2
  go_ret
  exact ⟨rfl, rfl⟩

def cmpI (x y : Int) : Int := if x < y then -1 else if y < x then 1 else 0

set_option maxHeartbeats 400000 in
theorem cmp_any (x y : Int) (w : World) : Calls Tryd.prog 55 #[.int .i64 x, .int .i64 y] w fun e w' => e = .returned (.int .i64 (cmpI x y)) ∧ w' = w := by
  by_cases h : x < y
  · have H := Lib.hid (show cmpI x y = -1 from by unfold cmpI; rw [if_pos h])
    go_enter Tryd.func55, Tryd.ntmps55
    go_wp2_with (go_at_call 59; refine (cmp_nan _ _).mono ?_; rintro e w' ⟨rfl, rfl⟩)
    go_ret
    exact ⟨Stm.ret_int H.out.symm, rfl⟩
  · by_cases h2 : y < x
    · have H := Lib.hid (show cmpI x y = 1 from by unfold cmpI; rw [if_neg h, if_pos h2])
      go_enter Tryd.func55, Tryd.ntmps55
      go_wp2_with (go_at_call 59; refine (cmp_nan _ _).mono ?_; rintro e w' ⟨rfl, rfl⟩)
      go_ret
      exact ⟨Stm.ret_int H.out.symm, rfl⟩
    · have H := Lib.hid (show cmpI x y = 0 from by unfold cmpI; rw [if_neg h, if_neg h2])
      go_enter Tryd.func55, Tryd.ntmps55
      go_wp2_with (go_at_call 59; refine (cmp_nan _ _).mono ?_; rintro e w' ⟨rfl, rfl⟩)
      go_ret
      exact ⟨Stm.ret_int H.out.symm, rfl⟩

set_option maxHeartbeats 400000 in
theorem cmpf_any (n1 d1 n2 d2 : Int) (w : World) (h1 : -4611686018427387904 ≤ n1 * d2) (h2 : n1 * d2 ≤ 4611686018427387904) (h3 : -4611686018427387904 ≤ n2 * d1) (h4 : n2 * d1 ≤ 4611686018427387904) :
    Calls Tryd.prog 42 #[.agg #[.int .i64 n1, .int .i64 d1], .agg #[.int .i64 n2, .int .i64 d2]] w fun e w' => e = .returned (.int .i64 (cmpI (n1 * d2) (n2 * d1))) ∧ Below w.heap.size w w' := by
  go_enter Tryd.func42, Tryd.ntmps42
  go_wp2_with (go_at_call 55; refine (cmp_any _ _ _).mono ?_; rintro e w' ⟨rfl, rfl⟩)
  go_ret
  exact ⟨rfl, by go_grown⟩

end Go.Proofs.YtnjigaklkalebaaDoor.Frac
