/-
  FRACTIONS IN LOWEST TERMS, as plain numbers.
-/
import Derived.Test.YtmihbfmlnfhgcadGreatDoorCalS
namespace Go.Proofs.YtmihbfmlnfhgcadGreatDoor.Cal
open Go.ChangeShapes Go.WideShapes Go.ChangeAt Go.RowKit Stm Key
set_option linter.unusedVariables false

theorem lowZ_scale (k x y : Int) (hk : 0 < k) : lowZ (k * x) (k * y) = lowZ x y := by
  unfold lowZ
  rw [Int.gcd_mul_left]
  have e : ((k.natAbs * Int.gcd x y : Nat) : Int) = k * (Int.gcd x y : Int) := by
    rw [Int.natCast_mul]; congr 1; omega
  rw [e, Int.mul_ediv_mul_of_pos _ _ hk, Int.mul_ediv_mul_of_pos _ _ hk]
theorem lowZ_eq {x y x' y' : Int} (hy : 0 < y) (hy' : 0 < y') (h : x * y' = x' * y) : lowZ x y = lowZ x' y' := by
  rw [← lowZ_scale y' x y hy', ← lowZ_scale y x' y' hy, Int.mul_comm y' x, h, Int.mul_comm x' y, Int.mul_comm y' y]
theorem lowZ_says (x : Int) {y : Int} (hy : 0 < y) : (lowZ x y).1 * y = x * (lowZ x y).2 ∧ 0 < (lowZ x y).2 ∧ (lowZ x y).2 ≤ y := by
  have hg : 0 < Int.gcd x y := Int.gcd_pos_of_ne_zero_right x (by omega)
  obtain ⟨a, ha⟩ := Int.gcd_dvd_left x y
  obtain ⟨b, hb⟩ := Int.gcd_dvd_right x y
  have e1 : (lowZ x y).1 = a := by
    show x / (Int.gcd x y : Int) = a
    conv => lhs; lhs; rw [ha]
    exact Int.mul_ediv_cancel_left _ (by omega)
  have e2 : (lowZ x y).2 = b := by
    show y / (Int.gcd x y : Int) = b
    conv => lhs; lhs; rw [hb]
    exact Int.mul_ediv_cancel_left _ (by omega)
  rw [e1, e2]
  obtain ⟨g, hge⟩ : ∃ g : Int, (Int.gcd x y : Int) = g := ⟨_, rfl⟩
  rw [hge] at ha hb
  have hg1 : 0 < g := by omega
  have hbp : 0 < b := by
    rcases Int.lt_trichotomy b 0 with h | h | h
    · have := Int.mul_lt_mul_of_pos_left h hg1; rw [Int.mul_zero, ← hb] at this; omega
    · rw [h, Int.mul_zero] at hb; omega
    · exact h
  refine ⟨?_, hbp, ?_⟩
  · rw [hb, ha]; grind
  · have := Int.mul_le_mul_of_nonneg_right (show 1 ≤ g by omega) (Int.le_of_lt hbp); rw [Int.one_mul, ← hb] at this; exact this
theorem lowZ_abs {x y M : Int} (hy : 0 < y) (h1 : 0 ≤ x) (h2 : x ≤ M) : 0 ≤ (lowZ x y).1 ∧ (lowZ x y).1 ≤ M := by
  have hg : 0 < Int.gcd x y := Int.gcd_pos_of_ne_zero_right x (by omega)
  show 0 ≤ x / (Int.gcd x y : Int) ∧ x / (Int.gcd x y : Int) ≤ M
  exact ⟨Int.ediv_nonneg h1 (by omega), Int.le_trans (Int.ediv_le_self _ h1) h2⟩
end Go.Proofs.YtmihbfmlnfhgcadGreatDoor.Cal
