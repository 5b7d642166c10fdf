/-
  THE WALK OF THE LAW FractionsAdded, over the contracts of the program's Add and Compare.
-/
import Derived.Test.YtnjigaklkalebaaDoorLaw
import Derived.Test.YtnjigaklkalebaaDoorFractionGen
import Derived.Test.YtnjigaklkalebaaDoorAddOk
namespace Go.Proofs.YtnjigaklkalebaaDoor.Frac
open Go.ChangeShapes Go.WideShapes Go.ChangeAt Go.RowKit Stm
set_option linter.unusedVariables false

/-- What the program's Add does. -/
def AddOk : Prop := ∀ (n1 d1 n2 d2 : Int) (w : World), Calls Tryd.prog 20 #[.agg #[.int .i64 n1, .int .i64 d1], .agg #[.int .i64 n2, .int .i64 d2]] w fun e w' =>
  e = .returned (fracRes (addR n1 d1 n2 d2)) ∧ Below w.heap.size w w'
theorem cmpR_yes {n1 d1 n2 d2 : Int} (h1 : right n1 d1 = true) (h2 : right n2 d2 = true) : cmpR n1 d1 n2 d2 = (cmpI (n1 * d2) (n2 * d1), 0) := by
  unfold cmpR; rw [if_pos ⟨h1, h2⟩]
theorem cmpR_no1 {n1 d1 n2 d2 : Int} (h1 : right n1 d1 = false) : cmpR n1 d1 n2 d2 = (0, 3) := by
  unfold cmpR; rw [if_neg (by rw [h1]; simp)]
theorem cmpR_no2 {n1 d1 n2 d2 : Int} (h1 : right n2 d2 = false) : cmpR n1 d1 n2 d2 = (0, 3) := by
  unfold cmpR; rw [if_neg (by rw [h1]; simp)]
theorem right_mul {n1 d1 n2 d2 : Int} (h1 : right n1 d1 = true) (h2 : right n2 d2 = true) : 0 ≤ n1 * d2 ∧ n1 * d2 ≤ 1000000000000000000 := by
  obtain ⟨a, b, rfl, rfl, g1, g2, g3⟩ := right_out h1
  obtain ⟨c, d, rfl, rfl, g4, g5, g6⟩ := right_out h2
  have h := mul_le_big g3 g5
  exact ⟨Int.mul_nonneg (Int.natCast_nonneg _) (Int.natCast_nonneg _), by omega⟩

end Go.Proofs.YtnjigaklkalebaaDoor.Frac
