/-
  THE CONTRACT OF THE REFERENCE'S CallFault.
-/
import Derived.Test.YtanoojmgjinmfaaDoorCalls
import Derived.Deep.QuietTactic
import Derived.BigQuiet
namespace Go.Proofs.YtanoojmgjinmfaaDoor.Key
open Go.ChangeShapes Go.WideShapes Go.ChangeAt Go.RowKit
set_option linter.unusedVariables false

theorem leB_empty (x : ByteArray) (h : keyL x.data.toList = true) : leB x ⟨#[]⟩ = false := by
  unfold leB
  rw [Lib.toList_data, Lib.toList_data]
  cases hx : x.data.toList with
  | nil => rw [hx] at h; cases h
  | cons a l => rfl
/-- The key that stands before the k-th reason. -/
def lastOf (rs : List (ByteArray × Int)) : Nat → ByteArray
  | 0 => ⟨#[]⟩
  | k + 1 => (rs.getD k (⟨#[]⟩, 0)).1
theorem lastOf_succ (rs : List (ByteArray × Int)) (k : Nat) (h : k < rs.length) : lastOf rs (k + 1) = rs[k].1 := by
  show (rs.getD k (⟨#[]⟩, 0)).1 = _; simp [List.getD, List.getElem?_eq_getElem h]
theorem below_drewN {B : Nat} {a w : World} (h : Below B a w) (n : Nat) : Below B a (w.drewN n) := ⟨h.os, h.tape, h.output, h.size, h.block⟩

end Go.Proofs.YtanoojmgjinmfaaDoor.Key
