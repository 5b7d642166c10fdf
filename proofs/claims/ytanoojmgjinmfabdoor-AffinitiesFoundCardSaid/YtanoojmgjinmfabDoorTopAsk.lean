/-
  THE CONTRACTS OF twoOf, Above, Below, Meet AND Near.
-/
import Derived.Test.YtanoojmgjinmfabDoorTopNew
import Derived.Test.YtanoojmgjinmfabDoorStrs
import Derived.Test.YtanoojmgjinmfabDoorLow
import Derived.Test.YtanoojmgjinmfabDoorShelf
namespace Go.Proofs.YtanoojmgjinmfabDoor.For
open Go.ChangeShapes Go.WideShapes Go.ChangeAt Go.RowKit Stm Key
set_option linter.unusedVariables false

/-- The error of two topics. -/
def askE (l : List Tp) (a b : ByteArray) : Int := if forestE l ≠ 0 then forestE l else (twoE l a b).2.2
theorem twoE_ok {l : List Tp} {a b : ByteArray} (h : (twoE l a b).2.2 = 0) : ∃ i j : Nat, lk l a = some i ∧ lk l b = some j ∧ twoE l a b = ((i : Int), (j : Int), 0) := by
  unfold twoE at h ⊢
  split at h
  · rename_i hh
    obtain ⟨i, hi⟩ := Option.isSome_iff_exists.1 hh.1
    obtain ⟨j, hj⟩ := Option.isSome_iff_exists.1 hh.2
    refine ⟨i, j, hi, hj, ?_⟩
    rw [if_pos hh]; unfold lkI; rw [hi, hj]
  · cases h
theorem twoE_no {l : List Tp} {a b : ByteArray} (h : (twoE l a b).2.2 ≠ 0) : twoE l a b = (0, 0, 8) := by
  unfold twoE at h ⊢
  split at h
  · exact absurd rfl h
  · rename_i hh; rw [if_neg hh]

end Go.Proofs.YtanoojmgjinmfabDoor.For
