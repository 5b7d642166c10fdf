/-
  THE CONTRACTS OF ONE ARRIVAL's CHECK: submit.CheckArrival and the reference's ArrivalFault: one function of the arrival.
-/
import Derived.Test.YtanoojmgjinmfaaDoorRefTexts
import Derived.Test.YtanoojmgjinmfaaDoorRefKeys
import Derived.Test.YtanoojmgjinmfaaDoorBlk
namespace Go.Proofs.YtanoojmgjinmfaaDoor.Key
open Go.ChangeShapes Go.WideShapes Go.ChangeAt Go.RowKit
set_option linter.unusedVariables false

/-- What is wrong with an arrival. -/
def arriveE (p : ByteArray) (at_ k : Int) (rs tx : ByteArray) : Int :=
  if keyL p.data.toList then
    if momentI at_ then
      if kindI k then
        if !rs.toList.isEmpty && !keyL rs.data.toList then 5
        else if bodyE tx = 0 then (if (k == 3) && (!tx.toList.isEmpty || !rs.toList.isEmpty) then 3 else 0) else bodyE tx
      else 4
    else 1
  else 5

theorem bodyE_cases (s : ByteArray) : bodyE s = 0 ∨ bodyE s = 2 ∨ bodyE s = 3 := by
  unfold bodyE; split
  · exact Or.inr (Or.inl rfl)
  · split
    · exact Or.inl rfl
    · exact Or.inr (Or.inr rfl)

end Go.Proofs.YtanoojmgjinmfaaDoor.Key
