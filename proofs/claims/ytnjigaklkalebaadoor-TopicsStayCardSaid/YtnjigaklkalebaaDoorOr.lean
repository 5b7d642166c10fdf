/-
  cmp.Or AT TWO ERRORS.
-/
import Derived.Test.YtnjigaklkalebaaDoorRefWant
namespace Go.Proofs.YtnjigaklkalebaaDoor.For
open Go.ChangeShapes Go.WideShapes Go.ChangeAt Go.RowKit Stm Key
set_option linter.unusedVariables false

end Go.Proofs.YtnjigaklkalebaaDoor.For
