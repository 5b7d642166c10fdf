/-
  THE CONTRACTS OF ONE ARRIVAL's CHECK: submit.CheckArrival and the reference's ArrivalFault: one function of the arrival.
-/
import Derived.Test.YtglmdgjbfnoidaaDoorRefTexts
import Derived.Test.YtglmdgjbfnoidaaDoorRefKeys
namespace Go.Proofs.YtglmdgjbfnoidaaDoor.Key
open Go.ChangeShapes Go.WideShapes Go.ChangeAt Go.RowKit
set_option linter.unusedVariables false

/-- Block B is just these cells. -/
def Blk (w : World) (B : Nat) (t : TypeId) (cs : Array Value) : Prop := w.heap[B]? = some (.cells cs t (0, 0))
theorem Blk.lt {w : World} {B : Nat} {t : TypeId} {cs : Array Value} (h : Blk w B t cs) : B < w.heap.size := lt_of_block h
theorem Blk.new (w : World) (t : TypeId) (cs : Array Value) : Blk (w.alloc (.cells cs t)) w.heap.size t cs := heap_alloc_new w _
theorem Blk.below {w w' : World} {B C : Nat} {t : TypeId} {cs : Array Value} (h : Blk w B t cs) (hb : Below C w w') (hC : B < C) : Blk w' B t cs := (hb.block B hC).trans h
theorem Blk.cell {w : World} {B : Nat} {t : TypeId} {cs : Array Value} (h : Blk w B t cs) (i : Nat) (v : Value) (hv : cs[i]? = some v) : w.cell? ⟨B, i, none⟩ = some v := by
  unfold Blk at h; simp [World.cell?, h, hv]

/-- What is wrong with an arrival. -/
def arriveE (p : ByteArray) (at_ k : Int) (rs tx : ByteArray) : Int :=
  if keyL p.data.toList then
    if momentI at_ then
      if kindI k then
        if !rs.toList.isEmpty && !keyL rs.data.toList then 5
        else if bodyE tx = 0 then (if (k == 3) && (!tx.toList.isEmpty || !rs.toList.isEmpty) then 3 else 0) else bodyE tx
      else 4
    else 1
  else 5

theorem bodyE_cases (s : ByteArray) : bodyE s = 0 ∨ bodyE s = 2 ∨ bodyE s = 3 := by
  unfold bodyE; split
  · exact Or.inr (Or.inl rfl)
  · split
    · exact Or.inl rfl
    · exact Or.inr (Or.inr rfl)

end Go.Proofs.YtglmdgjbfnoidaaDoor.Key
