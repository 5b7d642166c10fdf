/-
  A BLOCK KNOWN WHOLE, behind what writes elsewhere or in it.
-/
import Derived.Test.YtglmdgjbfnoidaaDoorStream
import Derived.Test.YtglmdgjbfnoidaaDoorArrive
namespace Go.Proofs.YtglmdgjbfnoidaaDoor.Key
open Go.ChangeShapes Go.WideShapes Go.ChangeAt Go.RowKit Stm
set_option linter.unusedVariables false

theorem Blk.frozen {w : World} {B : Nat} {t : TypeId} {cs : Array Value} (h : Blk w B t cs) (i : Nat) : w.frozen? ⟨B, i, none⟩ = false := by
  unfold Blk at h; simp [World.frozen?, h]
theorem Blk.only {w w' : World} {B C : Nat} {t : TypeId} {cs : Array Value} (h : Blk w B t cs) (ho : Only C w w') (hne : B ≠ C) : Blk w' B t cs := (ho.block B hne).trans h
theorem Blk.alloc {w : World} {B : Nat} {t : TypeId} {cs : Array Value} (h : Blk w B t cs) (o : Obj) : Blk (w.alloc o) B t cs := (Below.heap_alloc w o B h.lt).trans h
theorem Blk.set_ {w : World} {B : Nat} {t : TypeId} {cs : Array Value} (h : Blk w B t cs) (i : Nat) (u : Value) : Blk (w.setCell ⟨B, i, none⟩ u) B t (cs.setIfInBounds i u) := by
  unfold Blk at h ⊢
  simp [World.setCell, Array.getElem?_modify, h]
theorem Blk.far {w : World} {B : Nat} {t : TypeId} {cs : Array Value} (h : Blk w B t cs) {p : Addr} (hp : B ≠ p.block) (u : Value) : Blk (w.setCell p u) B t cs := (Below.heap_setCell w p u B hp).trans h

end Go.Proofs.YtglmdgjbfnoidaaDoor.Key
