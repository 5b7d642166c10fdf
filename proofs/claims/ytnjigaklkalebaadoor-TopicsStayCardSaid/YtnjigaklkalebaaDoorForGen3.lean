/-
  THE CONTRACT OF THE MAKER Forest.
-/
import Derived.Test.YtnjigaklkalebaaDoorForGen2
import Derived.Deep.AppendLies
import Derived.Deep.DrawnRows
import Derived.OwnWalk
namespace Go.Proofs.YtnjigaklkalebaaDoor.For
open Go.ChangeShapes Go.WideShapes Go.ChangeAt Go.RowKit Stm Key
set_option linter.unusedVariables false

theorem row_gr2 {w w' : World} {B base E S n : Nat} {v : Value} {xs : List Value} (h : w.ownsRow base E S v n xs) (hg : Gr B w w') (hB : B < base) : w'.ownsRow base E S v n xs :=
  h.kept hg (by
    rcases hb : v.ownBlock with _ | g
    · exact Or.inl rfl
    · refine Or.inr ?_; have := h.lt g hb; intro e; injection e; omega)
theorem TopB.gr {w w' : World} {B g n : Nat} (h : TopB w g n) (hg : Gr B w w') (hne : g ≠ B) : TopB w' g n := by
  obtain ⟨cs, hb, hc⟩ := h
  exact ⟨cs, (hg.block g hb.lt (by simpa using hne)).trans hb, hc⟩
theorem gr_bel {B : Nat} {a b c : World} (h : Gr B a b) (k : Below a.heap.size b c) : Gr B a c := ⟨k.os.trans h.os, k.tape.trans h.tape, k.output.trans h.output, Nat.le_trans h.size k.size, fun i hi hne => (k.block i hi).trans (h.block i hi hne)⟩
theorem enc6 (j : Nat) (h : j < 6) : (Utf8.encode (97 + (j : Int))).size ≤ 4 := by
  rcases (by omega : j = 0 ∨ j = 1 ∨ j = 2 ∨ j = 3 ∨ j = 4 ∨ j = 5) with rfl | rfl | rfl | rfl | rfl | rfl <;> decide
theorem enc6' (j : Nat) (h : j < 6) : (Utf8.encode (97 + (j : Int) - 1)).size ≤ 4 := by
  rcases (by omega : j = 0 ∨ j = 1 ∨ j = 2 ∨ j = 3 ∨ j = 4 ∨ j = 5) with rfl | rfl | rfl | rfl | rfl | rfl <;> decide
theorem snoc_le {l : List Tp} {x : Tp} (h : ∀ x ∈ l, x.k.size ≤ 1000 ∧ x.a.size ≤ 1000) (h1 : x.k.size ≤ 1000) (h2 : x.a.size ≤ 1000) : ∀ y ∈ l ++ [x], y.k.size ≤ 1000 ∧ y.a.size ≤ 1000 := fun y hy => by
  rcases List.mem_append.1 hy with h3 | h3
  · exact h y h3
  · simp at h3; subst h3; exact ⟨h1, h2⟩

end Go.Proofs.YtnjigaklkalebaaDoor.For
