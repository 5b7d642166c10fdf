/-
  WHAT EACH LAW BEGINS WITH: a slice of integers that came in, and the stream that is made of it.
-/
import Derived.Test.YtmihbfmlnfhgcadGreatDoorStream
import Derived.Handy
namespace Go.Proofs.YtmihbfmlnfhgcadGreatDoor.Stm
open Go.ChangeShapes Go.WideShapes Go.ChangeAt Go.RowKit
set_option linter.unusedVariables false

/-- WHAT THE WALK IS TOLD OF A SLICE OF INTEGERS THAT CAME IN: it is nil; or it leads to a row of 'cap' cells, the numbers 'zs'. -/
def IsRow (k : IntKind) (w : World) (a : Option Addr) (len cap : Nat) (zs : List Int) : Prop :=
  (a = none ∧ len = 0 ∧ cap = 0 ∧ zs = []) ∨
  ∃ x, a = some x ∧ len ≤ cap ∧ cap ≤ maxLen ∧ zs.length = cap ∧ (∀ i, i < zs.length → w.cell? (x.add i) = some (.int k (zs.getD i 0))) ∧ ∀ n ∈ zs, (Lit.int k n).wf = true

theorem add_plain' (b o i : Nat) : (⟨b, o, none⟩ : Addr).add i = ⟨b, o + i, none⟩ := by
  unfold Addr.add
  split
  · rename_i h; subst h; rfl
  · rfl

theorem strm_new {w : World} {a : Option Addr} {len cap : Nat} {zs : List Int} (h : IsRow .i64 w a len cap zs) :
    Strm (w.alloc (.cells #[.slice a len cap, .int .i64 0] 25)) w.heap.size 0 := by
  refine ⟨a, len, cap, 0, heap_alloc_new w _, Nat.le_refl _, ?_⟩
  rcases Nat.eq_zero_or_pos len with h0 | h0
  · exact Or.inl h0
  · rcases h with ⟨_, h1, _⟩ | ⟨x, rfl, h1, h2, h3, h4, h5⟩
    · omega
    · obtain ⟨b, o, s⟩ := x
      have hx := h4 0 (by omega)
      have hs : s = none := by simpa [Addr.add] using World.cell?_spot hx
      subst hs
      have hlt : b < w.heap.size := by
        have := World.block_lt_of_cell? w _ hx
        simpa [add_plain'] using this
      refine Or.inr ⟨b, o, rfl, hlt, h0, h1, by unfold maxLen at h2; omega, fun i hi => ?_⟩
      have hi' : i < zs.length := by omega
      refine ⟨zs.getD i 0, ?_, ?_⟩
      · refine (World.cell?_alloc_old w _ ⟨b, o + i, none⟩ (Nat.ne_of_lt hlt)).trans ?_
        rw [← add_plain']
        exact h4 i hi'
      · have h6 := h5 (zs.getD i 0) (by simp [List.getD, List.getElem?_eq_getElem hi'])
        unfold Lit.wf at h6
        rw [Bool.and_eq_true] at h6
        exact ⟨of_decide_eq_true h6.1, of_decide_eq_true h6.2⟩

end Go.Proofs.YtmihbfmlnfhgcadGreatDoor.Stm
