/-
  THE CONTRACT OF slices.Clone AT A LIST OF STRINGS: a row of the call's own, of the same strings.
-/
import Derived.Test.YtanoojmgjinmfaaDoorSome
import Derived.Test.YtanoojmgjinmfaaDoorShelf
namespace Go.Proofs.YtanoojmgjinmfaaDoor.Stm
open Go.ChangeShapes Go.WideShapes Go.ChangeAt Go.RowKit Key
set_option linter.unusedVariables false

theorem clone_any (A : Option Addr) (n cap : Nat) (ss : List ByteArray) (w : World) (hS : SL w A ss) (hn : ss.length = n) (hn2 : n ≤ 1000) (hA : (A = none ∧ n = 0) ∨ ∃ g, A = some ⟨g, 0, none⟩) :
    Calls Tryd.prog 18 #[.slice A n cap] w fun e w' => ∃ (A' : Option Addr) (c' : Nat), e = .returned (.slice A' n c') ∧ ((A' = none ∧ n = 0) ∨ ∃ g, A' = some ⟨g, 0, none⟩) ∧
      w'.ownsRow w.heap.size 9 1 (.slice A' n c') n (ss.map Value.string) ∧ Below w.heap.size w w' := by
  rcases hA with ⟨rfl, rfl⟩ | ⟨g, rfl⟩
  · refine (AnyE.slices_Clone_nil Tryd.laysSlE041_f18 0 cap w).mono ?_
    rintro e w' ⟨rfl, rfl⟩
    have : ss = [] := List.length_eq_zero_iff.1 hn
    subst this
    exact ⟨none, 0, rfl, Or.inl ⟨rfl, rfl⟩, World.ownsRow_nil _ _ _ _, Below.refl _ _⟩
  · obtain ⟨i0, hi0, hz0, hz1, hz2⟩ := info_parts infoS
    refine (AnyE.slices_Clone Tryd.laysSlE041_f18 i0 _ 1 16 hi0 hz0 hz1 hz2 rfl (by omega) Tryd.sizeOf9 g 0 n cap (ss.map Value.string) w (by simp [hn]) (by unfold maxLen; omega) (by omega) ?_ ?_).mono ?_
    · intro j u hj
      rw [Nat.zero_add]
      rw [List.getElem?_map] at hj
      have hjl : j < ss.length := by
        rcases Nat.lt_or_ge j ss.length with h | h
        · exact h
        · rw [List.getElem?_eq_none h] at hj; simp at hj
      rw [List.getElem?_eq_getElem hjl] at hj
      simp at hj
      subst hj
      obtain ⟨b, hb, _, hc⟩ := hS.2 (by omega)
      have : g = b := congrArg Addr.block (Option.some.inj hb)
      subst this
      exact hc j hjl
    · intro u hu
      obtain ⟨x, _, rfl⟩ := List.mem_map.1 hu
      rfl
    · rintro e w' ⟨v', rfl, ho, hne, hb⟩
      rcases ho.2 with ⟨e, e2⟩ | ⟨g', cap', cur, e, _⟩
      · exact absurd e hne
      · subst e
        exact ⟨some ⟨g', 0, none⟩, cap', rfl, Or.inr ⟨g', rfl⟩, ho, hb⟩
end Go.Proofs.YtanoojmgjinmfaaDoor.Stm
