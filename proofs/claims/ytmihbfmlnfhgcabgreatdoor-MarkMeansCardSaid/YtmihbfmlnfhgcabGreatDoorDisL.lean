/-
  MarkMeans: what the law wants is what discuss.Mean hands back.
-/
import Derived.Test.YtmihbfmlnfhgcabGreatDoorDisP
import Derived.Test.YtmihbfmlnfhgcabGreatDoorErrs
namespace Go.Proofs.YtmihbfmlnfhgcabGreatDoor.Cal
open Go.ChangeShapes Go.WideShapes Go.ChangeAt Go.RowKit Stm Key
set_option linter.unusedVariables false

/-- The fault of a key. -/
def kfE (p : ByteArray) : Int := if keyL p.data.toList = true then 0 else 5
theorem mean_fault {l : List Mk} {p : ByteArray} {f : Int} (hf : fstE [chkO ⟨#[]⟩ ⟨#[]⟩ l, kfE p] = f) (h : f ≠ 0) : dMean l p = ((0, 0), f) := by
  subst hf
  unfold dMean
  by_cases h0 : chkO ⟨#[]⟩ ⟨#[]⟩ l = 0
  · have e : fstE [chkO ⟨#[]⟩ ⟨#[]⟩ l, kfE p] = kfE p := by
      unfold fstE fstE fstE
      rw [h0]
      by_cases hk : kfE p = 0
      · simp [hk]
      · simp [hk]
    rw [e] at h ⊢
    unfold kfE at h ⊢
    by_cases hk : keyL p.data.toList = true
    · rw [if_pos hk] at h; exact absurd rfl h
    · rw [if_neg (by simpa using h0), if_neg hk, if_pos (by simpa using hk)]
  · have e : fstE [chkO ⟨#[]⟩ ⟨#[]⟩ l, kfE p] = chkO ⟨#[]⟩ ⟨#[]⟩ l := by
      unfold fstE
      rw [if_pos h0]
    rw [e, if_pos h0]
theorem mean_right {l : List Mk} {p : ByteArray} (hf : fstE [chkO ⟨#[]⟩ ⟨#[]⟩ l, kfE p] = 0) : dMean l p = ((mean2 l p).1, if (!(mean2 l p).2) = true then 8 else 0) ∧ chkO ⟨#[]⟩ ⟨#[]⟩ l = 0 := by
  have h0 : chkO ⟨#[]⟩ ⟨#[]⟩ l = 0 := by
    unfold fstE at hf
    by_cases h : chkO ⟨#[]⟩ ⟨#[]⟩ l = 0
    · exact h
    · rw [if_pos h] at hf; exact hf
  have hk : keyL p.data.toList = true := by
    unfold fstE fstE fstE kfE at hf
    rw [h0] at hf
    by_cases h : keyL p.data.toList = true
    · exact h
    · simp [h] at hf
  refine ⟨?_, h0⟩
  unfold dMean mean2
  rw [if_neg (by simpa using h0), if_neg (by simp [hk])]
  by_cases hs : (scB l p).length = 0
  · rw [if_pos hs, if_pos hs]; rfl
  · rw [if_neg hs, if_neg hs]; rfl
end Go.Proofs.YtmihbfmlnfhgcabGreatDoor.Cal
