/-
  THE CONTRACTS OF WORDS: submit.ofWord, lower, placedWords: how many words a string has.
-/
import Derived.Test.YtjlbohbkhfhkpaaGreatDoorGTexts
import Derived.Deep.AppendLies
import Derived.OwnWalk
namespace Go.Proofs.YtjlbohbkhfhkpaaGreatDoor.Key
open Go.ChangeShapes Go.WideShapes Go.ChangeAt Go.RowKit
set_option linter.unusedVariables false

def wordI (c : Int) : Bool := decide ((97 ≤ c ∧ c ≤ 122) ∨ (65 ≤ c ∧ c ≤ 90) ∨ (48 ≤ c ∧ c ≤ 57) ∨ 128 ≤ c)

def lowU (c : UInt8) : UInt8 := if 65 ≤ c.toNat ∧ c.toNat ≤ 90 then UInt8.ofNat (c.toNat + 32) else c
def lowS (s : ByteArray) : ByteArray := ⟨(s.data.toList.map lowU).toArray⟩
theorem lowU_nat (c : UInt8) : (lowU c).toNat = if 65 ≤ c.toNat ∧ c.toNat ≤ 90 then c.toNat + 32 else c.toNat := by
  unfold lowU
  split
  · rename_i h; simp; omega
  · rfl

theorem add_zero (b i : Nat) : (⟨b, 0, none⟩ : Addr).add i = ⟨b, i, none⟩ := by
  unfold Addr.add; split
  · rename_i h; subst h; rfl
  · simp

theorem bytes_free (s : ByteArray) (w : World) : ∃ (cap : Nat) (W1 : World), (convert 9 107 (.string s)).run Tryz.prog w = .ok (.slice (some ⟨w.heap.size, 0, none⟩) s.size cap) W1 ∧
    (∀ (i : Nat) (h : i < s.size), W1.cell? ⟨w.heap.size, i, none⟩ = some (.int .u8 s[i].toNat) ∧ W1.frozen? ⟨w.heap.size, i, none⟩ = false) ∧ Below w.heap.size w W1 ∧ w.heap.size < W1.heap.size := by
  refine ⟨_, _, run_bytes_of_string w 9 107 5 s Tryz.underlying9 Tryz.underlying107 Tryz.underlying5, fun i h => ?_, ((Below.refl _ _).drew).alloc (by simp) _, by simp⟩
  have h1 : (w.drew.alloc (.cells (bytesRow s (grownCap w s.size 0 5)) 5 ((bytesRow s (grownCap w s.size 0 5)).size, (bytesRow s (grownCap w s.size 0 5)).size + 1))).heap[w.heap.size]? = some (.cells (bytesRow s (grownCap w s.size 0 5)) 5 ((bytesRow s (grownCap w s.size 0 5)).size, (bytesRow s (grownCap w s.size 0 5)).size + 1)) := heap_alloc_new w.drew _
  have h2 := bytesRow_at s (grownCap w s.size 0 5) i h
  have h3 : i < (bytesRow s (grownCap w s.size 0 5)).size := (Array.getElem?_eq_some_iff.1 h2).1
  refine ⟨?_, ?_⟩
  · simp only [World.cell?, h1, h2]; rfl
  · simp only [World.frozen?, h1]; simp; omega

/-- How many words: the longest runs of their bytes. -/
def runsF : Nat → List UInt8 → Nat
  | 0, _ => 0
  | f + 1, l => if (l.dropWhile fun c => wordI c.toNat).length < l.length then 1 + runsF f ((l.dropWhile fun c => wordI c.toNat).drop 1) else runsF f ((l.dropWhile fun c => wordI c.toNat).drop 1)
theorem runsF_nil : ∀ f, runsF f [] = 0
  | 0 => rfl
  | f + 1 => by unfold runsF; simp; exact runsF_nil f
theorem drop_cons (s : ByteArray) (j : Nat) (h : j < s.size) : s.data.toList.drop j = s[j] :: s.data.toList.drop (j + 1) := by
  have := List.drop_eq_getElem_cons (l := s.data.toList) (i := j) (by rw [size_list]; exact h)
  exact this
theorem dropWhile_yes (s : ByteArray) (j : Nat) (h : j < s.size) (hw : wordI s[j].toNat = true) : (s.data.toList.drop j).dropWhile (fun c => wordI c.toNat) = (s.data.toList.drop (j + 1)).dropWhile (fun c => wordI c.toNat) := by
  rw [drop_cons s j h, List.dropWhile_cons_of_pos (by simpa using hw)]
theorem dropWhile_no (s : ByteArray) (j : Nat) (h : j < s.size) (hw : wordI s[j].toNat = false) : (s.data.toList.drop j).dropWhile (fun c => wordI c.toNat) = s.data.toList.drop j := by
  rw [drop_cons s j h, List.dropWhile_cons_of_neg (by simp [hw])]
theorem dropWhile_end (s : ByteArray) (j : Nat) (h : ¬ j < s.size) : (s.data.toList.drop j).dropWhile (fun c => wordI c.toNat) = s.data.toList.drop j := by
  rw [List.drop_of_length_le (by rw [size_list]; omega)]; rfl
theorem grown_below {w w' : World} {row : Option Nat} {C : Nat} (h : w.grownBy w' row) (hr : ∀ g, row = some g → C ≤ g) (hC : C ≤ w.heap.size) : Below C w w' :=
  ⟨h.os, h.tape, h.output, h.size, fun i hi => h.block i (by omega) (fun e => by have := hr i e.symm; omega)⟩
theorem own_below {w w' : World} {base E S n : Nat} {v : Value} {xs : List Value} (h : w.ownsRow base E S v n xs) (hb : Below w.heap.size w w') : w'.ownsRow base E S v n xs :=
  h.kept (row := none) ⟨hb.os, hb.tape, hb.output, hb.size, fun k hk _ => hb.block k hk⟩ (by
    rcases hh : v.ownBlock with _ | g
    · exact Or.inl rfl
    · exact Or.inr (by simp))

theorem runs_step (s : ByteArray) (k j g : Nat) (hkj : k ≤ j) (hj : j ≤ s.size) (D : (s.data.toList.drop k).dropWhile (fun c => wordI c.toNat) = s.data.toList.drop j) :
    runsF (g + 1) (s.data.toList.drop k) = (if k < j then 1 else 0) + runsF g (s.data.toList.drop (j + 1)) := by
  have e0 : runsF (g + 1) (s.data.toList.drop k) = if ((s.data.toList.drop k).dropWhile fun c => wordI c.toNat).length < (s.data.toList.drop k).length then 1 + runsF g (((s.data.toList.drop k).dropWhile fun c => wordI c.toNat).drop 1) else runsF g (((s.data.toList.drop k).dropWhile fun c => wordI c.toNat).drop 1) := rfl
  rw [e0, D, List.drop_drop]
  have e1 : (s.data.toList.drop j).length = s.size - j := by rw [List.length_drop, size_list]
  have e2 : (s.data.toList.drop k).length = s.size - k := by rw [List.length_drop, size_list]
  rw [e1, e2]
  by_cases h : k < j
  · rw [if_pos (by omega), if_pos h]
  · rw [if_neg (by omega), if_neg h, Nat.zero_add]

end Go.Proofs.YtjlbohbkhfhkpaaGreatDoor.Key
