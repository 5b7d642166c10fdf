/-
  THE ORDER OF PAPERS, as plain numbers (PapersCompared): what a paper has by a criterion, two fractions compared, the first difference.
-/
import Derived.Test.YtmihbfmlnfhgcadGreatDoorDisO
import Derived.Test.YtmihbfmlnfhgcadGreatDoorLowP
namespace Go.Proofs.YtmihbfmlnfhgcadGreatDoor.Cal
open Go.ChangeShapes Go.WideShapes Go.ChangeAt Go.RowKit Stm Key
set_option linter.unusedVariables false

/-- The sign of a number. -/
def sgn (z : Int) : Int := if z < 0 then -1 else if 0 < z then 1 else 0
theorem sgn_scale {c : Int} (hc : 0 < c) (z : Int) : sgn (c * z) = sgn z := by
  unfold sgn
  rcases Int.lt_trichotomy z 0 with h | h | h
  · have := Int.mul_neg_of_pos_of_neg hc h
    rw [if_pos this, if_pos h]
  · subst h; simp
  · have := Int.mul_pos hc h
    rw [if_neg (show ¬ c * z < 0 by omega), if_pos this, if_neg (show ¬ z < 0 by omega), if_pos h]
theorem sgn_bd (z : Int) : -1 ≤ sgn z ∧ sgn z ≤ 1 := by unfold sgn; split <;> (try split) <;> omega
/-- What a paper with these scores, which rise, has by a criterion: the reference's way and the program's. -/
def frR (k : Int) (s : List Int) : Int × Int :=
  if k = 4 then ((s.length : Int), 1) else if s.length = 0 then (-1, 1) else if k = 1 then (sumI s, (s.length : Int)) else if k = 2 then (s[0]?.getD 0, 1) else if k = 3 then (s[s.length - 1]?.getD 0, 1) else (s[(s.length - 1) / 2]?.getD 0, 1)
def frP (k : Int) (s : List Int) : Int × Int :=
  if k = 4 then ((s.length : Int), 1) else if s.length = 0 then (-1, 1) else if k = 1 then lowZ (sumI s) (s.length : Int) else if k = 2 then (s[0]?.getD 0, 1) else if k = 3 then (s[s.length - 1]?.getD 0, 1) else (s[(s.length - 1) / 2]?.getD 0, 1)
theorem fr_like (k : Int) (s : List Int) : (frP k s).1 * (frR k s).2 = (frR k s).1 * (frP k s).2 ∧ 0 < (frP k s).2 ∧ 0 < (frR k s).2 := by
  unfold frP frR
  by_cases h4 : k = 4
  · rw [if_pos h4, if_pos h4]; exact ⟨rfl, Int.zero_lt_one, Int.zero_lt_one⟩
  rw [if_neg h4, if_neg h4]
  by_cases h0 : s.length = 0
  · rw [if_pos h0, if_pos h0]; exact ⟨rfl, Int.zero_lt_one, Int.zero_lt_one⟩
  rw [if_neg h0, if_neg h0]
  by_cases h1 : k = 1
  · rw [if_pos h1, if_pos h1]
    have := lowZ_says (sumI s) (show (0 : Int) < (s.length : Int) by omega)
    exact ⟨this.1, this.2.1, by show (0 : Int) < (s.length : Int); omega⟩
  rw [if_neg h1, if_neg h1]
  split
  · exact ⟨rfl, Int.zero_lt_one, Int.zero_lt_one⟩
  · split
    · exact ⟨rfl, Int.zero_lt_one, Int.zero_lt_one⟩
    · exact ⟨rfl, Int.zero_lt_one, Int.zero_lt_one⟩
theorem get_bd {s : List Int} (h : ∀ x ∈ s, 0 ≤ x ∧ x ≤ 10) (i : Nat) : 0 ≤ s[i]?.getD 0 ∧ s[i]?.getD 0 ≤ 10 := by
  by_cases hi : i < s.length
  · rw [List.getElem?_eq_getElem hi]; exact h _ (List.getElem_mem hi)
  · rw [List.getElem?_eq_none (by omega)]; decide
theorem frP_bd {s : List Int} (h : ∀ x ∈ s, 0 ≤ x ∧ x ≤ 10) (hl : s.length ≤ 256) (k : Int) : -1 ≤ (frP k s).1 ∧ (frP k s).1 ≤ 2560 ∧ 1 ≤ (frP k s).2 ∧ (frP k s).2 ≤ 256 := by
  have hb := sumI_bd s h
  unfold frP
  split
  · exact ⟨by show (-1 : Int) ≤ (s.length : Int); omega, by show (s.length : Int) ≤ 2560; omega, by show (1 : Int) ≤ 1; omega, by show (1 : Int) ≤ 256; omega⟩
  split
  · exact ⟨by decide, by decide, by show (1 : Int) ≤ 1; omega, by show (1 : Int) ≤ 256; omega⟩
  rename_i h4 h0
  split
  · have h1 := lowZ_says (sumI s) (show (0 : Int) < (s.length : Int) by omega)
    have h2 := lowZ_abs (M := 2560) (show (0 : Int) < (s.length : Int) by omega) hb.1 (by omega)
    exact ⟨by omega, h2.2, by omega, by omega⟩
  split
  · have := get_bd h 0; exact ⟨by show (-1 : Int) ≤ s[0]?.getD 0; omega, by show s[0]?.getD 0 ≤ (2560 : Int); omega, by show (1 : Int) ≤ 1; omega, by show (1 : Int) ≤ 256; omega⟩
  split
  · have := get_bd h (s.length - 1); exact ⟨by show (-1 : Int) ≤ s[s.length - 1]?.getD 0; omega, by show s[s.length - 1]?.getD 0 ≤ (2560 : Int); omega, by show (1 : Int) ≤ 1; omega, by show (1 : Int) ≤ 256; omega⟩
  · have := get_bd h ((s.length - 1) / 2); exact ⟨by show (-1 : Int) ≤ s[(s.length - 1) / 2]?.getD 0; omega, by show s[(s.length - 1) / 2]?.getD 0 ≤ (2560 : Int); omega, by show (1 : Int) ≤ 1; omega, by show (1 : Int) ≤ 256; omega⟩
theorem frR_bd {s : List Int} (h : ∀ x ∈ s, 0 ≤ x ∧ x ≤ 10) (hl : s.length ≤ 256) (k : Int) : -1 ≤ (frR k s).1 ∧ (frR k s).1 ≤ 2560 ∧ 1 ≤ (frR k s).2 ∧ (frR k s).2 ≤ 256 := by
  have hb := sumI_bd s h
  unfold frR
  split
  · exact ⟨by show (-1 : Int) ≤ (s.length : Int); omega, by show (s.length : Int) ≤ 2560; omega, by show (1 : Int) ≤ 1; omega, by show (1 : Int) ≤ 256; omega⟩
  split
  · exact ⟨by decide, by decide, by show (1 : Int) ≤ 1; omega, by show (1 : Int) ≤ 256; omega⟩
  rename_i h4 h0
  split
  · exact ⟨by show (-1 : Int) ≤ sumI s; omega, by show sumI s ≤ 2560; omega, by show (1 : Int) ≤ (s.length : Int); omega, by show (s.length : Int) ≤ 256; omega⟩
  split
  · have := get_bd h 0; exact ⟨by show (-1 : Int) ≤ s[0]?.getD 0; omega, by show s[0]?.getD 0 ≤ (2560 : Int); omega, by show (1 : Int) ≤ 1; omega, by show (1 : Int) ≤ 256; omega⟩
  split
  · have := get_bd h (s.length - 1); exact ⟨by show (-1 : Int) ≤ s[s.length - 1]?.getD 0; omega, by show s[s.length - 1]?.getD 0 ≤ (2560 : Int); omega, by show (1 : Int) ≤ 1; omega, by show (1 : Int) ≤ 256; omega⟩
  · have := get_bd h ((s.length - 1) / 2); exact ⟨by show (-1 : Int) ≤ s[(s.length - 1) / 2]?.getD 0; omega, by show s[(s.length - 1) / 2]?.getD 0 ≤ (2560 : Int); omega, by show (1 : Int) ≤ 1; omega, by show (1 : Int) ≤ 256; omega⟩
/-- Two fractions compared. -/
def cmpF (x y : Int × Int) : Int := sgn (x.1 * y.2 - y.1 * x.2)
theorem cmpF_like {p q n d p' q' n' d' : Int} (e : p * d = n * q) (hq : 0 < q) (hd : 0 < d) (e' : p' * d' = n' * q') (hq' : 0 < q') (hd' : 0 < d') : cmpF (p, q) (p', q') = cmpF (n, d) (n', d') := by
  unfold cmpF
  simp only
  have h1 := sgn_scale (Int.mul_pos hd hd') (p * q' - p' * q)
  have h2 := sgn_scale (Int.mul_pos hq hq') (n * d' - n' * d)
  have h3 : d * d' * (p * q' - p' * q) = q * q' * (n * d' - n' * d) := by
    have a1 : d * d' * (p * q' - p' * q) = (p * d) * q' * d' - (p' * d') * q * d := by grind
    rw [a1, e, e']; grind
  rw [← h1, h3, h2]
theorem cmp_PR (k : Int) (x y : List Int) : cmpF (frP k x) (frP k y) = cmpF (frR k x) (frR k y) := by
  obtain ⟨e1, q1, d1⟩ := fr_like k x
  obtain ⟨e2, q2, d2⟩ := fr_like k y
  exact cmpF_like e1 q1 d1 e2 q2 d2
/-- The first criterion in which two papers differ (the better one has more); t, if there is none. -/
def ordK (fr : Int → List Int → Int × Int) (sa sb : List Int) (t : Int) : List Int → Int
  | [] => t
  | k :: ks => if cmpF (fr k sb) (fr k sa) ≠ 0 then cmpF (fr k sb) (fr k sa) else ordK fr sa sb t ks
theorem ordK_same (sa sb : List Int) (t : Int) : ∀ ks, ordK frP sa sb t ks = ordK frR sa sb t ks
  | [] => rfl
  | k :: ks => by unfold ordK; rw [cmp_PR, ordK_same sa sb t ks]
theorem ordK_or (fr : Int → List Int → Int × Int) (sa sb : List Int) (t : Int) : ∀ ks, ordK fr sa sb t ks = if ordK fr sa sb 0 ks ≠ 0 then ordK fr sa sb 0 ks else t
  | [] => by unfold ordK; simp
  | k :: ks => by
    unfold ordK
    by_cases h : cmpF (fr k sb) (fr k sa) ≠ 0
    · simp only [if_pos h]
    · simp only [if_neg h]; exact ordK_or fr sa sb t ks
theorem perm_sorted {a b : List Int} (hp : a.Perm b) (ha : a.Pairwise (· ≤ ·)) (hb : b.Pairwise (· ≤ ·)) : a = b :=
  hp.eq_of_pairwise (fun x y _ _ h1 h2 => by omega) ha hb
theorem oth_lt (xs : List Int) : ∀ k : Nat, ∀ x ∈ oth xs k, x < (k : Int)
  | 0, x, hx => by simp [oth] at hx
  | k + 1, x, hx => by
    rw [oth_next] at hx
    rcases List.mem_append.1 hx with h | h
    · have := oth_lt xs k x h; omega
    · have := (List.mem_filter.1 h).2; have : x = k := by simpa using this
      omega
theorem oth_sorted (xs : List Int) : ∀ k : Nat, (oth xs k).Pairwise (· ≤ ·)
  | 0 => by simp [oth]
  | k + 1 => by
    rw [oth_next, List.pairwise_append]
    refine ⟨oth_sorted xs k, ?_, fun x hx y hy => ?_⟩
    · rw [List.pairwise_iff_forall_sublist]
      intro a b hab
      have ha : a ∈ xs.filter (· == (k : Int)) := hab.subset (by simp)
      have hb : b ∈ xs.filter (· == (k : Int)) := hab.subset (by simp)
      have e1 : a = k := by simpa using (List.mem_filter.1 ha).2
      have e2 : b = k := by simpa using (List.mem_filter.1 hb).2
      omega
    · have := oth_lt xs k x hx
      have e2 : y = k := by simpa using (List.mem_filter.1 hy).2
      omega
theorem srtI_sorted (zs : List Int) : (srtI zs).Pairwise (· ≤ ·) := by
  have := List.pairwise_mergeSort (le := fun x y : Int => decide (x ≤ y)) (fun a b c h1 h2 => by simp at *; omega) (fun a b => by simp; omega) zs
  exact this.imp (fun h => by simpa using h)
end Go.Proofs.YtmihbfmlnfhgcadGreatDoor.Cal
