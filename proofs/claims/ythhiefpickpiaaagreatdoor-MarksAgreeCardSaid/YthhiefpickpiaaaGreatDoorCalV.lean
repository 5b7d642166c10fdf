/-
  SUMS OF SQUARES OF DIFFERENCES: never below 0, and 0 just where all numbers are equal; what Agreement says.
-/
import Derived.Test.YthhiefpickpiaaaGreatDoorCalU
namespace Go.Proofs.YthhiefpickpiaaaGreatDoor.Cal
open Go.ChangeShapes Go.WideShapes Go.ChangeAt Go.RowKit Stm Key
set_option linter.unusedVariables false

/-- The sum over all pairs of the squares of differences. -/
def pairI (l : List Int) : Int := (l.map fun a => (l.map fun b => (a - b) * (a - b)).sum).sum
theorem sq_sub (a b : Int) : (a - b) * (a - b) = a * a - 2 * (a * b) + b * b := by
  rw [Int.sub_mul, Int.mul_sub, Int.mul_sub, Int.mul_comm b a]; omega
theorem one_sq (a : Int) : ∀ l : List Int, (l.map fun b => (a - b) * (a - b)).sum = (l.length : Int) * (a * a) - 2 * (a * sumI l) + sqI l
  | [] => by simp [sumI, sqI]
  | b :: t => by
    have ih := one_sq a t
    have h1 : (((t.length + 1 : Nat) : Int)) * (a * a) = (t.length : Int) * (a * a) + a * a := by rw [Int.natCast_add, Int.add_mul]; simp
    unfold sumI sqI at *
    rw [List.map_cons, List.sum_cons, ih, List.length_cons, List.sum_cons, List.map_cons, List.sum_cons, sq_sub, h1, Int.mul_add]
    omega
theorem all_sq (n S Q : Int) : ∀ m : List Int, (m.map fun a => n * (a * a) - 2 * (a * S) + Q).sum = n * sqI m - 2 * (sumI m * S) + (m.length : Int) * Q
  | [] => by simp [sumI, sqI]
  | a :: t => by
    have ih := all_sq n S Q t
    have h1 : (((t.length + 1 : Nat) : Int)) * Q = (t.length : Int) * Q + Q := by rw [Int.natCast_add, Int.add_mul]; simp
    unfold sumI sqI at *
    rw [List.map_cons, List.sum_cons, ih, List.length_cons, List.sum_cons, List.map_cons, List.sum_cons, h1, Int.mul_add, Int.add_mul]
    omega
theorem pair_dif (l : List Int) : pairI l = difI l := by
  unfold pairI difI
  have : (fun a => (l.map fun b => (a - b) * (a - b)).sum) = fun a => (l.length : Int) * (a * a) - 2 * (a * sumI l) + sqI l := funext fun a => one_sq a l
  rw [this, all_sq]
  omega
theorem sum_nonneg : ∀ l : List Int, (∀ x ∈ l, 0 ≤ x) → 0 ≤ l.sum
  | [], _ => by simp
  | x :: t, h => by
    have := sum_nonneg t (fun y hy => h y (List.mem_cons_of_mem _ hy))
    have := h x (List.mem_cons_self ..)
    rw [List.sum_cons]; omega
theorem sum_zero : ∀ l : List Int, (∀ x ∈ l, 0 ≤ x) → l.sum = 0 → ∀ x ∈ l, x = 0
  | [], _, _, x, hx => by simp at hx
  | y :: t, h, hz, x, hx => by
    have h1 := sum_nonneg t (fun y hy => h y (List.mem_cons_of_mem _ hy))
    have h2 := h y (List.mem_cons_self ..)
    rw [List.sum_cons] at hz
    rcases List.mem_cons.1 hx with rfl | hx
    · omega
    · exact sum_zero t (fun y hy => h y (List.mem_cons_of_mem _ hy)) (by omega) x hx
theorem sum_const0 : ∀ l : List Int, (l.map fun _ => (0 : Int)).sum = 0
  | [] => rfl
  | _ :: t => by rw [List.map_cons, List.sum_cons, sum_const0 t]; rfl
theorem sq_nonneg (a : Int) : 0 ≤ a * a := by
  rcases Int.le_total 0 a with h | h
  · exact Int.mul_nonneg h h
  · have := Int.mul_nonneg (show 0 ≤ -a by omega) (show 0 ≤ -a by omega); rwa [Int.neg_mul_neg] at this
theorem sq_zero {a : Int} (h : a * a = 0) : a = 0 := by
  rcases Int.mul_eq_zero.1 h with h | h <;> exact h
theorem pair_row (a : Int) (l : List Int) : 0 ≤ (l.map fun b => (a - b) * (a - b)).sum := sum_nonneg _ (fun x hx => by
  obtain ⟨b, _, rfl⟩ := List.mem_map.1 hx; exact sq_nonneg _)
theorem dif_nonneg (l : List Int) : 0 ≤ difI l := by
  rw [← pair_dif]; exact sum_nonneg _ (fun x hx => by obtain ⟨a, _, rfl⟩ := List.mem_map.1 hx; exact pair_row a l)
/-- All numbers of a list are equal. -/
def allEq (l : List Int) : Prop := ∀ a ∈ l, ∀ b ∈ l, a = b
theorem dif_zero (l : List Int) : difI l = 0 ↔ allEq l := by
  rw [← pair_dif]
  constructor
  · intro h a ha b hb
    have h1 := sum_zero _ (fun x hx => by obtain ⟨a, _, rfl⟩ := List.mem_map.1 hx; exact pair_row a l) h _ (List.mem_map.2 ⟨a, ha, rfl⟩)
    have h2 := sum_zero _ (fun x hx => by obtain ⟨b, _, rfl⟩ := List.mem_map.1 hx; exact sq_nonneg _) h1 _ (List.mem_map.2 ⟨b, hb, rfl⟩)
    have := sq_zero h2
    omega
  · intro h
    unfold pairI
    have : (fun a => (l.map fun b => (a - b) * (a - b)).sum) = fun a => (l.map fun b => (a - b) * (a - b)).sum := rfl
    have e : (l.map fun a => (l.map fun b => (a - b) * (a - b)).sum) = l.map fun _ => (0 : Int) := List.map_congr_left fun a ha => by
      have e2 : (l.map fun b => (a - b) * (a - b)) = l.map fun _ => (0 : Int) := List.map_congr_left fun b hb => by
        rw [h a ha b hb, Int.sub_self]; rfl
      rw [e2]; exact sum_const0 l
    rw [e]; exact sum_const0 l
theorem div_pos (n : Nat) (h1 : 2 ≤ n) (h2 : n ≤ 500) : 1 ≤ 27720 / ((n : Int) - 1) ∧ 27720 / ((n : Int) - 1) ≤ 27720 := by
  have h3 : (0 : Int) < (n : Int) - 1 := by omega
  exact ⟨(Int.le_ediv_iff_mul_le h3).2 (by omega), Int.ediv_le_self _ (by omega)⟩
theorem agW_nonneg {f : Nat → List Int} (hl : ∀ p, (f p).length ≤ 500) : ∀ k, 0 ≤ agW f k
  | 0 => Int.le_refl _
  | k + 1 => by
    show 0 ≤ agW f k + _
    have ih := agW_nonneg hl k
    split
    · omega
    · have h := div_pos (f k).length (by omega) (hl k)
      have := Int.mul_nonneg (dif_nonneg (f k)) (show 0 ≤ 27720 / (((f k).length : Int) - 1) by omega)
      omega
theorem agW_zero {f : Nat → List Int} (hl : ∀ p, (f p).length ≤ 500) : ∀ k, agW f k = 0 ↔ ∀ p, p < k → 2 ≤ (f p).length → allEq (f p)
  | 0 => ⟨fun _ p hp => absurd hp (by omega), fun _ => rfl⟩
  | k + 1 => by
    have ih := agW_zero hl k
    have hn := agW_nonneg hl k
    show agW f k + _ = 0 ↔ _
    by_cases h2 : (f k).length < 2
    · rw [if_pos h2, Int.add_zero, ih]
      constructor
      · intro h p hp hp2
        by_cases e : p = k
        · subst e; omega
        · exact h p (by omega) hp2
      · intro h p hp hp2; exact h p (by omega) hp2
    · rw [if_neg h2]
      have hd := div_pos (f k).length (by omega) (hl k)
      have hnn := dif_nonneg (f k)
      have hm := Int.mul_nonneg hnn (show 0 ≤ 27720 / (((f k).length : Int) - 1) by omega)
      constructor
      · intro h p hp hp2
        by_cases e : p = k
        · subst e
          have h0 : difI (f p) * (27720 / (((f p).length : Int) - 1)) = 0 := by omega
          rcases Int.mul_eq_zero.1 h0 with h | h
          · exact (dif_zero _).1 h
          · omega
        · exact ih.1 (by omega) p (by omega) hp2
      · intro h
        have h1 := ih.2 (fun p hp hp2 => h p (by omega) hp2)
        have h3 := (dif_zero (f k)).2 (h k (by omega) (by omega))
        rw [h1, h3]; simp
theorem lowZ_le {n d : Int} (hd : 0 < d) (h : n ≤ d) : (lowZ n d).1 ≤ (lowZ n d).2 := Int.ediv_le_ediv (by
  have : 0 < Int.gcd n d := Int.gcd_pos_of_ne_zero_right n (by omega); omega) h
theorem lowZ_one {n d : Int} (hd : 0 < d) : lowZ n d = (1, 1) ↔ n = d := by
  have hg : 0 < Int.gcd n d := Int.gcd_pos_of_ne_zero_right n (by omega)
  unfold lowZ
  constructor
  · intro h
    injection h with h1 h2
    have e1 := Int.ediv_mul_cancel (Int.gcd_dvd_left (a := n) (b := d))
    have e2 := Int.ediv_mul_cancel (Int.gcd_dvd_right (a := n) (b := d))
    rw [h1] at e1
    rw [h2] at e2
    omega
  · rintro rfl
    have e : ((Int.gcd n n : Nat) : Int) = n := by rw [Int.gcd_self]; omega
    rw [e, Int.ediv_self (by omega)]
/-- Agreement is at most 1. -/
theorem agR_le {f : Nat → List Int} (hl : ∀ p, (f p).length ≤ 500) (n : Nat) : (agR f n).1 ≤ (agR f n).2 := by
  unfold agR
  split
  · exact Int.le_refl _
  · rename_i h
    have h1 := dif_nonneg (agA f n)
    have h2 := agW_nonneg hl n
    have h3 : (agA f n).length ≠ 0 := fun e => by
      rw [List.length_eq_zero_iff.1 e] at h; exact h rfl
    have h4 := Int.mul_nonneg (show (0 : Int) ≤ ((agA f n).length : Int) - 1 by omega) h2
    exact lowZ_le (by omega) (by omega)
/-- Agreement is 1 just where no paper has two different scores, or all are equal. -/
theorem agR_one {f : Nat → List Int} (hl : ∀ p, (f p).length ≤ 500) (n : Nat) : agR f n = (1, 1) ↔ allEq (agA f n) ∨ ∀ p, p < n → 2 ≤ (f p).length → allEq (f p) := by
  have h1 := dif_nonneg (agA f n)
  have h2 := agW_nonneg hl n
  unfold agR
  split
  · rename_i h
    exact ⟨fun _ => Or.inl ((dif_zero _).1 (by omega)), fun _ => rfl⟩
  · rename_i h
    rw [lowZ_one (by omega), ← agW_zero hl n, ← dif_zero]
    have h3 : 2 ≤ (agA f n).length := by
      rcases Nat.lt_or_ge (agA f n).length 2 with h4 | h4
      · exfalso
        apply h
        have : difI (agA f n) = 0 := (dif_zero _).2 (fun a ha b hb => by
          match hx : agA f n with
          | [] => rw [hx] at ha; simp at ha
          | [y] => rw [hx] at ha hb; simp at ha hb; rw [ha, hb]
          | _ :: _ :: _ => rw [hx] at h4; simp only [List.length_cons] at h4; omega)
        rw [this]; rfl
      · exact h4
    constructor
    · intro e
      have h5 : (((agA f n).length : Int) - 1) * agW f n = 0 := by omega
      rcases Int.mul_eq_zero.1 h5 with h6 | h6
      · omega
      · exact Or.inr h6
    · rintro (e | e)
      · rw [e] at h; exact absurd rfl h
      · rw [e, Int.mul_zero, Int.sub_zero]
end Go.Proofs.YthhiefpickpiaaaGreatDoor.Cal
