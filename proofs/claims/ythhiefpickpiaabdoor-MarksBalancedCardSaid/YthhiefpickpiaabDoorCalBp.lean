/-
  MARKS: what Balanced works out, as plain functions.
-/
import Derived.Test.YthhiefpickpiaabDoorCalU
namespace Go.Proofs.YthhiefpickpiaabDoor.Cal
open Go.ChangeShapes Go.WideShapes Go.ChangeAt Go.RowKit Stm Key
set_option linter.unusedVariables false

/-- What the scores of a row are above something of the others, added up. -/
def resS (row : List (Nat × Int)) (o : Nat → Int) : Int := (row.map fun y => 1000000 * y.2 - o y.1).sum
/-- The mean of that, rounded down; 0 without scores. -/
def resI (row : List (Nat × Int)) (o : Nat → Int) : Int := if row.length = 0 then 0 else resS row o / (row.length : Int)
theorem resS_next {row : List (Nat × Int)} {k : Nat} (h : k < row.length) (o : Nat → Int) : resS (row.take (k + 1)) o = resS (row.take k) o + (1000000 * row[k].2 - o row[k].1) := by
  unfold resS; rw [take_next row k h, List.map_append, List.sum_append]; simp
theorem resS_snoc (row : List (Nat × Int)) (y : Nat × Int) (o : Nat → Int) : resS (row ++ [y]) o = resS row o + (1000000 * y.2 - o y.1) := by
  unfold resS; rw [List.map_append, List.sum_append]; simp
theorem resS_bd (o : Nat → Int) (M : Int) : ∀ row : List (Nat × Int), (∀ y ∈ row, (0 ≤ y.2 ∧ y.2 ≤ 10) ∧ -M ≤ o y.1 ∧ o y.1 ≤ M) → -(M * row.length) ≤ resS row o ∧ resS row o ≤ (10000000 + M) * row.length
  | [], _ => by simp [resS]
  | y :: t, h => by
    have ih := resS_bd o M t (fun z hz => h z (List.mem_cons_of_mem _ hz))
    obtain ⟨⟨h1, h2⟩, h3, h4⟩ := h y (List.mem_cons_self ..)
    unfold resS at *
    rw [List.map_cons, List.sum_cons, List.length_cons]
    push_cast
    rw [Int.mul_add, Int.mul_add]
    omega
theorem div_bd {a b L H : Int} (hb : 0 < b) (h1 : L * b ≤ a) (h2 : a ≤ H * b) : L ≤ a / b ∧ a / b ≤ H :=
  ⟨(Int.le_ediv_iff_mul_le hb).2 h1, by
    have := Int.ediv_le_ediv hb h2
    rwa [Int.mul_ediv_cancel _ (by omega)] at this⟩
theorem resI_bd {row : List (Nat × Int)} {o : Nat → Int} {M : Int} (hM : 0 ≤ M) (h : ∀ y ∈ row, (0 ≤ y.2 ∧ y.2 ≤ 10) ∧ -M ≤ o y.1 ∧ o y.1 ≤ M) : -M ≤ resI row o ∧ resI row o ≤ 10000000 + M := by
  unfold resI
  by_cases h0 : row.length = 0
  · rw [if_pos h0]; omega
  · rw [if_neg h0]
    obtain ⟨h1, h2⟩ := resS_bd o M row h
    exact div_bd (by omega) (by rw [Int.neg_mul]; exact h1) h2
/-- Worths and biases after some rounds. -/
def bal (ks hs : List ByteArray) (l : List Mk) : Nat → (Nat → Int) × (Nat → Int)
  | 0 => (fun _ => 0, fun _ => 0)
  | k + 1 => (fun i => resI (rowP ks hs l i) (bal ks hs l k).2, fun j => resI (rowH ks hs l j) (fun i => resI (rowP ks hs l i) (bal ks hs l k).2))
theorem bal_w (ks hs : List ByteArray) (l : List Mk) (k i : Nat) : (bal ks hs l (k + 1)).1 i = resI (rowP ks hs l i) (bal ks hs l k).2 := rfl
theorem bal_b (ks hs : List ByteArray) (l : List Mk) (k j : Nat) : (bal ks hs l (k + 1)).2 j = resI (rowH ks hs l j) (bal ks hs l (k + 1)).1 := rfl
theorem rowP_sc (ks hs : List ByteArray) {l : List Mk} (h : ∀ x ∈ l, 0 ≤ x.s ∧ x.s ≤ 10) (i : Nat) : ∀ y ∈ rowP ks hs l i, 0 ≤ y.2 ∧ y.2 ≤ 10 := by
  intro y hy
  unfold rowP at hy
  obtain ⟨x, hx, rfl⟩ := List.mem_map.1 hy
  exact h x (List.mem_filter.1 hx).1
theorem rowH_sc (ks hs : List ByteArray) {l : List Mk} (h : ∀ x ∈ l, 0 ≤ x.s ∧ x.s ≤ 10) (i : Nat) : ∀ y ∈ rowH ks hs l i, 0 ≤ y.2 ∧ y.2 ≤ 10 := by
  intro y hy
  unfold rowH at hy
  obtain ⟨x, hx, rfl⟩ := List.mem_map.1 hy
  exact h x (List.mem_filter.1 hx).1
theorem bal_bd {ks hs : List ByteArray} {l : List Mk} (h : ∀ x ∈ l, 0 ≤ x.s ∧ x.s ≤ 10) : ∀ k : Nat, (∀ i, -(20000000 * (k : Int)) ≤ (bal ks hs l k).1 i ∧ (bal ks hs l k).1 i ≤ 20000000 * (k : Int)) ∧ (∀ j, -(20000000 * (k : Int)) ≤ (bal ks hs l k).2 j ∧ (bal ks hs l k).2 j ≤ 20000000 * (k : Int))
  | 0 => ⟨fun _ => by simp [bal], fun _ => by simp [bal]⟩
  | k + 1 => by
    have ih := bal_bd (ks := ks) (hs := hs) h k
    have h1 : ∀ i, -(20000000 * (k : Int)) ≤ (bal ks hs l (k + 1)).1 i ∧ (bal ks hs l (k + 1)).1 i ≤ 10000000 + 20000000 * (k : Int) := fun i => by
      rw [bal_w]
      exact resI_bd (by omega) (fun y hy => ⟨rowP_sc ks hs h i y hy, ih.2 y.1⟩)
    have h2 : ∀ j, -(10000000 + 20000000 * (k : Int)) ≤ (bal ks hs l (k + 1)).2 j ∧ (bal ks hs l (k + 1)).2 j ≤ 10000000 + (10000000 + 20000000 * (k : Int)) := fun j => by
      rw [bal_b]
      exact resI_bd (by omega) (fun y hy => ⟨rowH_sc ks hs h j y hy, by have := h1 y.1; omega⟩)
    refine ⟨fun i => ?_, fun j => ?_⟩
    · have := h1 i; push_cast; omega
    · have := h2 j; push_cast; omega
theorem rowP_at {ks hs : List ByteArray} {l : List Mk} (h : ∀ x ∈ l, x.h ∈ hs) (i : Nat) : ∀ y ∈ rowP ks hs l i, y.1 < hs.length := by
  intro y hy
  unfold rowP at hy
  obtain ⟨x, hx, rfl⟩ := List.mem_map.1 hy
  exact (idx_at (h x (List.mem_filter.1 hx).1)).1
theorem rowH_at {ks hs : List ByteArray} {l : List Mk} (h : ∀ x ∈ l, x.p ∈ ks) (i : Nat) : ∀ y ∈ rowH ks hs l i, y.1 < ks.length := by
  intro y hy
  unfold rowH at hy
  obtain ⟨x, hx, rfl⟩ := List.mem_map.1 hy
  exact (idx_at (h x (List.mem_filter.1 hx).1)).1
theorem p_mem (l : List Mk) : ∀ x ∈ l, x.p ∈ papersL l := fun x hx => (dedB_mem _ _).2 (List.mem_map.2 ⟨x, hx, rfl⟩)
theorem h_mem (l : List Mk) : ∀ x ∈ l, x.h ∈ peopleL l := fun x hx => (dedB_mem _ _).2 (List.mem_map.2 ⟨x, hx, rfl⟩)
theorem rowP_len (ks hs : List ByteArray) (l : List Mk) (i : Nat) : (rowP ks hs l i).length ≤ l.length := by unfold rowP; rw [List.length_map]; exact List.length_filter_le _ _
theorem rowH_len (ks hs : List ByteArray) (l : List Mk) (i : Nat) : (rowH ks hs l i).length ≤ l.length := by unfold rowH; rw [List.length_map]; exact List.length_filter_le _ _
/-- Division that rounds towards 0, and then down. -/
theorem floor_eq (a b : Int) (hb : 0 < b) : a / b = if a < a.tdiv b * b then a.tdiv b - 1 else a.tdiv b := by
  have h1 := Int.tmod_add_mul_tdiv a b
  have h2 := Int.emod_add_mul_ediv a b
  have h3 := Int.emod_nonneg a (show b ≠ 0 by omega)
  have h4 := Int.emod_lt_of_pos a hb
  rw [Int.mul_comm] at h1
  have hq : a.tdiv b * b ≤ a ∨ a < a.tdiv b * b := by omega
  have h5 : -b < a.tmod b ∧ a.tmod b < b := tmod_bd a b (by omega)
  split
  · rename_i hlt
    have : a / b * b = a - a % b := by rw [Int.mul_comm]; omega
    have e : (a / b - (a.tdiv b - 1)) * b = a.tmod b + b - a % b := by rw [Int.sub_mul, Int.sub_mul]; omega
    have hz : a / b - (a.tdiv b - 1) = 0 := by
      rcases Int.lt_trichotomy (a / b - (a.tdiv b - 1)) 0 with h | h | h
      · have := Int.mul_le_mul_of_nonneg_right (show a / b - (a.tdiv b - 1) ≤ -1 by omega) (Int.le_of_lt hb); omega
      · exact h
      · have := Int.mul_le_mul_of_nonneg_right (show 1 ≤ a / b - (a.tdiv b - 1) by omega) (Int.le_of_lt hb); omega
    omega
  · rename_i hge
    have : a / b * b = a - a % b := by rw [Int.mul_comm]; omega
    have e : (a / b - a.tdiv b) * b = a.tmod b - a % b := by rw [Int.sub_mul]; omega
    have hz : a / b - a.tdiv b = 0 := by
      rcases Int.lt_trichotomy (a / b - a.tdiv b) 0 with h | h | h
      · have := Int.mul_le_mul_of_nonneg_right (show a / b - a.tdiv b ≤ -1 by omega) (Int.le_of_lt hb); omega
      · exact h
      · have := Int.mul_le_mul_of_nonneg_right (show 1 ≤ a / b - a.tdiv b by omega) (Int.le_of_lt hb); omega
    omega
end Go.Proofs.YthhiefpickpiaabDoor.Cal
