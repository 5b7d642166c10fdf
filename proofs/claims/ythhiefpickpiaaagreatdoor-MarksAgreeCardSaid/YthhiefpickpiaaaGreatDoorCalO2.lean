/-
  MARKS: the reference's MeanOf, SpreadOfScores, MedianOf.
-/
import Derived.Test.YthhiefpickpiaaaGreatDoorCalO
import Derived.Deep.QuietTactic
import Derived.BigQuiet
namespace Go.Proofs.YthhiefpickpiaaaGreatDoor.Cal
open Go.ChangeShapes Go.WideShapes Go.ChangeAt Go.RowKit Stm Key
set_option linter.unusedVariables false

theorem scB_pos {l : List Mk} {p : ByteArray} (h : p ∈ papersL l) : 1 ≤ (scB l p).length := by
  have h2 : p ∈ l.map Mk.p := (dedB_mem _ _).1 h
  obtain ⟨x, hx, rfl⟩ := List.mem_map.1 h2
  unfold scB
  rw [List.length_map]
  exact List.length_pos_of_mem (List.mem_filter.2 ⟨hx, eqB_self _⟩)
/-- A fraction handed back. -/
def FRet (u : Int × Int) (w : World) (e : Ending) (w' : World) : Prop := e = .returned (.agg #[.int .i64 u.1, .int .i64 u.2]) ∧ Below w.heap.size w w'
def rowQ (l : List Int) (a : Int) : Int := (l.map fun b => (a - b) * (a - b)).sum
def allQ (l m : List Int) : Int := (m.map (rowQ l)).sum
theorem allQ_self (l : List Int) : allQ l l = difI l := pair_dif l
theorem rowQ_next {l : List Int} {k : Nat} (h : k < l.length) (a : Int) : rowQ (l.take (k + 1)) a = rowQ (l.take k) a + (a - l[k]) * (a - l[k]) := by
  unfold rowQ; rw [take_next l k h, List.map_append, List.sum_append]; simp
theorem allQ_next (l : List Int) {m : List Int} {k : Nat} (h : k < m.length) : allQ l (m.take (k + 1)) = allQ l (m.take k) + rowQ l m[k] := by
  unfold allQ; rw [take_next m k h, List.map_append, List.sum_append]; simp
theorem sq_bd {a b : Int} (ha : 0 ≤ a ∧ a ≤ 10) (hb : 0 ≤ b ∧ b ≤ 10) : 0 ≤ (a - b) * (a - b) ∧ (a - b) * (a - b) ≤ 100 := by
  refine ⟨sq_nonneg _, ?_⟩
  obtain ⟨c, hc⟩ : ∃ c, a - b = c := ⟨_, rfl⟩
  rw [hc]
  rcases Int.le_total 0 c with h | h
  · have := Int.mul_le_mul (show c ≤ 10 by omega) (show c ≤ 10 by omega) h (by omega); omega
  · have := Int.mul_le_mul (show -c ≤ 10 by omega) (show -c ≤ 10 by omega) (by omega) (by omega)
    rw [Int.neg_mul_neg] at this; omega
theorem rowQ_bd {a : Int} (ha : 0 ≤ a ∧ a ≤ 10) : ∀ l : List Int, (∀ x ∈ l, 0 ≤ x ∧ x ≤ 10) → 0 ≤ rowQ l a ∧ rowQ l a ≤ 100 * l.length
  | [], _ => by simp [rowQ]
  | b :: t, h => by
    have ih := rowQ_bd ha t (fun y hy => h y (List.mem_cons_of_mem _ hy))
    have hb := sq_bd ha (h b (List.mem_cons_self ..))
    unfold rowQ at *
    rw [List.map_cons, List.sum_cons, List.length_cons]
    omega
theorem allQ_bd (l : List Int) (hl : ∀ x ∈ l, 0 ≤ x ∧ x ≤ 10) (n : Nat) (hn : l.length ≤ n) : ∀ m : List Int, (∀ x ∈ m, 0 ≤ x ∧ x ≤ 10) → 0 ≤ allQ l m ∧ allQ l m ≤ 100 * n * m.length
  | [], _ => by simp [allQ]
  | b :: t, h => by
    have ih := allQ_bd l hl n hn t (fun y hy => h y (List.mem_cons_of_mem _ hy))
    have hb := rowQ_bd (h b (List.mem_cons_self ..)) l hl
    unfold allQ at *
    rw [List.map_cons, List.sum_cons, List.length_cons]
    have e : (100 * (n : Int) * ((t.length + 1 : Nat) : Int)) = 100 * (n : Int) * (t.length : Int) + 100 * (n : Int) := by rw [Int.natCast_add, Int.mul_add]; simp
    rw [e]
    omega
end Go.Proofs.YthhiefpickpiaaaGreatDoor.Cal
