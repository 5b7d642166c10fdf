/-
  THE CONTRACTS OF THE REFERENCE'S BelowOf, MeetOf AND NearOf; what they say in the program's words.
-/
import Derived.Test.YtebfndiaiaegmaaGreatDoorRefFault
namespace Go.Proofs.YtebfndiaiaegmaaGreatDoor.For
open Go.ChangeShapes Go.WideShapes Go.ChangeAt Go.RowKit Stm Key
set_option linter.unusedVariables false

/-- The keys of the first k topics that are below one, as the reference finds them. -/
def belR (l : List Tp) (s : ByteArray) (k : Nat) : List ByteArray := ((l.take k).filter (fun x => has (abv l (l.length + 1) x.k) s)).map (·.k)
theorem belR_next {l : List Tp} {s : ByteArray} {k : Nat} (h : k < l.length) : belR l s (k + 1) = if has (abv l (l.length + 1) l[k].k) s then belR l s k ++ [l[k].k] else belR l s k := by
  unfold belR
  rw [take_next _ _ h, List.filter_append, List.map_append]
  cases hc : has (abv l (l.length + 1) l[k].k) s with
  | true => rw [List.filter_cons_of_pos (by exact hc)]; simp
  | false => rw [List.filter_cons_of_neg (by rw [hc]; simp)]; simp
theorem belR_len (l : List Tp) (s : ByteArray) (k : Nat) : (belR l s k).length ≤ k := by
  unfold belR; rw [List.length_map]; exact Nat.le_trans (List.length_filter_le _ _) (by simp; omega)
theorem belR_le {l : List Tp} (h : ∀ x ∈ l, x.k.size ≤ 1000 ∧ x.a.size ≤ 1000) (s : ByteArray) (k : Nat) : ∀ y ∈ belR l s k, y.size ≤ 1000 := by
  intro y hy
  obtain ⟨x, hx, rfl⟩ := List.mem_map.1 hy
  exact (h x (List.mem_of_mem_take (List.mem_filter.1 hx).1)).1

/-- The first of some keys that is among others. -/
def meetR (l : List Tp) (a b : ByteArray) : ByteArray := ((abv l (l.length + 1) a).find? (fun x => has (abv l (l.length + 1) b) x)).getD ⟨#[]⟩
theorem find_step (ss : List ByteArray) (p : ByteArray → Bool) (k : Nat) (h : k < ss.length) : (ss.drop k).find? p = if p ss[k] then some ss[k] else (ss.drop (k + 1)).find? p := by
  rw [drop_step ss k h, List.find?_cons]; cases p ss[k] <;> rfl

end Go.Proofs.YtebfndiaiaegmaaGreatDoor.For
