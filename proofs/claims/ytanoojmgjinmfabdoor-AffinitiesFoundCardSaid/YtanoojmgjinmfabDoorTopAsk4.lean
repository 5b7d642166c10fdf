/-
  THE CONTRACTS OF Above AND Below.
-/
import Derived.Test.YtanoojmgjinmfabDoorTopAsk3
namespace Go.Proofs.YtanoojmgjinmfabDoor.For
open Go.ChangeShapes Go.WideShapes Go.ChangeAt Go.RowKit Stm Key
set_option linter.unusedVariables false

theorem infoS : (Tryd.prog.info? 9).map (fun i => (i.zero, i.size, i.bytes)) = some (some (.string ⟨#[]⟩), 1, 16) := by kernel_rfl
theorem row_sl {w : World} {base n cap : Nat} {A : Option Addr} {ss : List ByteArray} (h : w.ownsRow base 9 1 (.slice A n cap) n (ss.map Value.string)) (L : ss.length = n) (hsz : ∀ x ∈ ss, x.size ≤ 1000) : SL w A ss := by
  refine ⟨hsz, fun h0 => ?_⟩
  obtain ⟨g, cap', hv, _, hlt⟩ := h.form (by omega)
  have hA : A = some ⟨g, 0, none⟩ := by injection hv
  subst hA
  refine ⟨g, rfl, hlt, fun i hi => ?_⟩
  have e1 := h.cells (g := g) rfl i (.string ss[i]) (by simp [List.getElem?_eq_getElem hi])
  rw [row_add] at e1
  exact e1
/-- A slice of strings that was made. -/
def StrsRet (r : Int) (Q : List ByteArray → Prop) (w : World) (e : Ending) (w' : World) : Prop := ∃ (A : Option Addr) (m c : Nat) (ss : List ByteArray), e = .returned (.tuple #[.slice A m c, .int .i64 r]) ∧ ss.length = m ∧ m ≤ 1000 ∧ m ≤ c ∧ SL w' A ss ∧ (r = 0 → Q ss) ∧ Below w.heap.size w w'
theorem keysOf_le {l : List Tp} (h : ∀ x ∈ l, x.k.size ≤ 1000 ∧ x.a.size ≤ 1000) (W : List Int) : ∀ s ∈ keysOf l W, s.size ≤ 1000 := by
  intro s hs
  obtain ⟨j, hj, rfl⟩ := List.mem_map.1 hs
  show (l.getD j.toNat ⟨⟨#[]⟩, ⟨#[]⟩⟩).k.size ≤ 1000
  rcases Nat.lt_or_ge j.toNat l.length with h1 | h1
  · simp only [List.getD, List.getElem?_eq_getElem h1, Option.getD_some]; exact (h _ (List.getElem_mem h1)).1
  · simp [List.getD, List.getElem?_eq_none h1]; decide
theorem keysOf_next {l : List Tp} {W : List Int} {k : Nat} (h : k < W.length) {q : Nat} (hq : W[k] = q) (hl : q < l.length) : (keysOf l W).take (k + 1) = (keysOf l W).take k ++ [l[q].k] := by
  have hk : k < (keysOf l W).length := by simp [keysOf]; exact h
  rw [take_next _ _ hk]
  congr 1
  simp [keysOf, hq, List.getD, List.getElem?_eq_getElem hl]

/-- The keys of the first k topics that are below (or are) one. -/
def belS (l : List Tp) (top k : Nat) : List ByteArray := ((List.range k).filter (fun i => (way (pars l) (i : Nat)).contains (top : Int))).map (fun i => (l.getD i ⟨⟨#[]⟩, ⟨#[]⟩⟩).k)
theorem belS_next {l : List Tp} {top k : Nat} (h : k < l.length) : belS l top (k + 1) = if (way (pars l) (k : Nat)).contains (top : Int) then belS l top k ++ [l[k].k] else belS l top k := by
  unfold belS
  rw [List.range_succ, List.filter_append, List.map_append]
  cases hc : (way (pars l) (k : Nat)).contains (top : Int) with
  | true =>
    have : [k].filter (fun i => (way (pars l) (i : Nat)).contains (top : Int)) = [k] := by rw [List.filter_cons_of_pos (by exact hc)]; rfl
    rw [this]; simp [List.getD, List.getElem?_eq_getElem h]
  | false =>
    have : [k].filter (fun i => (way (pars l) (i : Nat)).contains (top : Int)) = [] := by rw [List.filter_cons_of_neg (by rw [hc]; simp)]; rfl
    rw [this]; simp
theorem belS_len (l : List Tp) (top k : Nat) : (belS l top k).length ≤ k := by
  unfold belS; rw [List.length_map]; exact Nat.le_trans (List.length_filter_le _ _) (by simp)
theorem belS_le {l : List Tp} (h : ∀ x ∈ l, x.k.size ≤ 1000 ∧ x.a.size ≤ 1000) (top k : Nat) : ∀ s ∈ belS l top k, s.size ≤ 1000 := by
  intro s hs
  obtain ⟨j, hj, rfl⟩ := List.mem_map.1 hs
  rcases Nat.lt_or_ge j l.length with h1 | h1
  · simp only [List.getD, List.getElem?_eq_getElem h1, Option.getD_some]; exact (h _ (List.getElem_mem h1)).1
  · simp [List.getD, List.getElem?_eq_none h1]; decide

end Go.Proofs.YtanoojmgjinmfabDoor.For
