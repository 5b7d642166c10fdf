/-
  SHEETS AND ANSWERS, AS PLAIN FUNCTIONS: what is wrong with them, what is missing, what differs.
-/
import Derived.Test.YthglfcfnejjpjaaGreatDoorQs
import Derived.Test.YthglfcfnejjpjaaGreatDoorKeys
import Derived.Test.YthglfcfnejjpjaaGreatDoorTexts
namespace Go.Proofs.YthglfcfnejjpjaaGreatDoor.Rev
open Go.Proofs.YthglfcfnejjpjaaGreatDoor.Key
set_option linter.unusedVariables false

def eqS (a b : ByteArray) : Bool := a.toList == b.toList
theorem eqS_iff (a b : ByteArray) : eqS a b = true ↔ a = b := by
  unfold eqS
  rw [beq_iff_eq, Lib.toList_data, Lib.toList_data]
  constructor
  · intro h; exact ByteArray.ext (Array.toList_inj.1 h)
  · intro h; rw [h]
theorem eqS_self (a : ByteArray) : eqS a a = true := (eqS_iff a a).2 rfl
theorem eqS_comm (a b : ByteArray) : eqS a b = eqS b a := by
  rw [Bool.eq_iff_iff, eqS_iff, eqS_iff]; exact eq_comm
def hasO (l : List ByteArray) (s : ByteArray) : Bool := l.any fun x => eqS x s
/-- Keys, each one for the first time. -/
def distE (pre : List ByteArray) : List ByteArray → Int
  | [] => 0
  | x :: t => if keyL x.data.toList = false then 5 else if hasO pre x then 6 else distE (pre ++ [x]) t
def mostE (q : Qs) (g : Int) : Int := if q.m < 1 ∨ q.m > g then 1 else if 0 < q.o.length then 3 else 0
def kindE (q : Qs) : Int := if q.d = 1 then mostE q 100 else if q.d = 3 then mostE q 5000 else if q.d = 2 then (if q.m ≠ 0 ∨ q.o.length = 0 then 3 else if 20 < q.o.length then 2 else distE [] q.o) else 4
def hasK (l : List Qs) (k : ByteArray) : Bool := l.any fun x => eqS x.k k
def qE (pre : List Qs) (q : Qs) : Int := if keyL q.k.data.toList = false then 5 else if hasK pre q.k then 6 else kindE q
def sheetsE (pre : List Qs) : List Qs → Int
  | [] => 0
  | x :: t => if qE pre x = 0 then sheetsE (pre ++ [x]) t else qE pre x
/-- What is wrong with a sheet. -/
def sheetE (l : List Qs) : Int := if l.length = 0 then 3 else if 30 < l.length then 2 else sheetsE [] l

/-- The place of a key: of several the last one. -/
def lkQ : List Qs → ByteArray → Option Nat
  | [], _ => none
  | x :: t, s => match lkQ t s with | some i => some (i + 1) | none => if eqS x.k s then some 0 else none
/-- What is wrong with an answer to a question. -/
def ansE (q : Qs) (a : An) : Int :=
  if q.d = 1 then (if a.o.toList = [] ∧ a.w.toList = [] then (if a.n < 0 ∨ q.m < a.n then 1 else 0) else 3)
  else if q.d = 2 then (if a.n = 0 ∧ a.w.toList = [] then (if hasO q.o a.o then 0 else 8) else 3)
  else (if a.n = 0 ∧ a.o.toList = [] then (if a.w.toList = [] ∨ textL a.w.data.toList = false then 3 else if q.m < a.w.size then 2 else 0) else 3)
def answersE (qs : List Qs) (last : Int) : List An → Int
  | [] => 0
  | a :: t => match lkQ qs a.q with
    | none => 8
    | some p => if (p : Int) ≤ last then 7 else if ansE (qs.getD p ⟨⟨#[]⟩, 0, 0, [], false, false⟩) a = 0 then answersE qs p t else ansE (qs.getD p ⟨⟨#[]⟩, 0, 0, [], false, false⟩) a
def ansFault (qs : List Qs) (l : List An) : Int := if 30 < l.length then 2 else answersE qs (-1) l
/-- The first answer to a question. -/
def toQ (l : List An) (k : ByteArray) : Option An := l.find? fun a => eqS a.q k
def missS (qs : List Qs) (l : List An) : List ByteArray := (qs.filter fun q => q.nd && (toQ l q.k).isNone).map (·.k)
def differs (a b : List An) (k : ByteArray) : Bool := match toQ a k, toQ b k with
  | none, none => false
  | some x, some y => !(eqS x.q y.q && (x.n == y.n) && eqS x.o y.o && eqS x.w y.w)
  | _, _ => true
def diffS (qs : List Qs) (a b : List An) : List ByteArray := (qs.filter fun q => differs a b q.k).map (·.k)

theorem hasK_snoc (l : List Qs) (x : Qs) (k : ByteArray) : hasK (l ++ [x]) k = (hasK l k || eqS x.k k) := by unfold hasK; rw [List.any_append]; simp
theorem drop_cons' {α : Type} (l : List α) (k : Nat) (h : k < l.length) : l.drop k = l[k] :: l.drop (k + 1) := List.drop_eq_getElem_cons h
theorem take_snoc' {α : Type} (l : List α) (k : Nat) (h : k < l.length) : l.take (k + 1) = l.take k ++ [l[k]] := by rw [List.take_succ_eq_append_getElem h]
theorem lkQ_some : ∀ (l : List Qs) (s : ByteArray) (i : Nat), lkQ l s = some i → ∃ h : i < l.length, l[i].k = s
  | [], _, _, h => by cases h
  | x :: t, s, i, h => by
    unfold lkQ at h
    cases hl : lkQ t s with
    | some j =>
      rw [hl] at h; injection h with h; subst h
      obtain ⟨hj, he⟩ := lkQ_some t s j hl
      exact ⟨by simp; omega, by simpa using he⟩
    | none =>
      rw [hl] at h
      by_cases hx : eqS x.k s = true
      · simp only [hx, if_true] at h; injection h with h; subst h; exact ⟨by simp, (eqS_iff _ _).1 hx⟩
      · simp only [hx] at h; cases h
theorem lkQ_none : ∀ (l : List Qs) (s : ByteArray), lkQ l s = none → hasK l s = false
  | [], _, _ => rfl
  | y :: t, s, h => by
    unfold lkQ at h
    cases hl : lkQ t s with
    | some j => rw [hl] at h; cases h
    | none =>
      rw [hl] at h
      have := lkQ_none t s hl
      unfold hasK at this ⊢
      rw [List.any_cons, this]
      by_cases hy : eqS y.k s = true
      · simp only [hy, if_true] at h; cases h
      · simp [hy]
theorem lkQ_snoc : ∀ (l : List Qs) (x : Qs) (s : ByteArray), lkQ (l ++ [x]) s = if eqS x.k s then some l.length else lkQ l s
  | [], x, s => by simp [lkQ]
  | y :: t, x, s => by
    show lkQ (y :: (t ++ [x])) s = _
    unfold lkQ
    rw [lkQ_snoc t x s]
    cases eqS x.k s <;> simp
/-- In a right sheet each key is there once, and all questions are of one of the three kinds. -/
theorem sheetsE_ok : ∀ (l pre : List Qs), sheetsE pre l = 0 → ∀ i (h : i < l.length), keyL l[i].k.data.toList = true ∧ hasK (pre ++ l.take i) l[i].k = false ∧ kindE l[i] = 0
  | [], _, _, i, h => by simp at h
  | x :: t, pre, h, i, hi => by
    unfold sheetsE at h
    by_cases h0 : qE pre x = 0
    · rw [if_pos h0] at h
      cases i with
      | zero =>
        unfold qE at h0
        cases h1 : keyL x.k.data.toList <;> cases h2 : hasK pre x.k <;> simp [h1, h2] at h0 ⊢
        exact h0
      | succ i =>
        have := sheetsE_ok t (pre ++ [x]) h i (by simpa using hi)
        simpa using this
    · rw [if_neg h0] at h; exact absurd h h0
theorem kindE_ok {q : Qs} (h : kindE q = 0) : q.d = 1 ∨ q.d = 2 ∨ q.d = 3 := by
  unfold kindE at h
  by_cases h1 : q.d = 1
  · exact Or.inl h1
  by_cases h2 : q.d = 3
  · exact Or.inr (Or.inr h2)
  by_cases h3 : q.d = 2
  · exact Or.inr (Or.inl h3)
  rw [if_neg h1, if_neg h2, if_neg h3] at h; cases h
theorem sheetE_ok {l : List Qs} (h : sheetE l = 0) : sheetsE [] l = 0 ∧ 0 < l.length ∧ l.length ≤ 30 := by
  unfold sheetE at h
  by_cases h1 : l.length = 0
  · rw [if_pos h1] at h; cases h
  by_cases h2 : 30 < l.length
  · rw [if_neg h1, if_pos h2] at h; cases h
  rw [if_neg h1, if_neg h2] at h
  exact ⟨h, by omega, by omega⟩
end Go.Proofs.YthglfcfnejjpjaaGreatDoor.Rev
