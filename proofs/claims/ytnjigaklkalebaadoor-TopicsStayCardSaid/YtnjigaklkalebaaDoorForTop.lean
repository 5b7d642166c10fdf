/-
  FORESTS OF TOPICS, AS PLAIN FUNCTIONS: what the program does with them, what the reference does, and that both are one.
-/
import Derived.Test.YtnjigaklkalebaaDoorForest
import Derived.Test.YtnjigaklkalebaaDoorLess
import Derived.Sort.Walk0
namespace Go.Proofs.YtnjigaklkalebaaDoor.For
open Go.Proofs.YtnjigaklkalebaaDoor.Key
set_option linter.unusedVariables false

structure Tp where
  k : ByteArray
  a : ByteArray
def eqB (a b : ByteArray) : Bool := a.toList == b.toList
theorem eqB_iff (a b : ByteArray) : eqB a b = true ↔ a = b := by
  unfold eqB
  rw [beq_iff_eq, Lib.toList_data, Lib.toList_data]
  constructor
  · intro h; exact ByteArray.ext (Array.toList_inj.1 h)
  · intro h; rw [h]
theorem eqB_self (a : ByteArray) : eqB a a = true := (eqB_iff a a).2 rfl
/-- The number of a key (of several the last one). -/
def lk : List Tp → ByteArray → Option Nat
  | [], _ => none
  | x :: t, s => match lk t s with | some i => some (i + 1) | none => if eqB x.k s then some 0 else none
def parOf (l : List Tp) (a : ByteArray) : Int := if a.toList.isEmpty then -1 else match lk l a with | some p => (p : Int) | none => -1
def pars (l : List Tp) : List Int := l.map fun x => parOf l x.a
def misses (l : List Tp) (x : Tp) : Bool := !x.a.toList.isEmpty && (lk l x.a).isNone
def hasLoop (P : List Int) : Bool := (List.range P.length).any fun i => lf P P.length i
def topicE (x : Tp) (last : ByteArray) : Int := if keyL x.k.data.toList = false then 5 else if x.a.toList.isEmpty = false ∧ keyL x.a.data.toList = false then 5 else if leB x.k last then 7 else 0
def topicsE (last : ByteArray) : List Tp → Int
  | [] => 0
  | x :: t => if topicE x last = 0 then topicsE x.k t else topicE x last
def deeps (P : List Int) : Bool := (List.range P.length).any fun i => decide (5 < (way P i).length)
/-- What is wrong with a forest. -/
def forestE (l : List Tp) : Int :=
  if 100 < l.length then 2 else if topicsE ⟨#[]⟩ l ≠ 0 then topicsE ⟨#[]⟩ l else if l.any (misses l) then 8 else if hasLoop (pars l) then 14 else if deeps (pars l) then 2 else 0

/- THE REFERENCE -/
def topOf (l : List Tp) (s : ByteArray) : Option Tp := l.find? fun x => eqB x.k s
def abv (l : List Tp) : Nat → ByteArray → List ByteArray
  | 0, _ => []
  | f + 1, s => match topOf l s with | none => [] | some t => s :: abv l f t.a
def has (l : List ByteArray) (s : ByteArray) : Bool := l.any fun x => eqB x s
def forestR (l : List Tp) : Int :=
  if 100 < l.length then 2 else if topicsE ⟨#[]⟩ l ≠ 0 then topicsE ⟨#[]⟩ l else if l.any (fun x => !x.a.toList.isEmpty && (topOf l x.a).isNone) then 8
  else if l.any (fun x => has (abv l (l.length + 1) x.k).tail x.k) then 14 else if l.any (fun x => decide (5 < (abv l (l.length + 1) x.k).length)) then 2 else 0

/- KEYS THAT RISE ARE DIFFERENT -/
theorem leB_no {a b : ByteArray} (h : leB a b = false) : b.data.toList < a.data.toList := by
  unfold leB at h
  rw [bytesLess_eq, Lib.toList_data, Lib.toList_data, Bool.or_eq_false_iff] at h
  have h1 : ¬ a.data.toList < b.data.toList := by simpa using h.1
  have h2 : a.data.toList ≠ b.data.toList := by simpa using h.2
  rcases Std.Trichotomous.rel_or_eq_or_rel_swap (r := fun (x y : List UInt8) => x < y) (a := a.data.toList) (b := b.data.toList) with h | h | h
  · exact absurd h h1
  · exact absurd h h2
  · exact h
theorem topicE_ok {x : Tp} {last : ByteArray} (h : topicE x last = 0) : keyL x.k.data.toList = true ∧ last.data.toList < x.k.data.toList := by
  unfold topicE at h
  split at h
  · cases h
  · rename_i h1
    split at h
    · cases h
    · split at h
      · cases h
      · rename_i h3; exact ⟨by simpa using h1, leB_no (by simpa using h3)⟩
theorem rising_gt : ∀ (l : List Tp) (last : ByteArray), topicsE last l = 0 → ∀ x ∈ l, last.data.toList < x.k.data.toList ∧ keyL x.k.data.toList = true
  | [], _, _, x, hx => by simp at hx
  | y :: t, last, h, x, hx => by
    unfold topicsE at h
    split at h
    · rename_i h0
      have hy := topicE_ok h0
      rcases List.mem_cons.1 hx with rfl | hx
      · exact ⟨hy.2, hy.1⟩
      · have := rising_gt t y.k h x hx
        exact ⟨List.lt_trans hy.2 this.1, this.2⟩
    · rename_i h0; exact absurd h h0
/-- Different places have different keys, and no key is empty. -/
def Dist (l : List Tp) : Prop := (∀ i j (hi : i < l.length) (hj : j < l.length), l[i].k = l[j].k → i = j) ∧ ∀ x ∈ l, x.k.toList.isEmpty = false
theorem rising_dist : ∀ (l : List Tp) (last : ByteArray), topicsE last l = 0 → Dist l
  | [], _, _ => ⟨fun i j hi => absurd hi (by simp), by simp⟩
  | y :: t, last, h => by
    unfold topicsE at h
    split at h
    · rename_i h0
      have hg := rising_gt t y.k h
      have ih := rising_dist t y.k h
      have hk : ∀ x : Tp, keyL x.k.data.toList = true → x.k.toList.isEmpty = false := fun x hx => by
        rw [Lib.toList_data]; cases hl : x.k.data.toList with
        | nil => rw [hl] at hx; cases hx
        | cons => rfl
      refine ⟨fun i j hi hj he => ?_, fun x hx => ?_⟩
      · cases i with
        | zero =>
          cases j with
          | zero => rfl
          | succ j =>
            have hj' : j < t.length := by simpa using hj
            have h1 := (hg t[j] (List.getElem_mem hj')).1
            have he : y.k = t[j].k := by simpa using he
            rw [he] at h1; exact absurd h1 (List.lt_irrefl _)
        | succ i =>
          cases j with
          | zero =>
            have hi' : i < t.length := by simpa using hi
            have h1 := (hg t[i] (List.getElem_mem hi')).1
            have he : t[i].k = y.k := by simpa using he
            rw [he] at h1; exact absurd h1 (List.lt_irrefl _)
          | succ j =>
            have := ih.1 i j (by simpa using hi) (by simpa using hj) (by simpa using he)
            omega
      · rcases List.mem_cons.1 hx with rfl | hx
        · exact hk _ (topicE_ok h0).1
        · exact ih.2 x hx
    · rename_i h0; exact absurd h h0

/- A KEY'S NUMBER -/
theorem lk_some : ∀ (l : List Tp) (s : ByteArray) (i : Nat), lk l s = some i → ∃ h : i < l.length, l[i].k = s
  | [], _, _, h => by cases h
  | x :: t, s, i, h => by
    unfold lk at h
    cases hl : lk t s with
    | some j =>
      rw [hl] at h; injection h with h; subst h
      obtain ⟨hj, he⟩ := lk_some t s j hl
      exact ⟨by simp; omega, by simpa using he⟩
    | none =>
      rw [hl] at h
      by_cases hx : eqB x.k s = true
      · simp only [hx, if_true] at h; injection h with h; subst h; exact ⟨by simp, (eqB_iff _ _).1 hx⟩
      · simp only [hx] at h; cases h
theorem lk_none : ∀ (l : List Tp) (s : ByteArray), lk l s = none → ∀ x ∈ l, eqB x.k s = false
  | [], _, _, x, hx => by simp at hx
  | y :: t, s, h, x, hx => by
    unfold lk at h
    cases hl : lk t s with
    | some j => rw [hl] at h; cases h
    | none =>
      rw [hl] at h
      rcases List.mem_cons.1 hx with rfl | hx
      · by_cases hy : eqB x.k s = true
        · simp only [hy, if_true] at h; cases h
        · simpa using hy
      · exact lk_none t s hl x hx
theorem lk_snoc : ∀ (l : List Tp) (x : Tp) (s : ByteArray), lk (l ++ [x]) s = if eqB x.k s then some l.length else lk l s
  | [], x, s => by simp [lk]
  | y :: t, x, s => by
    show lk (y :: (t ++ [x])) s = _
    unfold lk
    rw [lk_snoc t x s]
    cases eqB x.k s <;> simp
theorem lk_at {l : List Tp} (hD : Dist l) {i : Nat} (hi : i < l.length) : lk l l[i].k = some i := by
  cases h : lk l l[i].k with
  | none => have := lk_none l _ h l[i] (List.getElem_mem hi); rw [eqB_self] at this; cases this
  | some j => obtain ⟨hj, he⟩ := lk_some l _ j h; rw [hD.1 j i hj hi he]
theorem topOf_lk {l : List Tp} (hD : Dist l) (s : ByteArray) : topOf l s = (lk l s).bind fun i => l[i]? := by
  unfold topOf
  cases h : lk l s with
  | none => rw [List.find?_eq_none.2 (fun x hx => by simp [lk_none l s h x hx])]; rfl
  | some i =>
    obtain ⟨hi, he⟩ := lk_some l s i h
    cases hf : l.find? (fun x => eqB x.k s) with
    | none => have := List.find?_eq_none.1 hf l[i] (List.getElem_mem hi); simp [he, eqB_self] at this
    | some x =>
      have hx := List.mem_of_find?_eq_some hf
      have hk := List.find?_some hf
      obtain ⟨j, hj, hxj⟩ := List.getElem_of_mem hx
      have : j = i := hD.1 j i hj hi (by rw [hxj, (eqB_iff _ _).1 hk, he])
      subst this
      simp [hxj, List.getElem?_eq_getElem hi]
theorem topOf_none {l : List Tp} (hD : Dist l) (s : ByteArray) : (topOf l s).isNone = (lk l s).isNone := by
  rw [topOf_lk hD]
  cases h : lk l s with
  | none => rfl
  | some i => obtain ⟨hi, _⟩ := lk_some l s i h; simp [List.getElem?_eq_getElem hi]
theorem topOf_empty {l : List Tp} (hD : Dist l) {s : ByteArray} (hs : s.toList.isEmpty = true) : topOf l s = none := by
  unfold topOf
  refine List.find?_eq_none.2 fun x hx => ?_
  intro he
  have e := (eqB_iff _ _).1 he
  have := hD.2 x hx
  rw [e, hs] at this; cases this
theorem pars_len (l : List Tp) : (pars l).length = l.length := by simp [pars]
theorem parOf_range (l : List Tp) (a : ByteArray) (hl : 0 < l.length) : -1 ≤ parOf l a ∧ parOf l a < l.length := by
  unfold parOf
  split
  · omega
  · cases h : lk l a with
    | none => simp; omega
    | some p => obtain ⟨hp, _⟩ := lk_some l a p h; simp only []; omega
theorem pars_get (l : List Tp) {i : Nat} (hi : i < l.length) : (pars l).getD i (-1) = parOf l l[i].a := by
  simp [pars, List.getD, List.getElem?_map, List.getElem?_eq_getElem hi]
theorem pars_good (l : List Tp) : Good (pars l) := fun i hi => by
  rw [pars_len] at hi ⊢
  rw [pars_get l hi]
  exact parOf_range l _ (by omega)
theorem up_pars (l : List Tp) {i : Nat} (hi : i < l.length) : up (pars l) i = parOf l l[i].a := by
  unfold up; rw [Int.toNat_natCast]; exact pars_get l hi
def keysOf (l : List Tp) (L : List Int) : List ByteArray := L.map fun j => (l.getD j.toNat ⟨⟨#[]⟩, ⟨#[]⟩⟩).k
/-- What the reference finds above a topic is what is on its way. -/
theorem abv_pth {l : List Tp} (hD : Dist l) (hM : l.any (misses l) = false) : ∀ (f : Nat) (i : Nat) (hi : i < l.length), abv l f l[i].k = keysOf l (pth (pars l) f i)
  | 0, i, hi => rfl
  | f + 1, i, hi => by
    have h1 : topOf l l[i].k = some l[i] := by rw [topOf_lk hD, lk_at hD hi]; simp [List.getElem?_eq_getElem hi]
    have hp : ((i : Nat) : Int) ≠ -1 := by omega
    simp only [abv, h1, pth, if_neg hp]
    rw [up_pars l hi]
    have hk : (l.getD ((i : Nat) : Int).toNat ⟨⟨#[]⟩, ⟨#[]⟩⟩).k = l[i].k := by simp [List.getD, List.getElem?_eq_getElem hi]
    show l[i].k :: abv l f l[i].a = _
    unfold keysOf
    rw [List.map_cons, hk]
    congr 1
    unfold parOf
    by_cases he : l[i].a.toList.isEmpty = true
    · rw [if_pos he, pth_neg]
      cases f with
      | zero => rfl
      | succ f => simp only [abv, topOf_empty hD he]; rfl
    · rw [if_neg he]
      cases hl : lk l l[i].a with
      | none =>
        have : misses l l[i] = true := by unfold misses; simp [he, hl]
        have hA := List.any_eq_false.1 hM l[i] (List.getElem_mem hi)
        exact absurd this hA
      | some j =>
        obtain ⟨hj, hkj⟩ := lk_some l _ j hl
        show abv l f l[i].a = keysOf l (pth (pars l) f (j : Int))
        rw [← hkj]
        exact abv_pth hD hM f j hj
theorem has_keys {l : List Tp} (hD : Dist l) {L : List Int} (hL : ∀ x ∈ L, 0 ≤ x ∧ x < l.length) {i : Nat} (hi : i < l.length) : has (keysOf l L) l[i].k = L.contains (i : Int) := by
  rw [Bool.eq_iff_iff]
  unfold has keysOf
  rw [List.any_map, List.any_eq_true, List.contains_iff_mem]
  have hg : ∀ x ∈ L, ∃ h : x.toNat < l.length, (l.getD x.toNat ⟨⟨#[]⟩, ⟨#[]⟩⟩).k = l[x.toNat].k := fun x hx => by
    have := hL x hx
    exact ⟨by omega, by simp [List.getD, List.getElem?_eq_getElem (show x.toNat < l.length by omega)]⟩
  constructor
  · rintro ⟨x, hx, he⟩
    obtain ⟨h, hk⟩ := hg x hx
    have he := (eqB_iff _ _).1 (show eqB (l.getD x.toNat ⟨⟨#[]⟩, ⟨#[]⟩⟩).k l[i].k = true from he)
    rw [hk] at he
    have := hD.1 _ _ h hi he
    have h0 := hL x hx
    have e : x = (i : Int) := by omega
    rw [← e]; exact hx
  · intro hx
    refine ⟨i, hx, ?_⟩
    obtain ⟨h, hk⟩ := hg i hx
    show eqB (l.getD ((i : Nat) : Int).toNat ⟨⟨#[]⟩, ⟨#[]⟩⟩).k l[i].k = true
    rw [hk]; simp [eqB_self]
theorem any_get {α : Type} (l : List α) (p : α → Bool) : l.any p = (List.range l.length).any (fun i => if h : i < l.length then p l[i] else false) := by
  rw [Bool.eq_iff_iff, List.any_eq_true, List.any_eq_true]
  constructor
  · rintro ⟨x, hx, hp⟩
    obtain ⟨i, hi, rfl⟩ := List.getElem_of_mem hx
    exact ⟨i, by simpa using hi, by simpa [hi] using hp⟩
  · rintro ⟨i, hi, hp⟩
    have hi' : i < l.length := by simpa using hi
    exact ⟨l[i], List.getElem_mem _, by simpa [hi'] using hp⟩
theorem NL_of {P : List Int} (h : hasLoop P = false) : NL P := fun i hi => by
  have := List.any_eq_false.1 h i (by simpa using hi)
  simpa using this
theorem abv_way {l : List Tp} (hD : Dist l) (hM : l.any (misses l) = false) (hN : NL (pars l)) {i : Nat} (hi : i < l.length) : abv l (l.length + 1) l[i].k = keysOf l (way (pars l) i) := by
  rw [abv_pth hD hM (l.length + 1) i hi]
  have := hN i (by rw [pars_len]; exact hi)
  rw [pars_len] at this
  rw [pth_stop _ _ _ this]
  unfold way; rw [pars_len]
theorem forest_same (l : List Tp) : forestR l = forestE l := by
  unfold forestR forestE
  by_cases h1 : 100 < l.length
  · simp only [h1, if_true]
  by_cases h3 : topicsE ⟨#[]⟩ l ≠ 0
  · rw [if_neg h1, if_neg h1, if_pos h3, if_pos h3]
  have h2 : topicsE ⟨#[]⟩ l = 0 := by simpa using h3
  have hD := rising_dist l _ h2
  rw [if_neg h1, if_neg h1, if_neg h3, if_neg h3]
  have e1 : l.any (fun x => !x.a.toList.isEmpty && (topOf l x.a).isNone) = l.any (misses l) := by
    congr 1; funext x; unfold misses; rw [topOf_none hD]
  rw [e1]
  cases hM : l.any (misses l) with
  | true => rfl
  | false =>
  simp only [Bool.false_eq_true, if_false]
  have e2 : l.any (fun x => has (abv l (l.length + 1) x.k).tail x.k) = hasLoop (pars l) := by
    have h3 := loop_iff (pars_good l)
    rw [Bool.eq_iff_iff, List.any_eq_true]
    have key : ∀ i (hi : i < l.length), has (abv l (l.length + 1) l[i].k).tail l[i].k = (pth (pars l) l.length (up (pars l) i)).contains (i : Int) := fun i hi => by
      rw [abv_pth hD hM (l.length + 1) i hi]
      have hp : ((i : Nat) : Int) ≠ -1 := by omega
      simp only [pth, if_neg hp]
      show has (keysOf l (pth (pars l) l.length (up (pars l) i))) l[i].k = _
      have hr := up_range (pars_good l) (p := i) (by omega) (by rw [pars_len]; omega)
      exact has_keys hD (fun x hx => by have := pth_range (pars_good l) _ _ x hr.1 hr.2 hx; rw [pars_len] at this; exact this) hi
    unfold hasLoop
    rw [List.any_eq_true]
    rw [pars_len] at h3 ⊢
    constructor
    · rintro ⟨x, hx, hp⟩
      obtain ⟨i, hi, rfl⟩ := List.getElem_of_mem hx
      rw [key i hi, List.contains_iff_mem] at hp
      obtain ⟨j, hj, hl⟩ := h3.2 ⟨i, hi, hp⟩
      exact ⟨j, by simpa using hj, hl⟩
    · rintro ⟨j, hj, hl⟩
      obtain ⟨i, hi, hp⟩ := h3.1 ⟨j, by simpa using hj, hl⟩
      exact ⟨l[i], List.getElem_mem _, by rw [key i hi, List.contains_iff_mem]; exact hp⟩
  rw [e2]
  cases hL : hasLoop (pars l) with
  | true => rfl
  | false =>
  simp only [Bool.false_eq_true, if_false]
  have hN := NL_of hL
  have e3 : l.any (fun x => decide (5 < (abv l (l.length + 1) x.k).length)) = deeps (pars l) := by
    unfold deeps
    rw [any_get, pars_len]
    have key : ∀ i, i ∈ List.range l.length → (if h : i < l.length then decide (5 < (abv l (l.length + 1) l[i].k).length) else false) = decide (5 < (way (pars l) i).length) := fun i hi => by
      have hi' : i < l.length := by simpa using hi
      rw [dif_pos hi', abv_way hD hM hN hi']
      simp [keysOf]
    rw [Bool.eq_iff_iff, List.any_eq_true, List.any_eq_true]
    constructor
    · rintro ⟨i, hi, h⟩; exact ⟨i, hi, by rw [← key i hi]; exact h⟩
    · rintro ⟨i, hi, h⟩; exact ⟨i, hi, by rw [key i hi]; exact h⟩
  rw [e3]
end Go.Proofs.YtnjigaklkalebaaDoor.For
