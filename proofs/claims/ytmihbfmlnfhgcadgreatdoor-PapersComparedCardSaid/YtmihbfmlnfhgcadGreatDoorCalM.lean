/-
  MARKS AS PLAIN LISTS: strings in order, each once; what is wrong with marks, the program's way and the reference's; how often a paper is there.
-/
import Derived.Test.YtmihbfmlnfhgcadGreatDoorPairO
import Derived.Test.YtmihbfmlnfhgcadGreatDoorKeys
import Derived.Lib.SlicesCompact
import Derived.Lib.Bytealg
import Derived.Maps.Own
import Derived.Maps.OwnOps
import Derived.Maps.OwnSet
namespace Go.Proofs.YtmihbfmlnfhgcadGreatDoor.Cal
open Go.ChangeShapes Go.WideShapes Go.ChangeAt Go.RowKit Stm Key Go.Lib
open Go.Maps (Keyed string_keyed)
set_option linter.unusedVariables false

/-! ### Equal strings; how often one is there -/
def eqB (a b : ByteArray) : Bool := a.toList == b.toList
theorem eqB_iff (a b : ByteArray) : eqB a b = true ↔ a = b := by
  unfold eqB
  rw [beq_iff_eq, Lib.toList_data, Lib.toList_data]
  constructor
  · intro h; exact ByteArray.ext (Array.toList_inj.1 h)
  · intro h; rw [h]
theorem eqB_self (a : ByteArray) : eqB a a = true := (eqB_iff a a).2 rfl
theorem key_ne {a b : ByteArray} (h : eqB a b = false) : (Lit.string b.data.toList) ≠ .string a.data.toList := by
  intro e
  injection e with e
  have : a = b := ByteArray.ext (Array.toList_inj.1 e.symm)
  rw [this, eqB_self] at h; cases h
def cntR (R : List ByteArray) (s : ByteArray) : Nat := (R.filter fun x => eqB x s).length
theorem cntR_cons (x : ByteArray) (t : List ByteArray) (s : ByteArray) : cntR (x :: t) s = cntR t s + (if eqB x s then 1 else 0) := by
  unfold cntR; rw [List.filter_cons]; cases eqB x s <;> simp
theorem cntR_le (R : List ByteArray) (s : ByteArray) : cntR R s ≤ R.length := List.length_filter_le _ _
def mR : List ByteArray → DataW Unit
  | [] => .map []
  | x :: t => (mR t).put (.string x.data.toList) (.lit (.int .i64 ((cntR (x :: t) x : Nat) : Int)))
theorem mR_map : ∀ R, Maps.IsMap (mR R)
  | [] => Maps.isMap_empty
  | x :: t => (mR_map t).put _ _
theorem mR_at (s : ByteArray) : ∀ R, (mR R).atKey (.string s.data.toList) (.lit (.int .i64 0)) = .lit (.int .i64 ((cntR R s : Nat) : Int))
  | [] => rfl
  | x :: t => by
    cases hx : eqB x s with
    | true =>
      have hs : x = s := (eqB_iff _ _).1 hx
      subst hs
      simp only [mR]
      rw [Maps.atKey_put_same (k := .string x.data.toList) (mR_map t) (show WideAt.IsKeyLit (.string _) from trivial)]
    | false =>
      simp only [mR]
      rw [Maps.atKey_put_other (key_ne hx), mR_at s t, cntR_cons, hx]; simp
theorem mR_c {s : ByteArray} {R : List ByteArray} {c : Int} {q : Nat} (h : (mR R).atKey (.string s.data.toList) (.lit (.int .i64 0)) = .lit (.int .i64 c)) (hq : cntR R s = q) : c = q := by
  rw [mR_at s R, hq] at h
  injection h with h; injection h with _ h; exact h.symm
theorem mR_put (x : ByteArray) (R : List ByteArray) (q : Nat) (hq : cntR R x = q) : (mR R).put (.string x.data.toList) (.lit (.int .i64 ((q : Int) + 1))) = mR (x :: R) := by
  show _ = (mR R).put (.string x.data.toList) (.lit (.int .i64 ((cntR (x :: R) x : Nat) : Int)))
  rw [cntR_cons, eqB_self, hq]; rfl
theorem cnt_put (x : ByteArray) (R : List ByteArray) (q : Nat) (hq : cntR R x = q) : cntR (x :: R) x = q + 1 := by rw [cntR_cons, eqB_self, hq]; rfl
theorem keyLaw : Keyed Tryz.prog 9 := string_keyed Tryz.underlying9
theorem zeroI (w : World) : (zeroValue 3).run Tryz.prog w = .ok (.int .i64 0) w := by kernel_rfl
/-- Block M counts strings. -/
def CM (w : World) (M : Nat) (R : List ByteArray) : Prop := w.ownsMap Tryz.prog 9 (plainElem Tryz.prog 3) M R.length (mR R)
theorem CM.below {w w' : World} {M : Nat} {R : List ByteArray} (h : CM w M R) (hb : Below w.heap.size w w') : CM w' M R :=
  h.kept (row := none) ⟨hb.os, hb.tape, hb.output, hb.size, fun k hk _ => hb.block k hk⟩ (by simp)
theorem take_next {α : Type} (l : List α) (k : Nat) (h : k < l.length) : l.take (k + 1) = l.take k ++ [l[k]] := by
  rw [List.take_succ_eq_append_getElem h]
theorem drop_step {α : Type} (l : List α) (k : Nat) (h : k < l.length) : l.drop k = l[k] :: l.drop (k + 1) := List.drop_eq_getElem_cons h


/-! ### Lists of byte lists: order -/
abbrev BL := List UInt8
theorem bl_irrefl (a : BL) : ¬ a < a := List.lt_irrefl a
theorem bl_trans {a b c : BL} (h : a < b) (k : b < c) : a < c := List.lt_trans h k
theorem bl_le_of_lt {a b : BL} (h : a < b) : a ≤ b := List.le_of_lt h
theorem bl_antisymm {a b : BL} (h : a ≤ b) (k : b ≤ a) : a = b := List.le_antisymm h k
theorem bl_lt_of_le_ne {a b : BL} (h : a ≤ b) (k : a ≠ b) : a < b := by
  rcases Classical.em (a < b) with h1 | h1
  · exact h1
  · exact absurd (bl_antisymm h (List.not_lt.1 h1)) k

theorem cmpB_bd : ∀ a b : BL, (compareBytes a b = -1 ∧ a < b) ∨ (compareBytes a b = 0 ∧ a = b) ∨ (compareBytes a b = 1 ∧ b < a)
  | [], [] => Or.inr (Or.inl ⟨rfl, rfl⟩)
  | [], _ :: _ => Or.inl ⟨rfl, List.nil_lt_cons _ _⟩
  | _ :: _, [] => Or.inr (Or.inr ⟨rfl, List.nil_lt_cons _ _⟩)
  | x :: a, y :: b => by
    unfold compareBytes
    by_cases h : x < y
    · rw [if_pos h]; exact Or.inl ⟨rfl, List.Lex.rel h⟩
    · rw [if_neg h]
      by_cases h2 : y < x
      · rw [if_pos h2]; exact Or.inr (Or.inr ⟨rfl, List.Lex.rel h2⟩)
      · rw [if_neg h2]
        have e : x = y := UInt8.le_antisymm (UInt8.not_lt.1 h2) (UInt8.not_lt.1 h)
        subst e
        rcases cmpB_bd a b with ⟨h, k⟩ | ⟨h, k⟩ | ⟨h, k⟩
        · exact Or.inl ⟨h, List.Lex.cons k⟩
        · exact Or.inr (Or.inl ⟨h, by rw [k]⟩)
        · exact Or.inr (Or.inr ⟨h, List.Lex.cons k⟩)
theorem cmpB_swap (a b : BL) : compareBytes b a = - compareBytes a b := by
  rcases cmpB_bd a b with ⟨h, k⟩ | ⟨h, k⟩ | ⟨h, k⟩ <;> rcases cmpB_bd b a with ⟨h2, k2⟩ | ⟨h2, k2⟩ | ⟨h2, k2⟩
  · exact absurd (bl_trans k k2) (bl_irrefl _)
  · subst k2; exact absurd k (bl_irrefl _)
  · rw [h, h2]; rfl
  · subst k; exact absurd k2 (bl_irrefl _)
  · rw [h, h2]; rfl
  · subst k; exact absurd k2 (bl_irrefl _)
  · rw [h, h2]
  · subst k2; exact absurd k (bl_irrefl _)
  · exact absurd (bl_trans k k2) (bl_irrefl _)

/-! ### Compact of a sorted list -/
theorem cu_mem (d : Array BL) : ∀ m, m ≤ d.size → ∀ x, x ∈ compactUpTo d m ↔ ∃ j, j < m ∧ d[j]! = x
  | 0, _, x => by simp [compactUpTo]
  | m + 1, hm, x => by
    rw [compactUpTo_succ, List.mem_append, cu_mem d m (by omega) x]
    by_cases hk : keeps d m = true
    · rw [if_pos hk, List.mem_singleton]
      constructor
      · rintro (⟨j, hj, e⟩ | e)
        · exact ⟨j, by omega, e⟩
        · exact ⟨m, by omega, e.symm⟩
      · rintro ⟨j, hj, e⟩
        by_cases h : j = m
        · subst h; exact Or.inr e.symm
        · exact Or.inl ⟨j, by omega, e⟩
    · rw [if_neg hk]
      have hk2 : m ≠ 0 ∧ d[m]! = d[m - 1]! := by
        unfold keeps at hk
        simp only [decide_eq_true_eq, not_or, ne_eq] at hk
        exact ⟨hk.1, Classical.not_not.1 hk.2⟩
      constructor
      · rintro (⟨j, hj, e⟩ | e)
        · exact ⟨j, by omega, e⟩
        · simp at e
      · rintro ⟨j, hj, e⟩
        by_cases h : j = m
        · subst h; exact Or.inl ⟨j - 1, by omega, by rw [← hk2.2]; exact e⟩
        · exact Or.inl ⟨j, by omega, e⟩
theorem cu_sorted (d : Array BL) (hs : ∀ i j, i ≤ j → j < d.size → d[i]! ≤ d[j]!) : ∀ m, m ≤ d.size → (compactUpTo d m).Pairwise (· < ·)
  | 0, _ => by simp [compactUpTo]
  | m + 1, hm => by
    rw [compactUpTo_succ]
    have ih := cu_sorted d hs m (by omega)
    by_cases hk : keeps d m = true
    · rw [if_pos hk, List.pairwise_append]
      refine ⟨ih, by simp, fun a ha b hb => ?_⟩
      obtain rfl := List.mem_singleton.1 hb
      obtain ⟨j, hj, rfl⟩ := (cu_mem d m (by omega) a).1 ha
      have hne : d[m]! ≠ d[m - 1]! := by
        unfold keeps at hk
        simp only [decide_eq_true_eq] at hk
        rcases hk with h | h
        · omega
        · exact h
      have h1 : d[j]! ≤ d[m - 1]! := hs j (m - 1) (by omega) (by omega)
      have h2 : d[m - 1]! < d[m]! := bl_lt_of_le_ne (hs (m - 1) m (by omega) (by omega)) (fun e => hne e.symm)
      exact List.lt_of_le_of_lt h1 h2
    · rw [if_neg hk, List.append_nil]; exact ih
theorem compact_mem (zs : List BL) (x : BL) : x ∈ compact zs ↔ x ∈ zs := by
  unfold compact
  rw [cu_mem _ _ (by simp), List.mem_iff_getElem]
  constructor
  · rintro ⟨j, hj, e⟩; exact ⟨j, hj, by rw [← e]; simp [getElem!_pos, hj]⟩
  · rintro ⟨j, hj, e⟩; exact ⟨j, hj, by rw [← e]; simp [getElem!_pos, hj]⟩
theorem compact_sorted (zs : List BL) (h : zs.Pairwise (· ≤ ·)) : (compact zs).Pairwise (· < ·) := by
  unfold compact
  refine cu_sorted _ (fun i j hij hj => ?_) _ (by simp)
  have hj' : j < zs.length := by simpa using hj
  have e1 : zs.toArray[i]! = zs[i]'(by omega) := by simp [getElem!_pos, show i < zs.length by omega]
  have e2 : zs.toArray[j]! = zs[j]'hj' := by simp [getElem!_pos, hj']
  rw [e1, e2]
  rcases Nat.lt_or_ge i j with h1 | h1
  · exact List.pairwise_iff_getElem.1 h i j _ _ h1
  · have : i = j := by omega
    subst this; exact List.le_refl _
theorem merge_sorted (zs : List BL) : (zs.mergeSort fun x y => decide (x ≤ y)).Pairwise (· ≤ ·) := by
  have := List.pairwise_mergeSort (le := fun x y : BL => decide (x ≤ y)) (fun a b c h1 h2 => by simp at *; exact List.le_trans h1 h2) (fun a b => by simp; exact List.le_total a b) zs
  exact this.imp (by simp)
theorem cu_len (d : Array BL) (m : Nat) : (compactUpTo d m).length ≤ m := by
  unfold compactUpTo; rw [List.length_map]; exact Nat.le_trans (List.length_filter_le _ _) (by simp)
/-- Sorted, each once. -/
def ded (zs : List BL) : List BL := compact (zs.mergeSort fun x y => decide (x ≤ y))
theorem ded_mem (zs : List BL) (x : BL) : x ∈ ded zs ↔ x ∈ zs := by unfold ded; rw [compact_mem, List.mem_mergeSort]
theorem ded_sorted (zs : List BL) : (ded zs).Pairwise (· < ·) := compact_sorted _ (merge_sorted zs)
theorem ded_length (zs : List BL) : (ded zs).length ≤ zs.length := by
  unfold ded; have h := cu_len (zs.mergeSort fun x y => decide (x ≤ y)).toArray (zs.mergeSort fun x y => decide (x ≤ y)).length; unfold compact; rwa [List.length_mergeSort] at *
/-! ### What CheckMarks says: the program's way and the reference's -/
theorem ba_ext {a b : ByteArray} (h : a.data.toList = b.data.toList) : a = b := by
  cases a; cases b; simp at h; rw [h]
theorem ordP_swap (a b c d : ByteArray) : ordP c d a b = - ordP a b c d := by
  unfold ordP
  have h1 := cmpB_swap a.data.toList c.data.toList
  have h2 := cmpB_swap b.data.toList d.data.toList
  rw [h1, h2]
  by_cases h : Lib.compareBytes a.data.toList c.data.toList = 0
  · rw [h]; simp
  · rw [if_pos (by omega), if_pos h]
theorem ordP_pos {a b c d : ByteArray} (h : 0 < ordP a b c d) : c.data.toList < a.data.toList ∨ (a = c ∧ d.data.toList < b.data.toList) := by
  unfold ordP at h
  rcases cmpB_bd a.data.toList c.data.toList with ⟨h1, k⟩ | ⟨h1, k⟩ | ⟨h1, k⟩
  · rw [h1] at h; simp at h
  · rw [h1] at h
    simp only [ne_eq, not_true_eq_false, if_false] at h
    rcases cmpB_bd b.data.toList d.data.toList with ⟨h2, k2⟩ | ⟨h2, k2⟩ | ⟨h2, k2⟩
    · rw [h2] at h; simp at h
    · rw [h2] at h; simp at h
    · exact Or.inr ⟨ba_ext k, k2⟩
  · exact Or.inl k
theorem ordP_empty {a b : ByteArray} (h : keyL a.data.toList = true) : 0 < ordP a b ⟨#[]⟩ ⟨#[]⟩ := by
  unfold ordP
  cases hl : a.data.toList with
  | nil => rw [hl] at h; simp [keyL] at h
  | cons x t => simp [Lib.compareBytes]
def badK (x : Mk) : Bool := !keyL x.p.data.toList || !keyL x.h.data.toList
def badS (x : Mk) : Bool := decide (x.s < 0) || decide (10 < x.s)
def stepE (lp lh : ByteArray) (c : Nat) (x : Mk) : Int :=
  if badK x = true then 5 else if ordP x.p x.h lp lh ≤ 0 then 7 else if badS x = true then 1 else if 12 < c then 2 else 0
def newC (lp : ByteArray) (c : Nat) (x : Mk) : Nat := (if eqB x.p lp then c else 0) + 1
def chkE (lp lh : ByteArray) (c : Nat) : List Mk → Int
  | [] => 0
  | x :: t => if stepE lp lh (newC lp c x) x ≠ 0 then stepE lp lh (newC lp c x) x else chkE x.p x.h (newC lp c x) t
def ordO (prev : Option Mk) (x : Mk) : Int := match prev with | none => -1 | some y => ordP y.p y.h x.p x.h
def stepR (R : List ByteArray) (prev : Option Mk) (x : Mk) : Int :=
  if badK x = true then 5 else if 0 ≤ ordO prev x then 7 else if badS x = true then 1 else if 12 < cntR R x.p then 2 else 0
def refE (R : List ByteArray) (prev : Option Mk) : List Mk → Int
  | [] => 0
  | x :: t => if stepR (x.p :: R) prev x ≠ 0 then stepR (x.p :: R) prev x else refE (x.p :: R) (some x) t
def InvE (R : List ByteArray) (prev : Option Mk) (lp lh : ByteArray) (c : Nat) : Prop :=
  (prev = none ∧ R = [] ∧ lp = ⟨#[]⟩ ∧ lh = ⟨#[]⟩ ∧ c = 0) ∨ (∃ y, prev = some y ∧ lp = y.p ∧ lh = y.h ∧ c = cntR R y.p ∧ ∀ z ∈ R, ¬ y.p.data.toList < z.data.toList)
theorem cntR_zero {R : List ByteArray} {s : ByteArray} (h : ∀ z ∈ R, z ≠ s) : cntR R s = 0 := by
  unfold cntR
  rw [List.length_eq_zero_iff, List.filter_eq_nil_iff]
  intro z hz e
  exact h z hz ((eqB_iff _ _).1 e)
theorem bl_lt_le {a b c : BL} (h : ¬ b < a) (k : b < c) : a < c := List.lt_of_le_of_lt (List.not_lt.1 h) k
theorem step_eq {R : List ByteArray} {prev : Option Mk} {lp lh : ByteArray} {c : Nat} (hI : InvE R prev lp lh c) (x : Mk) :
    stepR (x.p :: R) prev x = stepE lp lh (newC lp c x) x ∧ (stepE lp lh (newC lp c x) x = 0 → InvE (x.p :: R) (some x) x.p x.h (newC lp c x)) := by
  unfold stepR stepE
  by_cases hk : badK x = true
  · rw [if_pos hk, if_pos hk]; exact ⟨rfl, fun h => absurd h (by decide)⟩
  · rw [if_neg hk, if_neg hk]
    have hkp : keyL x.p.data.toList = true := by
      unfold badK at hk
      cases h : keyL x.p.data.toList
      · rw [h] at hk; simp at hk
      · rfl
    have hord : (0 ≤ ordO prev x) ↔ ordP x.p x.h lp lh ≤ 0 := by
      rcases hI with ⟨rfl, rfl, rfl, rfl, rfl⟩ | ⟨y, rfl, rfl, rfl, rfl, hz⟩
      · have := ordP_empty (b := x.h) hkp
        have e0 : ordO none x = -1 := rfl
        rw [e0]
        constructor <;> intro h <;> omega
      · show 0 ≤ ordP y.p y.h x.p x.h ↔ _
        rw [ordP_swap x.p x.h y.p y.h]; omega
    by_cases ho : ordP x.p x.h lp lh ≤ 0
    · rw [if_pos ho, if_pos (hord.2 ho)]; exact ⟨rfl, fun h => absurd h (by decide)⟩
    · rw [if_neg ho, if_neg (fun h => ho (hord.1 h))]
      have hcnt : cntR (x.p :: R) x.p = newC lp c x := by
        rw [cntR_cons, if_pos ((eqB_iff _ _).2 rfl)]
        unfold newC
        rcases hI with ⟨rfl, rfl, rfl, rfl, rfl⟩ | ⟨y, rfl, rfl, rfl, rfl, hz⟩
        · simp [cntR]
        · by_cases he : eqB x.p y.p = true
          · rw [if_pos he, (eqB_iff _ _).1 he]
          · rw [if_neg he, cntR_zero (fun z hz1 e => ?_)]
            rcases ordP_pos (by omega : 0 < ordP x.p x.h y.p y.h) with h | ⟨h, _⟩
            · exact hz _ (by rw [← e]; exact hz1) h
            · exact he ((eqB_iff _ _).2 h)
      have hinv : InvE (x.p :: R) (some x) x.p x.h (newC lp c x) := by
        refine Or.inr ⟨x, rfl, rfl, rfl, hcnt.symm, fun z hz1 => ?_⟩
        rcases List.mem_cons.1 hz1 with rfl | hz1
        · exact bl_irrefl _
        · rcases hI with ⟨rfl, rfl, rfl, rfl, rfl⟩ | ⟨y, rfl, rfl, rfl, rfl, hz⟩
          · simp at hz1
          · rcases ordP_pos (by omega : 0 < ordP x.p x.h y.p y.h) with h | ⟨h, _⟩
            · exact fun k => bl_irrefl _ (bl_trans k (bl_lt_le (hz z hz1) h))
            · rw [h]; exact hz z hz1
      rw [hcnt]
      exact ⟨rfl, fun _ => hinv⟩
theorem ref_chk : ∀ (l : List Mk) (R : List ByteArray) (prev : Option Mk) (lp lh : ByteArray) (c : Nat), InvE R prev lp lh c → refE R prev l = chkE lp lh c l
  | [], _, _, _, _, _, _ => rfl
  | x :: t, R, prev, lp, lh, c, hI => by
    obtain ⟨h1, h2⟩ := step_eq hI x
    unfold refE chkE
    rw [h1]
    by_cases h : stepE lp lh (newC lp c x) x = 0
    · rw [if_neg (by simpa using h), if_neg (by simpa using h)]
      exact ref_chk t _ _ _ _ _ (h2 h)
    · rw [if_pos h, if_pos h]
theorem marks_same (l : List Mk) : refE [] none l = chkE ⟨#[]⟩ ⟨#[]⟩ 0 l := ref_chk l _ _ _ _ _ (Or.inl ⟨rfl, rfl, rfl, rfl, rfl⟩)
theorem step_ok {lp lh : ByteArray} {c : Nat} {x : Mk} (h : stepE lp lh c x = 0) : badK x = false ∧ 0 < ordP x.p x.h lp lh ∧ 0 ≤ x.s ∧ x.s ≤ 10 ∧ c ≤ 12 := by
  unfold stepE at h
  split at h
  · exact absurd h (by decide)
  · split at h
    · exact absurd h (by decide)
    · split at h
      · exact absurd h (by decide)
      · split at h
        · exact absurd h (by decide)
        · rename_i h1 h2 h3 h4
          unfold badS at h3
          simp at h3
          exact ⟨by simpa using h1, by omega, by omega, by omega, by omega⟩
theorem ok_step {lp lh : ByteArray} {c : Nat} {x : Mk} (h : badK x = false ∧ 0 < ordP x.p x.h lp lh ∧ 0 ≤ x.s ∧ x.s ≤ 10 ∧ c ≤ 12) : stepE lp lh c x = 0 := by
  obtain ⟨h1, h2, h3, h4, h5⟩ := h
  unfold stepE
  rw [if_neg (by rw [h1]; decide), if_neg (by omega), if_neg (by unfold badS; simp; omega), if_neg (by omega)]
theorem chk_scores : ∀ (l : List Mk) (lp lh : ByteArray) (c : Nat), chkE lp lh c l = 0 → ∀ x ∈ l, badK x = false ∧ 0 ≤ x.s ∧ x.s ≤ 10
  | [], _, _, _, _, x, hx => by simp at hx
  | y :: t, lp, lh, c, h, x, hx => by
    unfold chkE at h
    by_cases h0 : stepE lp lh (newC lp c y) y = 0
    · rw [if_neg (by simpa using h0)] at h
      rcases List.mem_cons.1 hx with rfl | hx
      · have := step_ok h0; exact ⟨this.1, this.2.2.1, this.2.2.2.1⟩
      · exact chk_scores t _ _ _ h x hx
    · rw [if_pos h0] at h; exact absurd h h0
/-- Other scores in the same places are as right. -/
theorem chk_other : ∀ (l l2 : List Mk) (lp lh : ByteArray) (c : Nat), chkE lp lh c l = 0 → l2.length = l.length → (∀ (i : Nat) (h : i < l.length) (h2 : i < l2.length), l2[i].p = l[i].p ∧ l2[i].h = l[i].h ∧ 0 ≤ l2[i].s ∧ l2[i].s ≤ 10) → chkE lp lh c l2 = 0
  | [], [], _, _, _, _, _, _ => rfl
  | [], _ :: _, _, _, _, _, h, _ => by simp at h
  | _ :: _, [], _, _, _, _, h, _ => by simp at h
  | y :: t, y2 :: t2, lp, lh, c, h, hl, hs => by
    have h2 := hs 0 (by simp) (by simp)
    simp only [List.getElem_cons_zero] at h2
    obtain ⟨e1, e2, e3, e4⟩ := h2
    unfold chkE at h ⊢
    by_cases h0 : stepE lp lh (newC lp c y) y = 0
    · rw [if_neg (by simpa using h0)] at h
      obtain ⟨k1, k2, k3, k4, k5⟩ := step_ok h0
      have en : newC lp c y2 = newC lp c y := by unfold newC; rw [e1]
      have hb : badK y2 = false := by unfold badK at *; rw [e1, e2]; exact k1
      have h0' : stepE lp lh (newC lp c y2) y2 = 0 := ok_step ⟨hb, by rw [e1, e2]; exact k2, e3, e4, by rw [en]; exact k5⟩
      rw [if_neg (by simpa using h0'), en, e1, e2]
      refine chk_other t t2 _ _ _ h (by simpa using hl) (fun i hi hi2 => ?_)
      have := hs (i + 1) (by simpa using hi) (by simpa using hi2)
      simpa using this
    · rw [if_pos h0] at h; exact absurd h h0
end Go.Proofs.YtmihbfmlnfhgcadGreatDoor.Cal
