/-
  SKILLS AND TOPICS THAT RISE: what passes the checks rises strictly, and what rises passes them again with one more, sorted.
-/
import Derived.Test.YtebfndiaiaegmaaGreatDoorGrowM
namespace Go.Proofs.YtebfndiaiaegmaaGreatDoor.For
open Go.ChangeShapes Go.WideShapes Go.ChangeAt Go.RowKit Stm Key
set_option linter.unusedVariables false

theorem leB_of_lt {a b : ByteArray} (h : b.data.toList < a.data.toList) : leB a b = false := by
  unfold leB
  rw [bytesLess_eq, Lib.toList_data, Lib.toList_data, Bool.or_eq_false_iff]
  constructor
  · simpa using List.le_of_lt h
  · simp only [beq_eq_false_iff_ne, ne_eq]
    intro e
    rw [e] at h
    exact List.lt_irrefl _ h
theorem skE_up {l : List Tp} : ∀ (s : List Sk) (last : ByteArray), skE l last s = 0 → (∀ x ∈ s, last.data.toList < x.t.data.toList) ∧ s.Pairwise fun a b => a.t.data.toList < b.t.data.toList
  | [], _, _ => ⟨fun x hx => by simp at hx, List.Pairwise.nil⟩
  | y :: t, last, h => by
    unfold skE at h
    by_cases h1 : (lk l y.t).isSome = false
    · rw [if_pos h1] at h; cases h
    rw [if_neg h1] at h
    by_cases h2 : leB y.t last = true
    · rw [if_pos h2] at h; cases h
    rw [if_neg h2] at h
    by_cases h3 : pct y.n = false
    · rw [if_pos h3] at h; cases h
    rw [if_neg h3] at h
    have hy := leB_no (Bool.eq_false_iff.2 h2)
    obtain ⟨i1, i2⟩ := skE_up t y.t h
    exact ⟨fun x hx => by
      rcases List.mem_cons.1 hx with rfl | hx
      · exact hy
      · exact List.lt_trans hy (i1 x hx), List.Pairwise.cons i1 i2⟩
theorem waE_up {l : List Tp} : ∀ (s : List ByteArray) (last : ByteArray), waE l last s = 0 → (∀ x ∈ s, last.data.toList < x.data.toList) ∧ s.Pairwise fun a b => a.data.toList < b.data.toList
  | [], _, _ => ⟨fun x hx => by simp at hx, List.Pairwise.nil⟩
  | y :: t, last, h => by
    unfold waE at h
    by_cases h1 : (lk l y).isSome = false
    · rw [if_pos h1] at h; cases h
    rw [if_neg h1] at h
    by_cases h2 : leB y last = true
    · rw [if_pos h2] at h; cases h
    rw [if_neg h2] at h
    have hy := leB_no (Bool.eq_false_iff.2 h2)
    obtain ⟨i1, i2⟩ := waE_up t y h
    exact ⟨fun x hx => by
      rcases List.mem_cons.1 hx with rfl | hx
      · exact hy
      · exact List.lt_trans hy (i1 x hx), List.Pairwise.cons i1 i2⟩
theorem skE_of {l : List Tp} : ∀ (s : List Sk) (last : ByteArray), (∀ x ∈ s, (lk l x.t).isSome = true ∧ 1 ≤ x.n ∧ x.n ≤ 100) → (∀ x ∈ s, leB x.t last = false) → (s.Pairwise fun a b => a.t.data.toList < b.t.data.toList) → skE l last s = 0
  | [], _, _, _, _ => rfl
  | y :: t, last, h, hl, hp => by
    obtain ⟨p1, p2⟩ := List.pairwise_cons.1 hp
    have hy := h y (by simp)
    have hlast := hl y (by simp)
    unfold skE
    rw [if_neg (by rw [hy.1]; simp), if_neg (by rw [hlast]; simp), if_neg (by unfold pct; simp [hy.2.1, hy.2.2])]
    exact skE_of t y.t (fun x hx => h x (by simp [hx])) (fun x hx => leB_of_lt (p1 x hx)) p2
theorem waE_of {l : List Tp} : ∀ (s : List ByteArray) (last : ByteArray), (∀ x ∈ s, (lk l x).isSome = true) → (∀ x ∈ s, leB x last = false) → (s.Pairwise fun a b => a.data.toList < b.data.toList) → waE l last s = 0
  | [], _, _, _, _ => rfl
  | y :: t, last, h, hl, hp => by
    obtain ⟨p1, p2⟩ := List.pairwise_cons.1 hp
    have hy := h y (by simp)
    have hlast := hl y (by simp)
    unfold waE
    rw [if_neg (by rw [hy]; simp), if_neg (by rw [hlast]; simp)]
    exact waE_of t y (fun x hx => h x (by simp [hx])) (fun x hx => leB_of_lt (p1 x hx)) p2
/-- Sorted without two of one key: rising. -/
theorem rise_of {α : Type} (f : α → List UInt8) {a b : List α} (hp : b.Perm a) (hs : b.Pairwise fun x y => ¬ f y < f x) (hd : a.Pairwise fun x y => f x ≠ f y) : b.Pairwise fun x y => f x < f y := by
  have hd2 : b.Pairwise fun x y => f x ≠ f y := (hp.pairwise_iff (fun h => Ne.symm h)).2 hd
  refine List.Pairwise.imp ?_ (hs.and hd2)
  rintro x y ⟨h1, h2⟩
  rcases Std.Trichotomous.rel_or_eq_or_rel_swap (r := fun (x y : List UInt8) => x < y) (a := f x) (b := f y) with h | h | h
  · exact h
  · exact absurd h h2
  · exact absurd h h1
theorem dist_snoc {α : Type} (f : α → List UInt8) {a : List α} {x : α} (hp : a.Pairwise fun x y => f x < f y) (hx : ∀ y ∈ a, f y ≠ f x) : (a ++ [x]).Pairwise fun x y => f x ≠ f y := by
  rw [List.pairwise_append]
  refine ⟨hp.imp ?_, by simp, fun y hy z hz => ?_⟩
  · intro u v h e
    rw [e] at h
    exact List.lt_irrefl _ h
  · simp at hz; subst hz; exact hx y hy
/-- One skill and one topic more, sorted: the checks pass. -/
theorem grow_checks {l : List Tp} (h0 : forestE l = 0) {s s2 : List Sk} {a b : List ByteArray} {t : ByteArray} (h1 : skE l ⟨#[]⟩ s = 0) (h2 : waE l ⟨#[]⟩ a = 0) (ht : (lk l t).isSome = true)
    (n1 : ∀ y ∈ s, y.t.data.toList ≠ t.data.toList) (n2 : ∀ y ∈ a, y.data.toList ≠ t.data.toList)
    (p1 : s2.Perm (s ++ [⟨t, 100⟩])) (q1 : s2.Pairwise fun a b => ¬ b.t.data.toList < a.t.data.toList) (p2 : b.Perm (a ++ [t])) (q2 : b.Pairwise fun a b => ¬ b.data.toList < a.data.toList) : wantE l s2 b = 0 := by
  have o1 := skE_ok s _ h1
  have o2 := waE_ok a _ h2
  have m1 : ∀ x ∈ s2, (lk l x.t).isSome = true ∧ 1 ≤ x.n ∧ x.n ≤ 100 := fun x hx => by
    rcases List.mem_append.1 (p1.mem_iff.1 hx) with h | h
    · exact o1 x h
    · simp at h; subst h; exact ⟨ht, show (1 : Int) ≤ 100 by decide, show (100 : Int) ≤ 100 by decide⟩
  have m2 : ∀ x ∈ b, (lk l x).isSome = true := fun x hx => by
    rcases List.mem_append.1 (p2.mem_iff.1 hx) with h | h
    · exact o2 x h
    · simp at h; subst h; exact ht
  have e1 : skE l ⟨#[]⟩ s2 = 0 := skE_of s2 _ m1 (fun x hx => known_key h0 (m1 x hx).1) (rise_of (fun x : Sk => x.t.data.toList) p1 q1 (dist_snoc (fun x : Sk => x.t.data.toList) (skE_up s _ h1).2 n1))
  have e2 : waE l ⟨#[]⟩ b = 0 := waE_of b _ m2 (fun x hx => known_key h0 (m2 x hx)) (rise_of (fun x : ByteArray => x.data.toList) p2 q2 (dist_snoc (fun x : ByteArray => x.data.toList) (waE_up a _ h2).2 n2))
  have h3 : withE l s2 = 0 := by unfold withE; rw [if_neg (by simpa using h0)]; exact e1
  unfold wantE; rw [h3]; simpa using e2
end Go.Proofs.YtebfndiaiaegmaaGreatDoor.For
