/-
  AFFINITY GROWS, AS MATHEMATICS: parts are at most one, a topic that is known wholly has the part one, a skill more lowers no part, and a mean with a one more is not less.
-/
import Derived.Test.YtebfndiaiaegmaaGreatDoorKnow2
namespace Go.Proofs.YtebfndiaiaegmaaGreatDoor.For
open Go.ChangeShapes Go.WideShapes Go.ChangeAt Go.RowKit Stm Key
set_option linter.unusedVariables false

theorem nI_one {l : List Tp} (h : RightF l) {i : Nat} (hi : i < l.length) : nI l i i = 2520 := by
  have hpl := pars_len l
  have hw := way_pos h.nl (i := i) (by omega)
  unfold nI nearI
  rw [MF_self (pars_good l) h.nl (by omega) (by omega), if_neg (by omega)]
  generalize (way (pars l) (i : Nat)).length = p at *
  have : (5040 : Int) * (p : Int) / ((p : Int) + (p : Int)) = 2520 := by
    rw [show (5040 : Int) * (p : Int) = 2520 * ((p : Int) + (p : Int)) by omega]
    exact Int.mul_ediv_cancel _ (by omega)
  rw [this]; rfl
theorem nI_le {l : List Tp} (h : RightF l) {i j : Nat} (hi : i < l.length) (hj : j < l.length) : nI l i j ≤ 2520 := by
  have hpl := pars_len l
  have hG := pars_good l
  unfold nI nearI
  split
  · simp
  rename_i hm
  have hmr := MF_range (b := j) hG (a := i) (by omega) (by omega)
  obtain ⟨c, hc⟩ : ∃ c : Nat, MF (pars l) i j = c := ⟨(MF (pars l) i j).toNat, by omega⟩
  have hd := MF_deep hG h.nl (a := i) (b := j) (by omega) (by omega) hm
  rw [hc] at hmr hd ⊢
  obtain ⟨q1, hq1⟩ := way_suffix hG h.nl (p := i) (by omega) (by omega) hd.1
  obtain ⟨q2, hq2⟩ := way_suffix hG h.nl (p := j) (by omega) (by omega) hd.2.1
  have s1 := congrArg List.length hq1
  have s2 := congrArg List.length hq2
  rw [List.length_append] at s1 s2
  have la := way_pos h.nl (i := i) (by omega)
  generalize (way (pars l) (i : Nat)).length = p at *
  generalize (way (pars l) (j : Nat)).length = q at *
  generalize (way (pars l) (c : Nat)).length = s at *
  have : (5040 : Int) * (s : Int) / ((p : Int) + (q : Int)) ≤ 2520 := Int.ediv_le_of_le_mul (by omega) (by omega)
  omega

/-- The greatest part alone. -/
def topS (l : List Tp) (i : Nat) (s : List Sk) (c : Nat) : Nat := s.foldl (fun c x => max c (x.n.toNat * nI l (num l x.t) i)) c
theorem stepK_fst (l : List Tp) (i : Nat) : ∀ (s : List Sk) (c : Nat × ByteArray), (s.foldl (stepK l i) c).1 = topS l i s c.1
  | [], _ => rfl
  | x :: t, c => by
    rw [List.foldl_cons, stepK_fst l i t]
    unfold topS; rw [List.foldl_cons]
    congr 1
    unfold stepK; split <;> omega
theorem topS_ge (l : List Tp) (i : Nat) : ∀ (s : List Sk) (c : Nat), c ≤ topS l i s c
  | [], _ => Nat.le_refl _
  | x :: t, c => Nat.le_trans (Nat.le_max_left _ _) (topS_ge l i t _)
theorem topS_mem (l : List Tp) (i : Nat) : ∀ (s : List Sk) (c : Nat) (x : Sk), x ∈ s → x.n.toNat * nI l (num l x.t) i ≤ topS l i s c
  | [], _, _, h => by simp at h
  | y :: t, c, x, h => by
    rcases List.mem_cons.1 h with rfl | h
    · exact Nat.le_trans (Nat.le_max_right _ _) (topS_ge l i t _)
    · exact topS_mem l i t _ x h
theorem topS_le (l : List Tp) (i : Nat) (m : Nat) : ∀ (s : List Sk) (c : Nat), c ≤ m → (∀ x ∈ s, x.n.toNat * nI l (num l x.t) i ≤ m) → topS l i s c ≤ m
  | [], _, h, _ => h
  | y :: t, c, h, hs => topS_le l i m t _ (Nat.max_le.2 ⟨h, hs y (by simp)⟩) (fun x hx => hs x (by simp [hx]))
/-- More skills lower no part. -/
theorem knS_mono {l : List Tp} {s s2 : List Sk} (h : ∀ x ∈ s, x ∈ s2) (i : Nat) : (knS l s i).1 ≤ (knS l s2 i).1 := by
  unfold knS; rw [stepK_fst, stepK_fst]
  exact topS_le l i _ s 0 (Nat.zero_le _) (fun x hx => topS_mem l i s2 0 x (h x hx))
theorem knS_one {l : List Tp} (h : RightF l) {s : List Sk} (hok : ∀ x ∈ s, (lk l x.t).isSome = true ∧ 1 ≤ x.n ∧ x.n ≤ 100) {i : Nat} (hi : i < l.length) : (knS l s i).1 ≤ 252000 := by
  unfold knS; rw [stepK_fst]
  refine topS_le l i _ s 0 (Nat.zero_le _) (fun x hx => ?_)
  have hx := hok x hx
  exact Nat.le_trans (Nat.mul_le_mul (show x.n.toNat ≤ 100 by omega) (nI_le h (num_lt hx.1).1 hi)) (by decide)
theorem knS_whole {l : List Tp} (h : RightF l) {s : List Sk} {t : ByteArray} (ht : (lk l t).isSome = true) (hm : (⟨t, 100⟩ : Sk) ∈ s) : 252000 ≤ (knS l s (num l t)).1 := by
  unfold knS; rw [stepK_fst]
  have := topS_mem l (num l t) s 0 _ hm
  simp only [] at this
  rw [nI_one h (num_lt ht).1] at this
  exact this
theorem sumK_perm {l : List Tp} {s : List Sk} {a b : List ByteArray} (h : a.Perm b) : sumK l s a = sumK l s b := (h.map _).sum_nat
theorem sumK_mono {l : List Tp} {s s2 : List Sk} (h : ∀ x ∈ s, x ∈ s2) : ∀ (a : List ByteArray), sumK l s a ≤ sumK l s2 a
  | [] => Nat.le_refl _
  | t :: a => by
    have h1 := sumK_mono (l := l) h a
    have h2 := knS_mono (l := l) h (num l t)
    have e1 : sumK l s (t :: a) = (knS l s (num l t)).1 + sumK l s a := by simp [sumK]
    have e2 : sumK l s2 (t :: a) = (knS l s2 (num l t)).1 + sumK l s2 a := by simp [sumK]
    rw [e1, e2]; omega
/-- With a topic more that is known wholly, the mean is not less. -/
theorem aff_grows {l : List Tp} (h : RightF l) {s s2 : List Sk} {a b : List ByteArray} {t : ByteArray} (hok : ∀ x ∈ s, (lk l x.t).isSome = true ∧ 1 ≤ x.n ∧ x.n ≤ 100)
    (ha : ∀ x ∈ a, (lk l x).isSome = true) (ht : (lk l t).isSome = true) (hs : ∀ x ∈ s, x ∈ s2) (hm : (⟨t, 100⟩ : Sk) ∈ s2) (hp : (a ++ [t]).Perm b) :
    (affN l s a).1 * (affN l s2 b).2 ≤ (affN l s2 b).1 * (affN l s a).2 := by
  have hS := sumK_bd (s := s) (l := l) 252000 a (fun x hx => knS_one h hok (num_lt (ha x hx)).1)
  have hM := sumK_mono (l := l) hs a
  have hW := knS_whole h ht hm
  have hP : sumK l s2 b = sumK l s2 a + (knS l s2 (num l t)).1 := by rw [← sumK_perm hp]; simp [sumK]
  have hL : b.length = a.length + 1 := by rw [← hp.length_eq]; simp
  unfold affN
  rw [hL, hP]
  generalize sumK l s a = A at *
  generalize sumK l s2 a = A2 at *
  generalize (knS l s2 (num l t)).1 = T at *
  generalize a.length = n at *
  have hd1 : 0 < 252000 * max n 1 := by omega
  have hd2 : 0 < 252000 * max (n + 1) 1 := by omega
  obtain ⟨g, hg, e1, e2⟩ := lowN_parts A (252000 * max n 1) hd1
  obtain ⟨k, hk, e3, e4⟩ := lowN_parts (A2 + T) (252000 * max (n + 1) 1) hd2
  have key : A * (252000 * max (n + 1) 1) ≤ (A2 + T) * (252000 * max n 1) := by
    have h1 : A * (n + 1) ≤ (A2 + T) * max n 1 := by
      rw [Nat.mul_add, Nat.mul_one]
      have : n ≤ max n 1 := Nat.le_max_left _ _
      have h2 : A * n ≤ A2 * max n 1 := Nat.mul_le_mul hM this
      have h3 : A ≤ T * max n 1 := by
        refine Nat.le_trans hS ?_
        rw [Nat.mul_comm n]
        exact Nat.mul_le_mul hW this
      rw [Nat.add_mul]; omega
    have h2 : max (n + 1) 1 = n + 1 := by omega
    rw [h2, Nat.mul_left_comm, Nat.mul_left_comm (A2 + T)]
    exact Nat.mul_le_mul_left _ h1
  rw [e2, e4] at key
  generalize lowN A (252000 * max n 1) = p at *
  generalize lowN (A2 + T) (252000 * max (n + 1) 1) = q at *
  rw [e1, e3] at key
  have : (g * k) * (p.1 * q.2) ≤ (g * k) * (q.1 * p.2) := by
    calc (g * k) * (p.1 * q.2) = g * p.1 * (k * q.2) := by ac_rfl
      _ ≤ k * q.1 * (g * p.2) := key
      _ = (g * k) * (q.1 * p.2) := by ac_rfl
  exact Nat.le_of_mul_le_mul_left this (Nat.mul_pos hg hk)
/-- Affinity lies between nothing and one. -/
theorem aff_one {l : List Tp} (h : RightF l) {s : List Sk} {a : List ByteArray} (hok : ∀ x ∈ s, (lk l x.t).isSome = true ∧ 1 ≤ x.n ∧ x.n ≤ 100) (ha : ∀ x ∈ a, (lk l x).isSome = true) : (affN l s a).1 ≤ (affN l s a).2 := by
  have hS := sumK_bd (s := s) (l := l) 252000 a (fun x hx => knS_one h hok (num_lt (ha x hx)).1)
  unfold affN
  have hd1 : 0 < 252000 * max a.length 1 := by omega
  obtain ⟨g, hg, e1, e2⟩ := lowN_parts (sumK l s a) (252000 * max a.length 1) hd1
  have : sumK l s a ≤ 252000 * max a.length 1 := by rw [Nat.mul_comm] at hS; exact Nat.le_trans hS (Nat.mul_le_mul_left _ (Nat.le_max_left _ _))
  generalize lowN (sumK l s a) (252000 * max a.length 1) = p at *
  rw [e1, e2] at this
  exact Nat.le_of_mul_le_mul_left this hg
end Go.Proofs.YtebfndiaiaegmaaGreatDoor.For
