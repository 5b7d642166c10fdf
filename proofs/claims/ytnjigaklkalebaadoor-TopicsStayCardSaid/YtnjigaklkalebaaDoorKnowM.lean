/-
  WHAT SOMEBODY KNOWS, AS PLAIN FUNCTIONS: fractions in lowest terms, the parts of skills, and that the program's whole numbers and the reference's fractions say the same.
-/
import Derived.Test.YtnjigaklkalebaaDoorGRefSkills
namespace Go.Proofs.YtnjigaklkalebaaDoor.For
open Go.ChangeShapes Go.WideShapes Go.ChangeAt Go.RowKit Stm Key
set_option linter.unusedVariables false

/-- A fraction in lowest terms. -/
def lowN (n d : Nat) : Nat × Nat := (n / Nat.gcd n d, d / Nat.gcd n d)
theorem lowN_mul (g n d : Nat) (hg : 0 < g) : lowN (g * n) (g * d) = lowN n d := by
  unfold lowN; rw [Nat.gcd_mul_left, Nat.mul_div_mul_left _ _ hg, Nat.mul_div_mul_left _ _ hg]
theorem lowN_parts (n d : Nat) (hd : 0 < d) : ∃ g, 0 < g ∧ n = g * (lowN n d).1 ∧ d = g * (lowN n d).2 :=
  ⟨Nat.gcd n d, Nat.gcd_pos_of_pos_right n hd, (Nat.mul_div_cancel' (Nat.gcd_dvd_left n d)).symm, (Nat.mul_div_cancel' (Nat.gcd_dvd_right n d)).symm⟩
theorem lowN_pos (n d : Nat) (hd : 0 < d) : 0 < (lowN n d).2 := by
  obtain ⟨g, hg, _, h⟩ := lowN_parts n d hd
  rcases Nat.eq_zero_or_pos (lowN n d).2 with h0 | h0
  · rw [h0] at h; omega
  · exact h0
theorem lowN_le (n d : Nat) : (lowN n d).1 ≤ n ∧ (lowN n d).2 ≤ d := ⟨Nat.div_le_self _ _, Nat.div_le_self _ _⟩
theorem lowN_scale (c e n d : Nat) (hd : 0 < d) : lowN (c * (lowN n d).1) (e * (lowN n d).2) = lowN (c * n) (e * d) := by
  obtain ⟨g, hg, h1, h2⟩ := lowN_parts n d hd
  generalize lowN n d = p at *
  subst h1 h2
  rw [← lowN_mul g (c * p.1) (e * p.2) hg, Nat.mul_left_comm g c, Nat.mul_left_comm g e]
theorem lowN_cmp (p q K : Nat) (hK : 0 < K) : ((lowN q K).1 * (lowN p K).2 < (lowN p K).1 * (lowN q K).2) ↔ q < p := by
  obtain ⟨g1, hg1, a1, a2⟩ := lowN_parts p K hK
  obtain ⟨g2, hg2, b1, b2⟩ := lowN_parts q K hK
  generalize lowN p K = P at *
  generalize lowN q K = Q at *
  rw [← Nat.mul_lt_mul_left (Nat.mul_pos hg1 hg2)]
  have e1 : g1 * g2 * (Q.1 * P.2) = q * K := by rw [b1]; conv => rhs; rw [a2]
                                                ac_rfl
  have e2 : g1 * g2 * (P.1 * Q.2) = p * K := by rw [a1]; conv => rhs; rw [b2]
                                                ac_rfl
  rw [e1, e2, Nat.mul_lt_mul_right hK]
theorem lowN_add (S p K : Nat) (hK : 0 < K) : lowN ((lowN S K).1 * (lowN p K).2 + (lowN p K).1 * (lowN S K).2) ((lowN S K).2 * (lowN p K).2) = lowN (S + p) K := by
  obtain ⟨g1, hg1, a1, a2⟩ := lowN_parts S K hK
  obtain ⟨g2, hg2, b1, b2⟩ := lowN_parts p K hK
  generalize lowN S K = P at *
  generalize lowN p K = Q at *
  have e1 : g1 * g2 * (P.1 * Q.2 + Q.1 * P.2) = K * (S + p) := by
    rw [Nat.mul_add, Nat.mul_add]
    congr 1
    · rw [a1]; conv => rhs; rw [b2]
      ac_rfl
    · rw [b1]; conv => rhs; rw [a2]
      ac_rfl
  have e2 : g1 * g2 * (P.2 * Q.2) = K * K := by
    conv => rhs; lhs; rw [a2]
    conv => rhs; rhs; rw [b2]
    ac_rfl
  rw [← lowN_mul (g1 * g2) _ _ (Nat.mul_pos hg1 hg2), e1, e2, lowN_mul K _ _ hK]

/- THE PARTS OF SKILLS -/
def num (l : List Tp) (s : ByteArray) : Nat := (lk l s).getD 0
theorem lkI_num (l : List Tp) (s : ByteArray) : lkI l s = (num l s : Int) := by unfold lkI num; cases lk l s <;> rfl
theorem num_lt {l : List Tp} {s : ByteArray} (h : (lk l s).isSome = true) : num l s < l.length ∧ lk l s = some (num l s) := by
  unfold num
  cases hl : lk l s with
  | none => rw [hl] at h; cases h
  | some i => exact ⟨(lk_some l s i hl).1, rfl⟩
def nI (l : List Tp) (j i : Nat) : Nat := (nearI (pars l) j i).toNat
def stepK (l : List Tp) (i : Nat) (c : Nat × ByteArray) (x : Sk) : Nat × ByteArray := if c.1 < x.n.toNat * nI l (num l x.t) i then (x.n.toNat * nI l (num l x.t) i, x.t) else c
/-- How well a topic is known, and by which skill. -/
def knS (l : List Tp) (s : List Sk) (i : Nat) : Nat × ByteArray := s.foldl (stepK l i) (0, ⟨#[]⟩)
theorem knS_take {l : List Tp} {s : List Sk} {k : Nat} (h : k < s.length) (i : Nat) : knS l (s.take (k + 1)) i = stepK l i (knS l (s.take k) i) s[k] := by
  unfold knS; rw [take_next _ _ h, List.foldl_append]; rfl
theorem nI_bd {l : List Tp} (h : RightF l) {j i : Nat} (hj : j < l.length) (hi : i < l.length) : nearI (pars l) j i = (nI l j i : Int) ∧ nI l j i ≤ 25200 := by
  have := nearI_bd h.nl (pars_good l) h.deep (a := j) (b := i) (by rw [pars_len]; exact hj) (by rw [pars_len]; exact hi)
  unfold nI; omega
theorem skE_ok {l : List Tp} : ∀ (s : List Sk) (last : ByteArray), skE l last s = 0 → ∀ x ∈ s, (lk l x.t).isSome = true ∧ 1 ≤ x.n ∧ x.n ≤ 100
  | [], _, _, x, hx => by simp at hx
  | y :: t, last, h, x, hx => by
    unfold skE at h
    by_cases h1 : (lk l y.t).isSome = false
    · rw [if_pos h1] at h; cases h
    rw [if_neg h1] at h
    by_cases h2 : leB y.t last = true
    · rw [if_pos h2] at h; cases h
    rw [if_neg h2] at h
    by_cases h3 : pct y.n = false
    · rw [if_pos h3] at h; cases h
    rw [if_neg h3] at h
    rcases List.mem_cons.1 hx with rfl | hx
    · have : pct x.n = true := by simpa using h3
      unfold pct at this
      simp at this
      exact ⟨(eq_true_of_ne_false h1), this.1, this.2⟩
    · exact skE_ok t y.t h x hx
theorem waE_ok {l : List Tp} : ∀ (s : List ByteArray) (last : ByteArray), waE l last s = 0 → ∀ x ∈ s, (lk l x).isSome = true
  | [], _, _, x, hx => by simp at hx
  | y :: t, last, h, x, hx => by
    unfold waE at h
    by_cases h1 : (lk l y).isSome = false
    · rw [if_pos h1] at h; cases h
    rw [if_neg h1] at h
    by_cases h2 : leB y last = true
    · rw [if_pos h2] at h; cases h
    rw [if_neg h2] at h
    rcases List.mem_cons.1 hx with rfl | hx
    · exact (eq_true_of_ne_false h1)
    · exact waE_ok t y h x hx
theorem part_bd {l : List Tp} (h : RightF l) {x : Sk} (hx : (lk l x.t).isSome = true ∧ 1 ≤ x.n ∧ x.n ≤ 100) {i : Nat} (hi : i < l.length) : x.n.toNat * nI l (num l x.t) i ≤ 2520000 := by
  have h1 := (nI_bd h (num_lt hx.1).1 hi).2
  have h2 : x.n.toNat ≤ 100 := by omega
  exact Nat.le_trans (Nat.mul_le_mul h2 h1) (by decide)
theorem knS_bd {l : List Tp} (h : RightF l) {i : Nat} (hi : i < l.length) : ∀ (s : List Sk) (c : Nat × ByteArray), c.1 ≤ 2520000 → c.2.size ≤ 1000 → (∀ x ∈ s, (lk l x.t).isSome = true ∧ 1 ≤ x.n ∧ x.n ≤ 100) → (∀ x ∈ s, x.t.size ≤ 1000) → (s.foldl (stepK l i) c).1 ≤ 2520000 ∧ (s.foldl (stepK l i) c).2.size ≤ 1000
  | [], c, h1, h2, _, _ => ⟨h1, h2⟩
  | x :: t, c, h1, h2, hs, hz => by
    have hb := part_bd h (hs x (by simp)) hi
    refine knS_bd h hi t (stepK l i c x) ?_ ?_ (fun y hy => hs y (by simp [hy])) (fun y hy => hz y (by simp [hy]))
    · unfold stepK; split
      · exact hb
      · exact h1
    · unfold stepK; split
      · exact hz x (by simp)
      · exact h2
/-- How much some topics are known, over 252000. -/
def sumK (l : List Tp) (s : List Sk) (ts : List ByteArray) : Nat := (ts.map fun t => (knS l s (num l t)).1).sum
theorem sumK_next {l : List Tp} {s : List Sk} {ts : List ByteArray} {k : Nat} (h : k < ts.length) : sumK l s (ts.take (k + 1)) = sumK l s (ts.take k) + (knS l s (num l ts[k])).1 := by
  unfold sumK; rw [take_next _ _ h, List.map_append, List.sum_append]; simp only [List.map_cons, List.map_nil, List.sum_cons, List.sum_nil, Nat.add_zero]
theorem sumK_bd {l : List Tp} {s : List Sk} (m : Nat) : ∀ (ts : List ByteArray), (∀ t ∈ ts, (knS l s (num l t)).1 ≤ m) → sumK l s ts ≤ ts.length * m
  | [], _ => by simp [sumK]
  | t :: r, h => by
    have h1 := h t (by simp)
    have h2 := sumK_bd m r (fun x hx => h x (by simp [hx]))
    have : sumK l s (t :: r) = (knS l s (num l t)).1 + sumK l s r := by simp [sumK]
    rw [this, List.length_cons, Nat.add_mul]; omega

/- THE REFERENCE's PARTS: in lowest terms, compared crosswise -/
theorem nearRef_low {l : List Tp} (h : RightF l) {a b : ByteArray} (ha : (lk l a).isSome = true) (hb : (lk l b).isSome = true) : nearRef l a b = lowN (nI l (num l a) (num l b)) 2520 := by
  have h1 := h.near (num_lt ha).2 (num_lt hb).2
  unfold nearR at h1
  have e1 := congrArg Prod.fst h1
  have e2 := congrArg Prod.snd h1
  exact Prod.ext (Int.ofNat.inj e1) (Int.ofNat.inj e2)
/-- A skill's part of a topic, as the reference has it. -/
theorem part_low {l : List Tp} (h : RightF l) {a b : ByteArray} (ha : (lk l a).isSome = true) (hb : (lk l b).isSome = true) (m : Nat) : lowN (m * (nearRef l a b).1) (100 * (nearRef l a b).2) = lowN (m * nI l (num l a) (num l b)) 252000 := by
  rw [nearRef_low h ha hb]; exact lowN_scale m 100 _ 2520 (by decide)
end Go.Proofs.YtnjigaklkalebaaDoor.For
