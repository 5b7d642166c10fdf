/-
  PLAIN MATHEMATICS OF FORESTS: lists of parents' numbers, the way up from a number, the deepest number above two.
-/
namespace Go.Proofs.YtnjigaklkalebaaDoor.For
set_option linter.unusedVariables false

/-- The number above (-1: there is none). -/
def up (P : List Int) (p : Int) : Int := P.getD p.toNat (-1)
/-- Is there still a number after f steps up? -/
def lf (P : List Int) : Nat → Int → Bool
  | 0, p => p != -1
  | f + 1, p => p != -1 && lf P f (up P p)
/-- At most f numbers on the way up. -/
def pth (P : List Int) : Nat → Int → List Int
  | 0, _ => []
  | f + 1, p => if p = -1 then [] else p :: pth P f (up P p)
def itr (P : List Int) : Nat → Int → Int
  | 0, p => p
  | k + 1, p => itr P k (up P p)
def Good (P : List Int) : Prop := ∀ i : Nat, i < P.length → -1 ≤ P.getD i (-1) ∧ P.getD i (-1) < P.length
def NL (P : List Int) : Prop := ∀ i : Nat, i < P.length → lf P P.length i = false
def way (P : List Int) (p : Int) : List Int := pth P P.length p

theorem up_range {P : List Int} (h : Good P) {p : Int} (h0 : 0 ≤ p) (h1 : p < P.length) : -1 ≤ up P p ∧ up P p < P.length := h p.toNat (by omega)
theorem pth_neg (P : List Int) (f : Nat) : pth P f (-1) = [] := by cases f <;> rfl
theorem pth_stop (P : List Int) : ∀ (f : Nat) (p : Int), lf P f p = false → pth P (f + 1) p = pth P f p
  | 0, p, h => by
    have : p = -1 := by simpa [lf] using h
    subst this; rfl
  | f + 1, p, h => by
    by_cases hp : p = -1
    · subst hp; rfl
    · have h2 : lf P f (up P p) = false := by simpa [lf, hp] using h
      have ih := pth_stop P f _ h2
      show (if p = -1 then [] else p :: pth P (f + 1) (up P p)) = (if p = -1 then [] else p :: pth P f (up P p))
      rw [ih]
theorem way_neg (P : List Int) : way P (-1) = [] := pth_neg _ _
theorem way_cons {P : List Int} (hN : NL P) {p : Int} (h0 : 0 ≤ p) (h1 : p < P.length) : way P p = p :: way P (up P p) := by
  have h := hN p.toNat (by omega)
  rw [Int.toNat_of_nonneg h0] at h
  unfold way
  obtain ⟨m, hm⟩ : ∃ m, P.length = m + 1 := ⟨P.length - 1, by omega⟩
  rw [hm] at h ⊢
  have hp : p ≠ -1 := by omega
  have h2 : lf P m (up P p) = false := by simpa [lf, hp] using h
  rw [pth_stop P m _ h2]
  show (if p = -1 then [] else p :: pth P m (up P p)) = _
  rw [if_neg hp]
theorem pth_range {P : List Int} (hG : Good P) : ∀ (f : Nat) (p x : Int), -1 ≤ p → p < P.length → x ∈ pth P f p → 0 ≤ x ∧ x < P.length
  | 0, p, x, _, _, h => by simp [pth] at h
  | f + 1, p, x, h0, h1, h => by
    by_cases hp : p = -1
    · subst hp; simp [pth] at h
    · simp only [pth, if_neg hp, List.mem_cons] at h
      rcases h with rfl | h
      · omega
      · have := up_range hG (p := p) (by omega) h1
        exact pth_range hG f _ x this.1 this.2 h
theorem way_range {P : List Int} (hG : Good P) {p x : Int} (h0 : -1 ≤ p) (h1 : p < P.length) (h : x ∈ way P p) : 0 ≤ x ∧ x < P.length := pth_range hG _ p x h0 h1 h
theorem way_self {P : List Int} (hN : NL P) {p : Int} (h0 : 0 ≤ p) (h1 : p < P.length) : p ∈ way P p := by rw [way_cons hN h0 h1]; simp
theorem way_suffix_aux {P : List Int} (hG : Good P) (hN : NL P) : ∀ (L : List Int) (p x : Int), way P p = L → -1 ≤ p → p < P.length → x ∈ L → ∃ q, L = q ++ way P x
  | [], p, x, _, _, _, h => by simp at h
  | a :: t, p, x, hL, h0, h1, h => by
    have hp : p ≠ -1 := by rintro rfl; rw [way_neg] at hL; cases hL
    rw [way_cons hN (by omega) h1] at hL
    injection hL with ha ht
    subst ha
    rcases List.mem_cons.1 h with rfl | hx
    · refine ⟨[], ?_⟩; rw [← ht, List.nil_append]; exact (way_cons hN (by omega) h1).symm
    · have hr := up_range hG (p := p) (by omega) h1
      obtain ⟨q, hq⟩ := way_suffix_aux hG hN t (up P p) x ht hr.1 hr.2 hx
      exact ⟨p :: q, by rw [hq]; rfl⟩
theorem way_suffix {P : List Int} (hG : Good P) (hN : NL P) {p x : Int} (h0 : -1 ≤ p) (h1 : p < P.length) (h : x ∈ way P p) : ∃ q, way P p = q ++ way P x := way_suffix_aux hG hN _ p x rfl h0 h1 h

/- LOOPS -/
theorem lf_itr (P : List Int) : ∀ (f : Nat) (p : Int), lf P f p = true ↔ ∀ k, k ≤ f → itr P k p ≠ -1
  | 0, p => by
    constructor
    · intro h k hk; obtain rfl : k = 0 := by omega
      simpa [lf, itr] using h
    · intro h; simpa [lf, itr] using h 0 (Nat.le_refl _)
  | f + 1, p => by
    constructor
    · intro h k hk
      simp only [lf, Bool.and_eq_true] at h
      cases k with
      | zero => simpa [itr] using h.1
      | succ k => exact (lf_itr P f _).1 h.2 k (by omega)
    · intro h
      simp only [lf, Bool.and_eq_true]
      exact ⟨by simpa [itr] using h 0 (by omega), (lf_itr P f _).2 fun k hk => h (k + 1) (by omega)⟩
theorem itr_add (P : List Int) : ∀ (a b : Nat) (p : Int), itr P (a + b) p = itr P b (itr P a p)
  | 0, b, p => by rw [Nat.zero_add]; rfl
  | a + 1, b, p => by rw [show a + 1 + b = (a + b) + 1 by omega]; exact itr_add P a b (up P p)
theorem mem_pth (P : List Int) : ∀ (f : Nat) (p x : Int), x ∈ pth P f p → ∃ k, k < f ∧ itr P k p = x ∧ ∀ j, j ≤ k → itr P j p ≠ -1
  | 0, p, x, h => by simp [pth] at h
  | f + 1, p, x, h => by
    by_cases hp : p = -1
    · subst hp; simp [pth] at h
    · simp only [pth, if_neg hp, List.mem_cons] at h
      rcases h with rfl | h
      · refine ⟨0, by omega, rfl, fun j hj => ?_⟩
        obtain rfl : j = 0 := by omega
        exact hp
      · obtain ⟨k, hk, he, hj⟩ := mem_pth P f _ x h
        refine ⟨k + 1, by omega, he, fun j hjk => ?_⟩
        cases j with
        | zero => exact hp
        | succ j => exact hj j (by omega)
theorem pth_mem (P : List Int) : ∀ (f k : Nat) (p : Int), k < f → (∀ j, j ≤ k → itr P j p ≠ -1) → itr P k p ∈ pth P f p
  | 0, k, p, h, _ => by omega
  | f + 1, k, p, h, hj => by
    have hp : p ≠ -1 := hj 0 (by omega)
    simp only [pth, if_neg hp, List.mem_cons]
    cases k with
    | zero => left; rfl
    | succ k => right; exact pth_mem P f k (up P p) (by omega) fun j hjk => hj (j + 1) (by omega)
theorem holes : ∀ (n : Nat) (f : Nat → Nat), (∀ k, k ≤ n → f k < n) → ∃ a b, a < b ∧ b ≤ n ∧ f a = f b
  | 0, f, h => by have := h 0 (Nat.le_refl _); omega
  | n + 1, f, h => by
    by_cases hx : ∃ a, a ≤ n ∧ f a = f (n + 1)
    · obtain ⟨a, ha, he⟩ := hx; exact ⟨a, n + 1, by omega, Nat.le_refl _, he⟩
    · have hne : ∀ a, a ≤ n → f a ≠ f (n + 1) := fun a ha he => hx ⟨a, ha, he⟩
      obtain ⟨a, b, hab, hbn, he⟩ := holes n (fun k => if f k > f (n + 1) then f k - 1 else f k) (fun k hk => by
        have h1 := h k (by omega); have h2 := h (n + 1) (Nat.le_refl _); have h3 := hne k hk
        show (if f k > f (n + 1) then f k - 1 else f k) < n
        split <;> omega)
      refine ⟨a, b, hab, by omega, ?_⟩
      have h1 := hne a (by omega); have h2 := hne b hbn
      replace he : (if f a > f (n + 1) then f a - 1 else f a) = (if f b > f (n + 1) then f b - 1 else f b) := he
      split at he <;> split at he <;> omega
theorem itr_range {P : List Int} (hG : Good P) : ∀ (k : Nat) (p : Int), 0 ≤ p → p < P.length → (∀ j, j ≤ k → itr P j p ≠ -1) → 0 ≤ itr P k p ∧ itr P k p < P.length
  | 0, p, h0, h1, _ => ⟨h0, h1⟩
  | k + 1, p, h0, h1, h => by
    have hr := up_range hG h0 h1
    have hne : up P p ≠ -1 := h 1 (by omega)
    exact itr_range hG k (up P p) (by omega) hr.2 fun j hj => h (j + 1) (by omega)
/-- Some way does not end just if some number is on its own way. -/
theorem loop_iff {P : List Int} (hG : Good P) : (∃ i : Nat, i < P.length ∧ lf P P.length i = true) ↔ (∃ i : Nat, i < P.length ∧ (i : Int) ∈ pth P P.length (up P i)) := by
  constructor
  · rintro ⟨i, hi, hl⟩
    have hn := (lf_itr P _ _).1 hl
    have hr : ∀ k, k ≤ P.length → 0 ≤ itr P k i ∧ itr P k i < P.length := fun k hk => itr_range hG k i (by omega) (by omega) fun j hj => hn j (by omega)
    obtain ⟨a, b, hab, hb, he⟩ := holes P.length (fun k => (itr P k i).toNat) (fun k hk => by have := hr k hk; show (itr P k i).toNat < P.length; omega)
    replace he : (itr P a i).toNat = (itr P b i).toNat := he
    have ha := hr a (by omega)
    have hb' := hr b hb
    refine ⟨(itr P a i).toNat, by omega, ?_⟩
    have e1 : (((itr P a i).toNat : Nat) : Int) = itr P a i := by omega
    rw [e1]
    have e2 : ∀ j, itr P j (up P (itr P a i)) = itr P (a + 1 + j) i := fun j => by
      rw [itr_add P (a + 1) j i, itr_add P a 1 i]; rfl
    have h3 := pth_mem P P.length (b - a - 1) (up P (itr P a i)) (by omega) (fun j hj => by rw [e2]; exact hn _ (by omega))
    rw [e2, show a + 1 + (b - a - 1) = b by omega] at h3
    have e4 : itr P a i = itr P b i := by omega
    rw [← e4] at h3
    exact h3
  · rintro ⟨i, hi, hm⟩
    obtain ⟨k, hk, he, hj⟩ := mem_pth P _ _ _ hm
    refine ⟨i, hi, (lf_itr P _ _).2 ?_⟩
    have step : itr P (k + 1) i = i := he
    have all : ∀ m, itr P m i ≠ -1 := by
      intro m
      induction m using Nat.strongRecOn with
      | _ m ih =>
        rcases Nat.lt_or_ge m (k + 2) with h | h
        · cases m with
          | zero => show (i : Int) ≠ -1; omega
          | succ m => exact hj m (by omega)
        · have e : itr P m i = itr P (m - (k + 1)) i := by
            conv => lhs; rw [show m = (k + 1) + (m - (k + 1)) by omega, itr_add, step]
          rw [e]; exact ih _ (by omega)
    exact fun m _ => all m

/- WHERE TWO WAYS MEET -/
def MF (P : List Int) (a b : Int) : Int := ((way P a).find? (fun x => (way P b).contains x)).getD (-1)
/-- m is on both ways, and all that is on both is on m's own. -/
def Deep (P : List Int) (a b m : Int) : Prop := m ∈ way P a ∧ m ∈ way P b ∧ ∀ x, x ∈ way P a → x ∈ way P b → x ∈ way P m
theorem find_split {l : List Int} {p : Int → Bool} {m : Int} (h : l.find? p = some m) : ∃ q r, l = q ++ m :: r ∧ p m = true ∧ ∀ x ∈ q, p x = false := by
  induction l with
  | nil => simp at h
  | cons a t ih =>
    rw [List.find?_cons] at h
    cases hp : p a with
    | true => rw [hp] at h; simp only [Option.some.injEq] at h; subst h; exact ⟨[], t, rfl, hp, by simp⟩
    | false =>
      rw [hp] at h
      obtain ⟨q, r, h1, h2, h3⟩ := ih h
      exact ⟨a :: q, r, by rw [h1]; rfl, h2, fun x hx => by rcases List.mem_cons.1 hx with rfl | hx; exact hp; exact h3 x hx⟩
theorem way_tail {P : List Int} (hG : Good P) (hN : NL P) {m : Int} {r : List Int} : ∀ (q : List Int) (a : Int), -1 ≤ a → a < P.length → way P a = q ++ m :: r → way P m = m :: r
  | [], a, h0, h1, h => by
    have ha : a ≠ -1 := by rintro rfl; rw [way_neg] at h; cases h
    have h2 := way_cons hN (show 0 ≤ a by omega) h1
    have e : a = m := by rw [h2] at h; simp only [List.nil_append, List.cons.injEq] at h; exact h.1
    subst e; exact h
  | c :: q, a, h0, h1, h => by
    have ha : a ≠ -1 := by rintro rfl; rw [way_neg] at h; cases h
    have h2 := way_cons hN (show 0 ≤ a by omega) h1
    have hr := up_range hG (p := a) (by omega) h1
    rw [h2] at h
    simp only [List.cons_append, List.cons.injEq] at h
    exact way_tail hG hN q _ hr.1 hr.2 h.2
theorem MF_deep {P : List Int} (hG : Good P) (hN : NL P) {a b : Int} (h0 : -1 ≤ a) (h1 : a < P.length) (h : MF P a b ≠ -1) : Deep P a b (MF P a b) := by
  unfold MF at *
  cases hf : (way P a).find? (fun x => (way P b).contains x) with
  | none => rw [hf] at h; exact absurd rfl h
  | some m =>
    obtain ⟨q, r, hq, hm, hx⟩ := find_split hf
    have hw := way_tail hG hN q a h0 h1 hq
    show Deep P a b m
    refine ⟨by rw [hq]; simp, by simpa using hm, fun x hxa hxb => ?_⟩
    rw [hw]
    rw [hq] at hxa
    rcases List.mem_append.1 hxa with h | h
    · have := hx x h; simp [hxb] at this
    · exact h
theorem MF_none {P : List Int} (hG : Good P) {a b : Int} (h0 : -1 ≤ a) (h1 : a < P.length) (h : MF P a b = -1) : ∀ x, x ∈ way P a → x ∉ way P b := by
  unfold MF at h
  cases hf : (way P a).find? (fun x => (way P b).contains x) with
  | none =>
    intro x hx hb
    have := List.find?_eq_none.1 hf x hx
    simp [hb] at this
  | some m =>
    rw [hf] at h
    have hm := way_range hG h0 h1 (List.mem_of_find?_eq_some hf)
    simp only [Option.getD_some] at h
    omega
theorem deep_one {P : List Int} (hG : Good P) (hN : NL P) {a b m m' : Int} (ha0 : -1 ≤ a) (ha1 : a < P.length) (h : Deep P a b m) (h' : Deep P a b m') : m = m' := by
  have r1 := way_range hG ha0 ha1 h.1
  have r2 := way_range hG ha0 ha1 h'.1
  obtain ⟨q, hq⟩ := way_suffix hG hN (p := m') (by omega) r2.2 (h'.2.2 m h.1 h.2.1)
  obtain ⟨q', hq'⟩ := way_suffix hG hN (p := m) (by omega) r1.2 (h.2.2 m' h'.1 h'.2.1)
  have l1 := congrArg List.length hq
  have l2 := congrArg List.length hq'
  rw [List.length_append] at l1 l2
  have : q = [] := List.length_eq_zero_iff.1 (by omega)
  subst this
  rw [List.nil_append, way_cons hN r2.1 r2.2, way_cons hN r1.1 r1.2] at hq
  simp only [List.cons.injEq] at hq
  exact hq.1.symm
theorem MF_comm {P : List Int} (hG : Good P) (hN : NL P) {a b : Int} (ha0 : -1 ≤ a) (ha1 : a < P.length) (hb0 : -1 ≤ b) (hb1 : b < P.length) : MF P a b = MF P b a := by
  by_cases h : MF P a b = -1
  · by_cases h' : MF P b a = -1
    · rw [h, h']
    · have d := MF_deep hG hN hb0 hb1 h'
      exact absurd d.1 (MF_none hG ha0 ha1 h _ d.2.1)
  · have d := MF_deep hG hN ha0 ha1 h
    by_cases h' : MF P b a = -1
    · exact absurd d.1 (MF_none hG hb0 hb1 h' _ d.2.1)
    · have d' := MF_deep hG hN hb0 hb1 h'
      exact deep_one hG hN ha0 ha1 d ⟨d'.2.1, d'.1, fun x h1 h2 => d'.2.2 x h2 h1⟩
theorem MF_self {P : List Int} (hG : Good P) (hN : NL P) {a : Int} (h0 : 0 ≤ a) (h1 : a < P.length) : MF P a a = a := by
  unfold MF
  rw [way_cons hN h0 h1, List.find?_cons]
  simp
theorem MF_neg (P : List Int) (b : Int) : MF P (-1) b = -1 := by unfold MF; rw [way_neg]; rfl
theorem MF_up {P : List Int} (hG : Good P) (hN : NL P) {a b : Int} (ha0 : 0 ≤ a) (ha1 : a < P.length) (hb0 : 0 ≤ b) (hb1 : b < P.length) (hne : a ≠ b) (hd : (way P b).length ≤ (way P a).length) : MF P a b = MF P (up P a) b := by
  have hn : a ∉ way P b := by
    intro hm
    obtain ⟨q, hq⟩ := way_suffix hG hN (p := b) (by omega) hb1 hm
    have l1 := congrArg List.length hq
    rw [List.length_append] at l1
    have : q = [] := List.length_eq_zero_iff.1 (by omega)
    subst this
    rw [List.nil_append, way_cons hN ha0 ha1, way_cons hN hb0 hb1] at hq
    simp only [List.cons.injEq] at hq
    exact hne hq.1.symm
  have hc : (way P b).contains a = false := by simpa using hn
  unfold MF
  rw [way_cons hN ha0 ha1, List.find?_cons, hc]
theorem MF_range {P : List Int} (hG : Good P) {a b : Int} (h0 : -1 ≤ a) (h1 : a < P.length) : -1 ≤ MF P a b ∧ MF P a b < P.length := by
  unfold MF
  cases hf : (way P a).find? (fun x => (way P b).contains x) with
  | none => simp; omega
  | some m => have := way_range hG h0 h1 (List.mem_of_find?_eq_some hf); simp only [Option.getD_some]; omega

/-- The meeting's depth, doubled, over both depths: the same parts of 2520. -/
theorem near_parts : ∀ (s : Fin 11) (d : Fin 6), 2 ≤ s.val → 2 * d.val ≤ s.val →
    (2520 * 2 * d.val / s.val) / Nat.gcd (2520 * 2 * d.val / s.val) 2520 = (2 * d.val) / Nat.gcd (2 * d.val) s.val ∧ 2520 / Nat.gcd (2520 * 2 * d.val / s.val) 2520 = s.val / Nat.gcd (2 * d.val) s.val := by decide
end Go.Proofs.YtnjigaklkalebaaDoor.For
