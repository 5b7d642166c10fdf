/-
  THE CONTRACT OF THE REFERENCE'S NearOf; and that the reference's answers on a right forest are the program's.
-/
import Derived.Test.YtebfndiaiaegmaaGreatDoorRefAsk
import Derived.Test.YtebfndiaiaegmaaGreatDoorFractionGen
namespace Go.Proofs.YtebfndiaiaegmaaGreatDoor.For
open Go.ChangeShapes Go.WideShapes Go.ChangeAt Go.RowKit Stm Key
set_option linter.unusedVariables false

def nearRef (l : List Tp) (a b : ByteArray) : Nat × Nat :=
  if (meetR l a b).toList.isEmpty then (0, 1) else
    ((2 * (abv l (l.length + 1) (meetR l a b)).length) / Nat.gcd (2 * (abv l (l.length + 1) (meetR l a b)).length) ((abv l (l.length + 1) a).length + (abv l (l.length + 1) b).length),
     ((abv l (l.length + 1) a).length + (abv l (l.length + 1) b).length) / Nat.gcd (2 * (abv l (l.length + 1) (meetR l a b)).length) ((abv l (l.length + 1) a).length + (abv l (l.length + 1) b).length))

/- ON A RIGHT FOREST BOTH ANSWER ALIKE -/
structure RightF (l : List Tp) : Prop where
  dist : Dist l
  miss : l.any (misses l) = false
  nl : NL (pars l)
  deep : deeps (pars l) = false
theorem rightF {l : List Tp} (h : forestE l = 0) : RightF l := by
  obtain ⟨h1, _, h2, h3, h4⟩ := forest_parts h
  exact ⟨rising_dist l _ h1, h2, NL_of h3, h4⟩
theorem RightF.abv {l : List Tp} (h : RightF l) {i : Nat} (hi : i < l.length) : abv l (l.length + 1) l[i].k = keysOf l (way (pars l) i) := abv_way h.dist h.miss h.nl hi
theorem RightF.rng {l : List Tp} (h : RightF l) {i : Nat} (hi : i < l.length) : ∀ x ∈ way (pars l) (i : Nat), 0 ≤ x ∧ x < l.length := fun x hx => by
  have := way_range (pars_good l) (p := i) (by omega) (by rw [pars_len]; omega) hx
  rw [pars_len] at this; exact this
theorem RightF.above {l : List Tp} (h : RightF l) {s : ByteArray} {i : Nat} (hi : lk l s = some i) : For.abv l (l.length + 1) s = keysOf l (way (pars l) (i : Nat)) := by
  obtain ⟨h1, h2⟩ := lk_some l s i hi
  rw [← h2]; exact h.abv h1
theorem RightF.below {l : List Tp} (h : RightF l) {s : ByteArray} {i : Nat} (hi : lk l s = some i) : ∀ k, k ≤ l.length → belR l s k = belS l i k
  | 0, _ => by simp [belR, belS]
  | k + 1, hk => by
    obtain ⟨h1, h2⟩ := lk_some l s i hi
    have hkl : k < l.length := by omega
    rw [belR_next hkl, belS_next hkl, h.below hi k (by omega)]
    have e : has (For.abv l (l.length + 1) l[k].k) s = (way (pars l) (k : Nat)).contains (i : Int) := by
      rw [h.abv hkl, ← h2]; exact has_keys h.dist (h.rng hkl) h1
    rw [e]
theorem find_keys {l : List Tp} (p : ByteArray → Bool) (q : Int → Bool) : ∀ (W : List Int), (∀ x ∈ W, p (l.getD x.toNat ⟨⟨#[]⟩, ⟨#[]⟩⟩).k = q x) → (keysOf l W).find? p = (W.find? q).map (fun x => (l.getD x.toNat ⟨⟨#[]⟩, ⟨#[]⟩⟩).k)
  | [], _ => rfl
  | x :: t, h => by
    show ((l.getD x.toNat ⟨⟨#[]⟩, ⟨#[]⟩⟩).k :: keysOf l t).find? p = _
    rw [List.find?_cons, List.find?_cons, h x (by simp), find_keys p q t (fun y hy => h y (by simp [hy]))]
    cases q x <;> rfl
theorem RightF.meet {l : List Tp} (h : RightF l) {a b : ByteArray} {i j : Nat} (hi : lk l a = some i) (hj : lk l b = some j) : meetR l a b = if MF (pars l) i j = -1 then ⟨#[]⟩ else (l.getD (MF (pars l) i j).toNat ⟨⟨#[]⟩, ⟨#[]⟩⟩).k := by
  obtain ⟨h1, h2⟩ := lk_some l a i hi
  obtain ⟨h3, h4⟩ := lk_some l b j hj
  unfold meetR
  rw [h.above hi, h.above hj, find_keys (fun x => has (keysOf l (way (pars l) (j : Nat))) x) (fun x => (way (pars l) (j : Nat)).contains x) _ (fun x hx => by
    have hx2 := h.rng h1 x hx
    have hxl : x.toNat < l.length := by omega
    have e : (l.getD x.toNat ⟨⟨#[]⟩, ⟨#[]⟩⟩).k = l[x.toNat].k := by simp [List.getD, List.getElem?_eq_getElem hxl]
    have e2 : ((x.toNat : Nat) : Int) = x := by omega
    show has _ (l.getD x.toNat ⟨⟨#[]⟩, ⟨#[]⟩⟩).k = _
    rw [e, has_keys h.dist (h.rng h3) hxl, e2])]
  unfold MF
  cases hf : (way (pars l) (i : Nat)).find? (fun x => (way (pars l) (j : Nat)).contains x) with
  | none => simp
  | some m =>
    have hm := h.rng h1 m (List.mem_of_find?_eq_some hf)
    simp only [Option.map_some, Option.getD_some]
    rw [if_neg (by omega)]
theorem RightF.near {l : List Tp} (h : RightF l) {a b : ByteArray} {i j : Nat} (hi : lk l a = some i) (hj : lk l b = some j) : (((nearRef l a b).1 : Int), ((nearRef l a b).2 : Int)) = nearR l i j := by
  obtain ⟨h1, h2⟩ := lk_some l a i hi
  obtain ⟨h3, h4⟩ := lk_some l b j hj
  have hpl := pars_len l
  have hG := pars_good l
  have hm := h.meet hi hj
  by_cases hm1 : MF (pars l) i j = -1
  · rw [if_pos hm1] at hm
    unfold nearRef nearR nearI
    have he : (⟨#[]⟩ : ByteArray).toList.isEmpty = true := by rw [Lib.toList_data]; rfl
    rw [hm, if_pos hm1, if_pos he]; decide
  · rw [if_neg hm1] at hm
    have hmr := MF_range (b := j) hG (a := i) (by omega) (by omega)
    obtain ⟨c, hc⟩ : ∃ c : Nat, MF (pars l) i j = c := ⟨(MF (pars l) i j).toNat, by omega⟩
    have hd := MF_deep hG h.nl (a := i) (b := j) (by omega) (by omega) hm1
    rw [hc] at hmr hd
    have hcl : c < l.length := by omega
    have hck : meetR l a b = l[c].k := by rw [hm, hc]; simp [List.getD, List.getElem?_eq_getElem hcl]
    have hne : (meetR l a b).toList.isEmpty = false := by rw [hck]; exact h.dist.2 _ (List.getElem_mem hcl)
    have e1 : (For.abv l (l.length + 1) (meetR l a b)).length = (way (pars l) (c : Nat)).length := by rw [hck, h.abv hcl]; simp [keysOf]
    have e2 : (For.abv l (l.length + 1) a).length = (way (pars l) (i : Nat)).length := by rw [h.above hi]; simp [keysOf]
    have e3 : (For.abv l (l.length + 1) b).length = (way (pars l) (j : Nat)).length := by rw [h.above hj]; simp [keysOf]
    obtain ⟨q1, hq1⟩ := way_suffix hG h.nl (p := i) (by omega) (by omega) hd.1
    obtain ⟨q2, hq2⟩ := way_suffix hG h.nl (p := j) (by omega) (by omega) hd.2.1
    have s1 := congrArg List.length hq1
    have s2 := congrArg List.length hq2
    rw [List.length_append] at s1 s2
    have la := way_pos h.nl (i := i) (by omega)
    have lb := way_pos h.nl (i := j) (by omega)
    have ua := deep_le h.deep (i := i) (by omega)
    have ub := deep_le h.deep (i := j) (by omega)
    have uc := deep_le h.deep (i := c) (by omega)
    have hI : (nearI (pars l) i j).toNat = 2520 * 2 * (way (pars l) (c : Nat)).length / ((way (pars l) (i : Nat)).length + (way (pars l) (j : Nat)).length) := by
      unfold nearI
      rw [if_neg hm1, hc]
      generalize (way (pars l) (c : Nat)).length = s
      generalize (way (pars l) (i : Nat)).length = p
      generalize (way (pars l) (j : Nat)).length = q
      have : (5040 * (s : Int) / ((p : Int) + (q : Int))) = ((2520 * 2 * s / (p + q) : Nat) : Int) := by
        rw [Int.natCast_ediv, Int.natCast_add, Int.natCast_mul]; rfl
      rw [this]; rfl
    unfold nearRef nearR
    rw [hne, e1, e2, e3, hI]
    simp only [Bool.false_eq_true, if_false]
    generalize (way (pars l) (c : Nat)).length = s at *
    generalize (way (pars l) (i : Nat)).length = p at *
    generalize (way (pars l) (j : Nat)).length = q at *
    have hp := near_parts ⟨p + q, by omega⟩ ⟨s, by omega⟩ (by show 2 ≤ p + q; omega) (by show 2 * s ≤ p + q; omega)
    exact Prod.ext (congrArg (fun x : Nat => (x : Int)) hp.1.symm) (congrArg (fun x : Nat => (x : Int)) hp.2.symm)
end Go.Proofs.YtebfndiaiaegmaaGreatDoor.For
