/-
  AGREEMENT AND agrees: the plain side of the law AgreeWholly.
-/
import Derived.Test.YtgajencgpceababGreatDoorCalV
import Derived.Test.YtgajencgpceababGreatDoorCalG
namespace Go.Proofs.YtgajencgpceababGreatDoor.Cal
open Go.ChangeShapes Go.WideShapes Go.ChangeAt Go.RowKit Stm Key
set_option linter.unusedVariables false

/-- Marks of one paper have one score. -/
def OneP (l : List Mk) : Prop := ∀ x ∈ l, ∀ y ∈ l, x.p = y.p → x.s = y.s
theorem one_u (l : List Mk) : OneU l l.length 0 ↔ OneP l := by
  constructor
  · intro h x hx y hy hp
    obtain ⟨a, ha, rfl⟩ := List.mem_iff_getElem.1 hx
    obtain ⟨b, hb, rfl⟩ := List.mem_iff_getElem.1 hy
    by_cases hab : a = b
    · subst hab; rfl
    · exact h a b _ _ (Or.inl ha) (List.getElem?_eq_getElem ha) (List.getElem?_eq_getElem hb) hab hp
  · intro h a b x y _ hx hy _ hp
    exact h x (List.mem_of_getElem? hx) y (List.mem_of_getElem? hy) hp
theorem mem_papers {l : List Mk} {x : Mk} (hx : x ∈ l) : x.p ∈ papersL l := (dedB_mem _ _).2 (List.mem_map.2 ⟨x, hx, rfl⟩)
theorem mem_scP {l : List Mk} {p : Nat} {s : Int} : s ∈ scP l p ↔ ∃ x ∈ l, idx (papersL l) x.p = p ∧ x.s = s := by
  rw [scP_eq, List.mem_map]
  constructor
  · rintro ⟨x, hx, rfl⟩
    have := List.mem_filter.1 hx
    exact ⟨x, this.1, by simpa using this.2, rfl⟩
  · rintro ⟨x, hx, hp, rfl⟩
    exact ⟨x, List.mem_filter.2 ⟨hx, by simpa using hp⟩, rfl⟩
theorem allEq_few {l : List Int} (h : l.length < 2) : allEq l := fun a ha b hb => by
  match l, h with
  | [], _ => simp at ha
  | [y], _ => simp at ha hb; rw [ha, hb]
theorem one_sc (l : List Mk) : (∀ p, p < (papersL l).length → 2 ≤ (scP l p).length → allEq (scP l p)) ↔ OneP l := by
  constructor
  · intro h x hx y hy hp
    have hm := mem_papers hx
    have h1 := (idx_at hm).1
    have ha : allEq (scP l (idx (papersL l) x.p)) := by
      rcases Nat.lt_or_ge (scP l (idx (papersL l) x.p)).length 2 with h2 | h2
      · exact allEq_few h2
      · exact h _ h1 h2
    exact ha _ (mem_scP.2 ⟨x, hx, rfl, rfl⟩) _ (mem_scP.2 ⟨y, hy, by rw [hp], rfl⟩)
  · intro h p _ _ a ha b hb
    obtain ⟨x, hx, h1, rfl⟩ := mem_scP.1 ha
    obtain ⟨y, hy, h2, rfl⟩ := mem_scP.1 hb
    exact h x hx y hy (idx_inj (mem_papers hx) (mem_papers hy) (by rw [h1, h2]))
theorem mem_agA {f : Nat → List Int} {s : Int} : ∀ k, s ∈ agA f k ↔ ∃ p, p < k ∧ 2 ≤ (f p).length ∧ s ∈ f p
  | 0 => by simp [agA]
  | k + 1 => by
    show s ∈ agA f k ++ _ ↔ _
    rw [List.mem_append, mem_agA k]
    constructor
    · rintro (⟨p, hp, h⟩ | h)
      · exact ⟨p, by omega, h⟩
      · split at h
        · simp at h
        · exact ⟨k, by omega, by omega, h⟩
    · rintro ⟨p, hp, h2, hs⟩
      by_cases e : p = k
      · subst e; exact Or.inr (by rw [if_neg (by omega)]; exact hs)
      · exact Or.inl ⟨p, by omega, h2, hs⟩
theorem two_of {l : List Mk} {q : Mk → Bool} {a b : Nat} {x y : Mk} (hab : a < b) (hx : l[a]? = some x) (hy : l[b]? = some y) (qx : q x = true) (qy : q y = true) : 2 ≤ (l.filter q).length := by
  have e : l = l.take b ++ l.drop b := (List.take_append_drop b l).symm
  have h1 : 0 < ((l.take b).filter q).length := List.length_pos_of_mem (List.mem_filter.2 ⟨List.mem_of_getElem? (i := a) (by rw [List.getElem?_take_of_lt hab]; exact hx), qx⟩)
  have h2 : 0 < ((l.drop b).filter q).length := List.length_pos_of_mem (List.mem_filter.2 ⟨List.mem_of_getElem? (i := 0) (by rw [List.getElem?_drop]; exact hy), qy⟩)
  rw [e, List.filter_append, List.length_append]
  omega
theorem two_ne {l : List Mk} {q : Mk → Bool} {a b : Nat} {x y : Mk} (hab : a ≠ b) (hx : l[a]? = some x) (hy : l[b]? = some y) (qx : q x = true) (qy : q y = true) : 2 ≤ (l.filter q).length := by
  rcases Nat.lt_or_gt_of_ne hab with h | h
  · exact two_of h hx hy qx qy
  · exact two_of h hy hx qy qx
theorem of_two {l : List Mk} {q : Mk → Bool} {x : Mk} (h2 : 2 ≤ (l.filter q).length) (hx : x ∈ l) (qx : q x = true) : ∃ (a b : Nat) (y : Mk), l[a]? = some x ∧ l[b]? = some y ∧ a ≠ b ∧ q y = true := by
  obtain ⟨a, ha, rfl⟩ := List.mem_iff_getElem.1 hx
  have e : l = l.take a ++ l[a] :: l.drop (a + 1) := by rw [← List.drop_eq_getElem_cons ha, List.take_append_drop]
  have hl : (l.filter q).length = ((l.take a).filter q).length + 1 + ((l.drop (a + 1)).filter q).length := by
    conv => lhs; rw [e, List.filter_append, List.filter_cons_of_pos qx, List.length_append, List.length_cons]
    omega
  rw [hl] at h2
  rcases Nat.eq_zero_or_pos ((l.take a).filter q).length with h0 | h0
  · obtain ⟨y, hy⟩ := List.exists_mem_of_length_pos (show 0 < ((l.drop (a + 1)).filter q).length by omega)
    have hy2 := List.mem_filter.1 hy
    obtain ⟨b, hbe⟩ := List.mem_iff_getElem?.1 hy2.1
    rw [List.getElem?_drop] at hbe
    exact ⟨a, a + 1 + b, y, List.getElem?_eq_getElem ha, hbe, by omega, hy2.2⟩
  · obtain ⟨y, hy⟩ := List.exists_mem_of_length_pos h0
    have hy2 := List.mem_filter.1 hy
    obtain ⟨b, hbe⟩ := List.mem_iff_getElem?.1 hy2.1
    have hba : b < a := by
      have := (List.getElem?_eq_some_iff.1 hbe).1
      rw [List.length_take] at this; omega
    rw [List.getElem?_take_of_lt hba] at hbe
    exact ⟨a, b, y, List.getElem?_eq_getElem ha, hbe, by omega, hy2.2⟩
theorem mem_u (l : List Mk) (s : Int) : MemU l l.length 0 s ↔ s ∈ agA (scP l) (papersL l).length := by
  rw [mem_agA]
  constructor
  · rintro ⟨a, b, x, y, _, hx, hy, hab, hp, rfl⟩
    have hxl := List.mem_of_getElem? hx
    refine ⟨idx (papersL l) x.p, (idx_at (mem_papers hxl)).1, ?_, mem_scP.2 ⟨x, hxl, rfl, rfl⟩⟩
    rw [scP_eq, List.length_map]
    exact two_ne hab hx hy (by simp) (by simp [hp])
  · rintro ⟨p, hp, h2, hs⟩
    obtain ⟨x, hx, h1, rfl⟩ := mem_scP.1 hs
    rw [scP_eq, List.length_map] at h2
    obtain ⟨a, b, y, ha, hb, hab, hq⟩ := of_two h2 hx (by simpa using h1)
    have hya := List.mem_of_getElem? hb
    exact ⟨a, b, x, y, Or.inl (List.getElem?_eq_some_iff.1 ha).1, ha, hb, hab, idx_inj (mem_papers hx) (mem_papers hya) (by rw [h1, show idx (papersL l) y.p = p by simpa using hq]), rfl⟩
theorem scP_len {l : List Mk} (h : l.length ≤ 500) (p : Nat) : (scP l p).length ≤ 500 := by
  rw [scP_eq, List.length_map]; exact Nat.le_trans (List.length_filter_le _ _) h
/-- Agreement is 1 just where agrees says so. -/
theorem agrees_one {l : List Mk} (h : l.length ≤ 500) : (OneU l l.length 0 ∨ ∀ s t, MemU l l.length 0 s → MemU l l.length 0 t → s = t) ↔ agR (scP l) (papersL l).length = (1, 1) := by
  rw [agR_one (scP_len h), one_sc, one_u]
  constructor
  · rintro (h | h)
    · exact Or.inr h
    · exact Or.inl fun a ha b hb => h a b ((mem_u l a).2 ha) ((mem_u l b).2 hb)
  · rintro (h | h)
    · exact Or.inr fun s t hs ht => h s ((mem_u l s).1 hs) t ((mem_u l t).1 ht)
    · exact Or.inl h
/-! ### Everybody gives the first score of each paper -/
def fstS (l : List Mk) (p : ByteArray) : Int := match l.find? fun x => eqB x.p p with | some x => x.s | none => 0
def lv (l : List Mk) (k : Nat) : List Mk := (l.take k).map (fun x => { x with s := fstS l x.p }) ++ l.drop k
theorem lv_len (l : List Mk) (k : Nat) : (lv l k).length = l.length := by
  unfold lv; rw [List.length_append, List.length_map, List.length_take, List.length_drop]; omega
theorem lv_at {l : List Mk} {k : Nat} (h : k < l.length) : (lv l k)[k]'(by rw [lv_len]; exact h) = l[k] := by
  unfold lv
  rw [List.getElem_append_right (by rw [List.length_map, List.length_take]; omega)]
  simp [Nat.min_eq_left (Nat.le_of_lt h)]
theorem lv_next {l : List Mk} {k : Nat} (h : k < l.length) : (lv l k).set k { l[k] with s := fstS l l[k].p } = lv l (k + 1) := by
  unfold lv
  have e : ((l.take k).map fun x => ({ x with s := fstS l x.p } : Mk)).length = k := by simp [Nat.min_eq_left (Nat.le_of_lt h)]
  rw [List.set_append_right _ _ (by rw [e]; exact Nat.le_refl _), e, Nat.sub_self, List.drop_eq_getElem_cons h, List.set_cons_zero, take_next l k h, List.map_append, List.append_assoc]
  rfl
theorem lv_all (l : List Mk) : lv l l.length = l.map fun x => { x with s := fstS l x.p } := by
  unfold lv; rw [List.take_length, List.drop_length, List.append_nil]
theorem fst_in {l : List Mk} {p : ByteArray} (h : ∃ x ∈ l, x.p = p) : ∃ x ∈ l, x.p = p ∧ fstS l p = x.s := by
  unfold fstS
  cases hf : l.find? fun x => eqB x.p p with
  | none =>
    obtain ⟨x, hx, rfl⟩ := h
    have := List.find?_eq_none.1 hf x hx
    rw [eqB_self] at this; exact absurd rfl this
  | some x => exact ⟨x, List.mem_of_find?_eq_some hf, (eqB_iff _ _).1 (by simpa using List.find?_some hf), rfl⟩
theorem fst_new {l : List Mk} {k : Nat} (h : k < l.length) (hn : ∀ x ∈ l.take k, x.p ≠ l[k].p) : fstS l l[k].p = l[k].s := by
  unfold fstS
  have e : l = l.take k ++ l[k] :: l.drop (k + 1) := by rw [← List.drop_eq_getElem_cons h, List.take_append_drop]
  have : l.find? (fun x => eqB x.p l[k].p) = some l[k] := by
    conv => lhs; arg 2; rw [e]
    rw [List.find?_append]
    have h1 : (l.take k).find? (fun x => eqB x.p l[k].p) = none := by
      rw [List.find?_eq_none]
      intro x hx h2
      exact hn x hx ((eqB_iff _ _).1 h2)
    rw [h1]
    rw [Option.none_or]
    exact List.find?_cons_of_pos (p := fun x : Mk => eqB x.p l[k].p) (eqB_self _)
  rw [this]
theorem lv_one {l : List Mk} (h : l.length ≤ 500) : agR (scP (lv l l.length)) (papersL (lv l l.length)).length = (1, 1) := by
  rw [agR_one (scP_len (by rw [lv_len]; exact h)), one_sc]
  refine Or.inr ?_
  rw [lv_all]
  intro x hx y hy hp
  obtain ⟨u, _, rfl⟩ := List.mem_map.1 hx
  obtain ⟨v, _, rfl⟩ := List.mem_map.1 hy
  show fstS l u.p = fstS l v.p
  have hp2 : u.p = v.p := hp
  rw [hp2]
theorem lv_chk {l : List Mk} (h : chkE ⟨#[]⟩ ⟨#[]⟩ 0 l = 0) : chkE ⟨#[]⟩ ⟨#[]⟩ 0 (lv l l.length) = 0 := by
  refine chk_other l _ _ _ _ h (lv_len l _) (fun i hi hi2 => ?_)
  have e : (lv l l.length)[i] = { l[i] with s := fstS l l[i].p } := by
    have h3 : (lv l l.length)[i]? = (l.map fun x => ({ x with s := fstS l x.p } : Mk))[i]? := by rw [lv_all]
    rw [List.getElem?_eq_getElem hi2, List.getElem?_map, List.getElem?_eq_getElem hi] at h3
    exact Option.some.inj h3
  rw [e]
  obtain ⟨x, hx, _, hs⟩ := fst_in ⟨l[i], List.getElem_mem hi, rfl⟩
  have := (chk_scores l _ _ _ h x hx).2
  exact ⟨rfl, rfl, by show 0 ≤ fstS l l[i].p; rw [hs]; exact this.1, by show fstS l l[i].p ≤ 10; rw [hs]; exact this.2⟩
end Go.Proofs.YtgajencgpceababGreatDoor.Cal
