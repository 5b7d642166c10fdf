/-
  MARKS: what one person gives, as a function of papers; maps of that; a range over such a map; counts.
-/
import Derived.Test.YthhiefpickpiaaaGreatDoorCalTd
import Derived.Maps.RangeWalk
import Derived.StringKeys
namespace Go.Proofs.YthhiefpickpiaaaGreatDoor.Cal
open Go.ChangeShapes Go.WideShapes Go.ChangeAt Go.RowKit Stm Key
open Go.Maps (Keyed string_keyed)
set_option linter.unusedVariables false

/-! ### The marks' pairs differ -/
def lexP (p h : ByteArray) (x : Mk) : Prop := p.data.toList < x.p.data.toList ∨ (p = x.p ∧ h.data.toList < x.h.data.toList)
theorem lexP_trans {p h : ByteArray} {x y : Mk} (h1 : lexP p h x) (h2 : lexP x.p x.h y) : lexP p h y := by
  rcases h1 with h1 | ⟨rfl, h1⟩
  · rcases h2 with h2 | ⟨e, h2⟩
    · exact Or.inl (bl_trans h1 h2)
    · exact Or.inl (e ▸ h1)
  · rcases h2 with h2 | ⟨e, h2⟩
    · exact Or.inl h2
    · exact Or.inr ⟨e, bl_trans h1 h2⟩
theorem chk_lex : ∀ (l : List Mk) (lp lh : ByteArray) (c : Nat), chkE lp lh c l = 0 → (∀ x ∈ l, lexP lp lh x) ∧ l.Pairwise fun x y => lexP x.p x.h y
  | [], _, _, _, _ => ⟨by simp, by simp⟩
  | y :: t, lp, lh, c, h => by
    unfold chkE at h
    by_cases h0 : stepE lp lh (newC lp c y) y = 0
    · rw [if_neg (by simpa using h0)] at h
      have hy : lexP lp lh y := by
        rcases ordP_pos (step_ok h0).2.1 with h | ⟨e, h⟩
        · exact Or.inl h
        · exact Or.inr ⟨e.symm, h⟩
      obtain ⟨h1, h2⟩ := chk_lex t _ _ _ h
      refine ⟨fun x hx => ?_, List.pairwise_cons.2 ⟨fun x hx => h1 x hx, h2⟩⟩
      rcases List.mem_cons.1 hx with rfl | hx
      · exact hy
      · exact lexP_trans hy (h1 x hx)
    · rw [if_pos h0] at h; exact absurd h h0
theorem lexP_ne {x y : Mk} (h : lexP x.p x.h y) : ¬ (x.p = y.p ∧ x.h = y.h) := by
  rintro ⟨e1, e2⟩
  rcases h with h | ⟨_, h⟩
  · rw [e1] at h; exact bl_irrefl _ h
  · rw [e2] at h; exact bl_irrefl _ h
theorem chk_uniq {l : List Mk} {lp lh : ByteArray} {c : Nat} (h : chkE lp lh c l = 0) : ∀ x ∈ l, ∀ y ∈ l, x.p = y.p → x.h = y.h → x = y := by
  have hp := (chk_lex l lp lh c h).2
  intro x hx y hy e1 e2
  obtain ⟨i, hi, rfl⟩ := List.mem_iff_getElem.1 hx
  obtain ⟨j, hj, rfl⟩ := List.mem_iff_getElem.1 hy
  rcases Nat.lt_trichotomy i j with h | h | h
  · exact absurd ⟨e1, e2⟩ (lexP_ne (List.pairwise_iff_getElem.1 hp i j hi hj h))
  · subst h; rfl
  · exact absurd ⟨e1.symm, e2.symm⟩ (lexP_ne (List.pairwise_iff_getElem.1 hp j i hj hi h))

/-! ### What a person gives -/
/-- The first mark that fits. -/
def gv (l : List Mk) (p h : ByteArray) : Option Int := (l.find? fun x => eqB x.p p && eqB x.h h).map Mk.s
def updO (f : ByteArray → Option Int) (s : ByteArray) (y : Int) : ByteArray → Option Int := fun t => if eqB s t = true then some y else f t
/-- The last mark that fits. -/
def byF (l : List Mk) (h : ByteArray) : ByteArray → Option Int := l.foldl (fun f x => if eqB x.h h = true then updO f x.p x.s else f) fun _ => none
theorem byF_snoc (l : List Mk) (x : Mk) (h : ByteArray) : byF (l ++ [x]) h = if eqB x.h h = true then updO (byF l h) x.p x.s else byF l h := by
  unfold byF; rw [List.foldl_append]; rfl
theorem byF_says (h p : ByteArray) : ∀ l : List Mk, (∃ x ∈ l, x.p = p ∧ x.h = h ∧ byF l h p = some x.s) ∨ ((∀ x ∈ l, ¬ (x.p = p ∧ x.h = h)) ∧ byF l h p = none) := by
  intro l
  induction hn : l.length generalizing l with
  | zero => obtain rfl := List.length_eq_zero_iff.1 hn; exact Or.inr ⟨by simp, rfl⟩
  | succ n ih =>
    obtain ⟨t, x, rfl⟩ : ∃ t x, l = t ++ [x] := ⟨l.dropLast, l.getLast (by intro e; rw [e] at hn; cases hn), (List.dropLast_concat_getLast _).symm⟩
    have hi := ih t (by simpa using hn)
    rw [byF_snoc]
    by_cases h1 : eqB x.h h = true
    · rw [if_pos h1]
      unfold updO
      by_cases h2 : eqB x.p p = true
      · rw [if_pos h2]; exact Or.inl ⟨x, by simp, (eqB_iff _ _).1 h2, (eqB_iff _ _).1 h1, rfl⟩
      · rw [if_neg h2]
        rcases hi with ⟨y, hy, e1, e2, e3⟩ | ⟨hno, e⟩
        · exact Or.inl ⟨y, by simp [hy], e1, e2, e3⟩
        · refine Or.inr ⟨fun y hy => ?_, e⟩
          rcases List.mem_append.1 hy with hy | hy
          · exact hno y hy
          · obtain rfl := List.mem_singleton.1 hy; exact fun k => h2 ((eqB_iff _ _).2 k.1)
    · rw [if_neg h1]
      rcases hi with ⟨y, hy, e1, e2, e3⟩ | ⟨hno, e⟩
      · exact Or.inl ⟨y, by simp [hy], e1, e2, e3⟩
      · refine Or.inr ⟨fun y hy => ?_, e⟩
        rcases List.mem_append.1 hy with hy | hy
        · exact hno y hy
        · obtain rfl := List.mem_singleton.1 hy; exact fun k => h1 ((eqB_iff _ _).2 k.2)
theorem gv_says (l : List Mk) (p h : ByteArray) : (∃ x ∈ l, x.p = p ∧ x.h = h ∧ gv l p h = some x.s) ∨ ((∀ x ∈ l, ¬ (x.p = p ∧ x.h = h)) ∧ gv l p h = none) := by
  unfold gv
  cases hf : l.find? fun x => eqB x.p p && eqB x.h h with
  | none =>
    refine Or.inr ⟨fun x hx k => ?_, rfl⟩
    have := List.find?_eq_none.1 hf x hx
    rw [(eqB_iff _ _).2 k.1, (eqB_iff _ _).2 k.2] at this
    simp at this
  | some x =>
    have h1 := List.find?_some hf
    simp only [Bool.and_eq_true] at h1
    exact Or.inl ⟨x, List.mem_of_find?_eq_some hf, (eqB_iff _ _).1 h1.1, (eqB_iff _ _).1 h1.2, rfl⟩
theorem byF_gv {l : List Mk} (hu : ∀ x ∈ l, ∀ y ∈ l, x.p = y.p → x.h = y.h → x = y) (p h : ByteArray) : byF l h p = gv l p h := by
  rcases byF_says h p l with ⟨x, hx, e1, e2, e3⟩ | ⟨h1, e⟩
  · rcases gv_says l p h with ⟨y, hy, f1, f2, f3⟩ | ⟨h2, _⟩
    · rw [e3, f3, hu x hx y hy (e1.trans f1.symm) (e2.trans f2.symm)]
    · exact absurd ⟨e1, e2⟩ (h2 x hx)
  · rcases gv_says l p h with ⟨y, hy, f1, f2, _⟩ | ⟨_, f⟩
    · exact absurd ⟨f1, f2⟩ (h1 y hy)
    · rw [e, f]
theorem gv_mem {l : List Mk} {p h : ByteArray} {v : Int} (hg : gv l p h = some v) : ∃ x ∈ l, x.p = p ∧ x.s = v := by
  rcases gv_says l p h with ⟨y, hy, f1, f2, f3⟩ | ⟨_, f⟩
  · exact ⟨y, hy, f1, Option.some.inj (f3.symm.trans hg)⟩
  · rw [hg] at f; cases f

theorem pk_mem (l : List Mk) : ∀ x ∈ l, x.p ∈ papersL l := fun x hx => (dedB_mem _ _).2 (List.mem_map.2 ⟨x, hx, rfl⟩)

/-! ### The map of that -/
/-- Block M holds a map that has what f has; it has taken c stores. -/
def MO (w : World) (M c : Nat) (f : ByteArray → Option Int) : Prop := ∃ D : DataW Unit, w.ownsMap Tryz.prog 9 (plainElem Tryz.prog 3) M c D ∧
  ∀ s : ByteArray, (∀ z, D.atKey (.string s.data.toList) z = match f s with | some v => .lit (.int .i64 v) | none => z) ∧ Maps.has D (.string s.data.toList) = (f s).isSome
theorem MO.below {w w' : World} {M c : Nat} {f : ByteArray → Option Int} (h : MO w M c f) (hb : Below w.heap.size w w') : MO w' M c f := by
  obtain ⟨D, h1, h2⟩ := h
  exact ⟨D, h1.kept (row := none) ⟨hb.os, hb.tape, hb.output, hb.size, fun k hk _ => hb.block k hk⟩ (by simp), h2⟩
theorem MO.gr {w w' : World} {M c : Nat} {f : ByteArray → Option Int} {row : Option Nat} (h : MO w M c f) (hb : w.grownBy w' row) (hne : some M ≠ row) : MO w' M c f := by
  obtain ⟨D, h1, h2⟩ := h
  exact ⟨D, h1.kept hb hne, h2⟩
theorem MO.lt {w : World} {M c : Nat} {f : ByteArray → Option Int} (h : MO w M c f) : M < w.heap.size := by
  obtain ⟨D, h1, _⟩ := h
  exact h1.lt
theorem mo_new (w : World) : MO (w.alloc (.map #[] 0)) w.heap.size 0 (fun _ => none) := ⟨.map [], World.ownsMap_made _ _ _ _, fun _ => ⟨fun _ => rfl, rfl⟩⟩
theorem mo_put {w w' : World} {M c : Nat} {f : ByteArray → Option Int} {D : DataW Unit} {s : ByteArray} {y : Int} (h : w.ownsMap Tryz.prog 9 (plainElem Tryz.prog 3) M c D)
    (hf : ∀ s : ByteArray, (∀ z, D.atKey (.string s.data.toList) z = match f s with | some v => .lit (.int .i64 v) | none => z) ∧ Maps.has D (.string s.data.toList) = (f s).isSome)
    (h2 : w'.ownsMap Tryz.prog 9 (plainElem Tryz.prog 3) M (c + 1) (D.put (.string s.data.toList) (.lit (.int .i64 y)))) : MO w' M (c + 1) (updO f s y) :=
  ⟨_, h2, fun t => by
    unfold updO
    cases hx : eqB s t with
    | true =>
      have hs : s = t := (eqB_iff _ _).1 hx
      subst hs
      exact ⟨fun z => by rw [Maps.atKey_put_same (k := .string s.data.toList) h.isMap (show WideAt.IsKeyLit (.string _) from trivial), if_pos rfl], by rw [Maps.has_put_same (k := .string s.data.toList) h.isMap (show WideAt.IsKeyLit (.string _) from trivial), if_pos rfl]; rfl⟩
    | false =>
      refine ⟨fun z => ?_, ?_⟩
      · rw [Maps.atKey_put_other (key_ne hx), (hf t).1 z]; simp
      · rw [Maps.has_put_other (key_ne hx), (hf t).2]; simp⟩

/-! ### A range over strings and integers -/
theorem wpList_next_si (w : World) {ops : Array Oper} {rest : List Oper} {o : Oper} {a : Act} {Q : Exit → Act → World → Prop}
    (hg : o.guard = none) (it : Operand) (hop : o.op = Op.next it false) (b r n : Nat) (D : DataW Unit) (left : Lit → Bool) (cnt : Nat)
    (hit : a.eval it = .pointer (some ⟨r, 0, none⟩)) (h : w.ranges Tryz.prog 9 (plainElem Tryz.prog 3) b r n D left cnt)
    (hDone : cnt = 0 → (∀ kl, left kl = false) → wpList Tryz.prog ops Q rest (a.put o.dst (.tuple #[.bool false])) w)
    (hMore : ∀ (x : ByteArray) (c : Int) (w' : World) (cnt' : Nat), x.size ≤ maxLen → left (.string x.data.toList) = true → (∀ zd, D.atKey (.string x.data.toList) zd = .lit (.int .i64 c)) → w'.ranges Tryz.prog 9 (plainElem Tryz.prog 3) b r n D (fun z => left z && !z.sameKey (.string x.data.toList)) cnt' → cnt' < cnt →
      w.grownBy w' (some r) → w'.heap.size = w.heap.size → (Instr.entry (.pointer (some ⟨r, 0, none⟩))).run Tryz.prog w' = .ok (.tuple #[.string x, .int .i64 c]) w' → wpList Tryz.prog ops Q rest (a.put o.dst (.tuple #[.bool true, .string x, .int .i64 c])) w') :
    wpList Tryz.prog ops Q (o :: rest) a w :=
  wpList_next_ranges w hg it hop 9 keyLaw (plainElem Tryz.prog 3) Value.string (Value.int .i64) (fun key kl hkey => by obtain ⟨x, rfl, _⟩ := Go.WideMaps.string_of_keyOf Tryz.underlying9 hkey; exact ⟨x, rfl⟩) (fun v y hv => by obtain ⟨c, rfl, _⟩ := plainElem_int_inv Tryz.underlying3 hv; exact ⟨c, rfl⟩)
    b r n D left cnt hit h hDone (fun x c kl y w' cnt' hkey hlk hv hat hrg hlt hgr hsz hen => by
      obtain ⟨x', ex, rfl, hwx⟩ := Go.WideMaps.string_of_keyOf Tryz.underlying9 hkey
      cases ex
      obtain ⟨c', ec, rfl, hwc⟩ := plainElem_int_inv Tryz.underlying3 hv
      cases ec
      exact hMore x c w' cnt' hwx hlk hat hrg hlt hgr hsz hen)

/-! ### Counts -/
/-- Over the keys that are done and have both: what F says of the two values. -/
def tot (ks : List ByteArray) (f g : ByteArray → Option Int) (F : Int → Int → Int) (done : ByteArray → Bool) : Int :=
  (ks.map fun s => if done s = true then (match f s, g s with | some x, some y => F x y | _, _ => 0) else 0).sum
def term (f g : ByteArray → Option Int) (F : Int → Int → Int) (s : ByteArray) : Int := match f s, g s with | some x, some y => F x y | _, _ => 0
theorem tot_cons (s : ByteArray) (t : List ByteArray) (f g : ByteArray → Option Int) (F : Int → Int → Int) (done : ByteArray → Bool) : tot (s :: t) f g F done = (if done s = true then term f g F s else 0) + tot t f g F done := rfl
theorem tot_same {ks : List ByteArray} {f g : ByteArray → Option Int} {F : Int → Int → Int} {d e : ByteArray → Bool} (h : ∀ s ∈ ks, d s = e s) : tot ks f g F d = tot ks f g F e := by
  unfold tot
  congr 1
  exact List.map_congr_left fun s hs => by rw [h s hs]
theorem tot_zero {ks : List ByteArray} {f g : ByteArray → Option Int} {F : Int → Int → Int} {d : ByteArray → Bool} (h : ∀ s ∈ ks, d s = true → term f g F s = 0) : tot ks f g F d = 0 := by
  induction ks with
  | nil => rfl
  | cons s t ih =>
    rw [tot_cons, ih (fun x hx => h x (List.mem_cons_of_mem _ hx))]
    by_cases hd : d s = true
    · rw [if_pos hd, h s (List.mem_cons_self ..) hd]; rfl
    · rw [if_neg hd]; rfl
theorem tot_step {ks : List ByteArray} (hd : ks.Nodup) {f g : ByteArray → Option Int} {F : Int → Int → Int} {d e : ByteArray → Bool} {x : ByteArray} (hx : x ∈ ks) (h1 : d x = false) (h2 : e x = true) (h3 : ∀ s ∈ ks, s ≠ x → e s = d s) : tot ks f g F e = tot ks f g F d + term f g F x := by
  induction ks with
  | nil => cases hx
  | cons s t ih =>
    obtain ⟨hs, ht⟩ := List.nodup_cons.1 hd
    rw [tot_cons, tot_cons]
    by_cases e1 : s = x
    · subst e1
      rw [h1, h2, if_pos rfl, if_neg (by simp), tot_same (e := d) (fun y hy => h3 y (List.mem_cons_of_mem _ hy) (fun k => hs (k ▸ hy)))]
      omega
    · have hx2 : x ∈ t := by
        rcases List.mem_cons.1 hx with k | k
        · exact absurd k.symm e1
        · exact k
      rw [ih ht hx2 (fun y hy => h3 y (List.mem_cons_of_mem _ hy)), h3 s (List.mem_cons_self ..) e1]
      omega
theorem tot_bd {ks : List ByteArray} {f g : ByteArray → Option Int} {F : Int → Int → Int} {d : ByteArray → Bool} (h : ∀ x y, 0 ≤ F x y ∧ F x y ≤ 1) : 0 ≤ tot ks f g F d ∧ tot ks f g F d ≤ ks.length := by
  induction ks with
  | nil => simp [tot]
  | cons s t ih =>
    rw [tot_cons, List.length_cons]
    have hb : 0 ≤ term f g F s ∧ term f g F s ≤ 1 := by
      unfold term
      split
      · exact h _ _
      · omega
    push_cast
    split <;> omega
def one_ : Int → Int → Int := fun _ _ => 1
def eqv_ : Int → Int → Int := fun x y => if x = y then 1 else 0
def fst_ (k : Nat) : Int → Int → Int := fun x _ => if x = (k : Int) then 1 else 0
def snd_ (k : Nat) : Int → Int → Int := fun _ y => if y = (k : Int) then 1 else 0
theorem one_bd (x y : Int) : 0 ≤ one_ x y ∧ one_ x y ≤ 1 := by unfold one_; omega
theorem eqv_bd (x y : Int) : 0 ≤ eqv_ x y ∧ eqv_ x y ≤ 1 := by unfold eqv_; split <;> omega
theorem fst_bd (k : Nat) (x y : Int) : 0 ≤ fst_ k x y ∧ fst_ k x y ≤ 1 := by unfold fst_; split <;> omega
theorem snd_bd (k : Nat) (x y : Int) : 0 ≤ snd_ k x y ∧ snd_ k x y ≤ 1 := by unfold snd_; split <;> omega
/-- The first k numbers of u, added up. -/
def upto (u : Nat → Int) : Nat → Int
  | 0 => 0
  | k + 1 => upto u k + u k
theorem upto_add (u v : Nat → Int) : ∀ k, upto (fun i => u i + v i) k = upto u k + upto v k
  | 0 => rfl
  | k + 1 => by simp only [upto]; rw [upto_add u v k]; omega
theorem upto_zero : ∀ k, upto (fun _ => 0) k = 0
  | 0 => rfl
  | k + 1 => by simp only [upto]; rw [upto_zero k]; rfl
theorem upto_ite (c : Bool) (u : Nat → Int) (k : Nat) : upto (fun i => if c = true then u i else 0) k = if c = true then upto u k else 0 := by
  cases c
  · simpa using upto_zero k
  · simp
theorem upto_pick (x : Int) : ∀ k : Nat, upto (fun i => if x = (i : Int) then 1 else 0) k = if 0 ≤ x ∧ x < (k : Int) then 1 else 0
  | 0 => by simp only [upto]; rw [if_neg (by omega)]
  | k + 1 => by
    simp only [upto]
    rw [upto_pick x k]
    by_cases h : x = (k : Int)
    · rw [if_pos h, if_neg (by omega), if_pos (by push_cast; omega)]; rfl
    · rw [if_neg h]
      by_cases h2 : 0 ≤ x ∧ x < (k : Int)
      · rw [if_pos h2, if_pos (by push_cast; omega)]; rfl
      · rw [if_neg h2, if_neg (by push_cast; omega)]; rfl
theorem upto_tot {ks : List ByteArray} {f g : ByteArray → Option Int} {d : ByteArray → Bool} (hf : ∀ s v, f s = some v → 0 ≤ v ∧ v ≤ 10) : upto (fun k => tot ks f g (fst_ k) d) 11 = tot ks f g one_ d := by
  induction ks with
  | nil => exact upto_zero 11
  | cons s t ih =>
    simp only [tot_cons]
    rw [upto_add, ih, upto_ite]
    congr 1
    have : upto (fun k => term f g (fst_ k) s) 11 = term f g one_ s := by
      unfold term
      cases hs : f s with
      | none => exact upto_zero 11
      | some x =>
        cases hg : g s with
        | none => exact upto_zero 11
        | some y =>
          have hb := hf s x hs
          show upto (fun k => if x = (k : Int) then 1 else 0) 11 = 1
          rw [upto_pick, if_pos (by omega)]
    rw [this]
theorem upto_le {u v : Nat → Int} : ∀ k, (∀ i, i < k → u i ≤ v i) → upto u k ≤ upto v k
  | 0, _ => Int.le_refl _
  | k + 1, h => by
    simp only [upto]
    have h1 := upto_le (u := u) (v := v) k (fun i hi => h i (by omega))
    have h2 := h k (by omega)
    omega
theorem upto_mul (N : Int) (u : Nat → Int) : ∀ k, upto (fun i => u i * N) k = upto u k * N
  | 0 => by simp [upto]
  | k + 1 => by simp only [upto]; rw [upto_mul N u k, Int.add_mul]
theorem upto_nonneg {u : Nat → Int} : ∀ k, (∀ i, i < k → 0 ≤ u i) → 0 ≤ upto u k
  | 0, _ => Int.le_refl _
  | k + 1, h => by
    simp only [upto]
    have h1 := upto_nonneg (u := u) k (fun i hi => h i (by omega))
    have h2 := h k (by omega)
    omega
end Go.Proofs.YthhiefpickpiaaaGreatDoor.Cal
