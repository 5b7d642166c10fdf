/-
  THE CONTRACT OF THE MAKER OF PAPERS: at most five papers in a row of the call's own, whose strings are short and whose lists lie apart.
-/
import Derived.Test.YtjlbohbkhfhkpaaGreatDoorSpoiled
import Derived.Deep.RegionLaw
import Derived.Deep.AppendLies
import Derived.Deep.DrawnRows
import Derived.OwnWalk
import Derived.Deep.DeepCutAuto
import Derived.Laws.Runes
namespace Go.Proofs.YtjlbohbkhfhkpaaGreatDoor.Stm
open Go.ChangeShapes Go.WideShapes Go.ChangeAt Go.RowKit Key
set_option linter.unusedVariables false

/- LISTS THAT LIE APART FROM SOME BLOCKS -/
def LA (w : World) (bad : List Nat) (A : Option Addr) (ss : List ByteArray) : Prop := SL w A ss ∧ ((A = none ∧ ss.length = 0) ∨ ∃ g, A = some ⟨g, 0, none⟩ ∧ g < w.heap.size ∧ g ∉ bad)
def Kp (bad : List Nat) (w w' : World) : Prop := w.heap.size ≤ w'.heap.size ∧ ∀ i, i < w.heap.size → i ∉ bad → w'.heap[i]? = w.heap[i]?
theorem LA.kp {w w' : World} {bad : List Nat} {A : Option Addr} {ss : List ByteArray} (h : LA w bad A ss) (k : Kp bad w w') : LA w' bad A ss := by
  obtain ⟨⟨h1, h2⟩, h3⟩ := h
  refine ⟨⟨h1, fun h0 => ?_⟩, ?_⟩
  · obtain ⟨b, hA, hlt, hc⟩ := h2 h0
    rcases h3 with ⟨_, e⟩ | ⟨g, e, hg, hb⟩
    · omega
    · rw [hA] at e; injection e with e; injection e with e; subst e
      exact ⟨b, hA, Nat.lt_of_lt_of_le hlt k.1, fun i hi => (World.cell?_of_block (a := ⟨b, i, none⟩) (k.2 b hlt hb)).trans (hc i hi)⟩
  · rcases h3 with e | ⟨g, e, hg, hb⟩
    · exact Or.inl e
    · exact Or.inr ⟨g, e, Nat.lt_of_lt_of_le hg k.1, hb⟩
theorem LA.move {w : World} {bad bad' : List Nat} {A : Option Addr} {ss : List ByteArray} (h : LA w bad A ss) (k : ∀ i, i < w.heap.size → i ∈ bad' → i ∈ bad) : LA w bad' A ss := by
  obtain ⟨h1, h3⟩ := h
  refine ⟨h1, ?_⟩
  rcases h3 with e | ⟨g, e, hg, hb⟩
  · exact Or.inl e
  · exact Or.inr ⟨g, e, hg, fun h => hb (k g hg h)⟩
theorem LA.atB {w : World} {bad : List Nat} {A : Option Addr} {ss : List ByteArray} (h : LA w bad A ss) {B : Nat} (hB : B ∈ bad) : AtB B A ss.length := by
  rcases h.2 with e | ⟨g, e, hg, hb⟩
  · exact Or.inl e
  · exact Or.inr ⟨g, e, fun h => hb (h ▸ hB)⟩
theorem Kp.gr {B : Nat} {w w' : World} {bad : List Nat} (h : Gr B w w') (hB : B ∈ bad) : Kp bad w w' := ⟨h.size, fun i hi hb => h.block i hi (by simp; intro e; exact hb (e ▸ hB))⟩
theorem Kp.grown {w w' : World} {bad : List Nat} {row : Option Nat} (h : w.grownBy w' row) (hr : ∀ g, row = some g → g ∈ bad) : Kp bad w w' := ⟨h.size, fun i hi hb => h.block i hi (fun e => hb (hr i e.symm))⟩
theorem Kp.trans {bad : List Nat} {a b c : World} (h : Kp bad a b) (k : Kp bad b c) : Kp bad a c := ⟨Nat.le_trans h.1 k.1, fun i hi hb => (k.2 i (Nat.lt_of_lt_of_le hi h.1) hb).trans (h.2 i hi hb)⟩
theorem Kp.alloc {bad : List Nat} (w : World) (o : Obj) : Kp bad w (w.alloc o) := ⟨by simp, fun i hi _ => Below.heap_alloc w o i hi⟩
/-- A paper whose lists lie apart. -/
def PapA (w : World) (bad : List Nat) (m : Nat) (x : Pap) : Prop := x.p.size ≤ 1000 ∧ x.t.size ≤ 1000 ∧ x.ti.size ≤ 1000 ∧ x.au.length ≤ m ∧ x.tp.length ≤ m ∧ x.au.length ≤ x.ca ∧ x.tp.length ≤ x.cb ∧ LA w bad x.A x.au ∧ LA w bad x.B x.tp
theorem PapA.kp {w w' : World} {bad : List Nat} {m : Nat} {x : Pap} (h : PapA w bad m x) (k : Kp bad w w') : PapA w' bad m x := ⟨h.1, h.2.1, h.2.2.1, h.2.2.2.1, h.2.2.2.2.1, h.2.2.2.2.2.1, h.2.2.2.2.2.2.1, h.2.2.2.2.2.2.2.1.kp k, h.2.2.2.2.2.2.2.2.kp k⟩
theorem PapA.move {w : World} {bad bad' : List Nat} {m : Nat} {x : Pap} (h : PapA w bad m x) (k : ∀ i, i < w.heap.size → i ∈ bad' → i ∈ bad) : PapA w bad' m x := ⟨h.1, h.2.1, h.2.2.1, h.2.2.2.1, h.2.2.2.2.1, h.2.2.2.2.2.1, h.2.2.2.2.2.2.1, h.2.2.2.2.2.2.2.1.move k, h.2.2.2.2.2.2.2.2.move k⟩
theorem PapA.papN {w : World} {bad : List Nat} {m : Nat} {x : Pap} (h : PapA w bad m x) {B : Nat} (hB : B ∈ bad) (hm : m ≤ 900) : PapN w B m x :=
  ⟨⟨h.1, h.2.1, h.2.2.1, by have := h.2.2.2.1; omega, by have := h.2.2.2.2.1; omega, h.2.2.2.2.2.1, h.2.2.2.2.2.2.1, h.2.2.2.2.2.2.2.1.1, h.2.2.2.2.2.2.2.2.1⟩, h.2.2.2.1, h.2.2.2.2.1, h.2.2.2.2.2.2.2.1.atB hB, h.2.2.2.2.2.2.2.2.atB hB⟩
theorem LA.far {w : World} {bad : List Nat} {A : Option Addr} {ss : List ByteArray} (h : LA w bad A ss) (C : Nat) (hC : w.heap.size ≤ C) : AtB C A ss.length := by
  rcases h.2 with e | ⟨g, e, hg, _⟩
  · exact Or.inl e
  · exact Or.inr ⟨g, e, by omega⟩
theorem PapA.far {w : World} {bad : List Nat} {m : Nat} {x : Pap} (h : PapA w bad m x) (C : Nat) (hC : w.heap.size ≤ C) : AtB C x.A x.au.length ∧ AtB C x.B x.tp.length := ⟨h.2.2.2.2.2.2.2.1.far C hC, h.2.2.2.2.2.2.2.2.far C hC⟩
theorem row_la {w : World} {base n cap : Nat} {bad : List Nat} {A : Option Addr} {ss : List ByteArray} (h : w.ownsRow base 9 1 (.slice A n cap) n (ss.map Value.string)) (L : ss.length = n) (hsz : ∀ x ∈ ss, x.size ≤ 1000) (hb : ∀ i, i ∈ bad → i < base) : LA w bad A ss := by
  refine ⟨row_sl h L hsz, ?_⟩
  rcases h.2 with ⟨e, e2⟩ | ⟨g, cap', cur, e, hbase, hh, _⟩
  · injection e with e1; exact Or.inl ⟨e1, by omega⟩
  · injection e with e1; subst e1
    exact Or.inr ⟨g, rfl, lt_of_block hh, fun hm => by have := hb g hm; omega⟩

/- ROWS OF PAPERS -/
def flatP (xs : List Pap) : List Value := xs.flatMap fun x => x.cells.toList
theorem flatP_snoc (xs : List Pap) (x : Pap) : flatP (xs ++ [x]) = flatP xs ++ x.cells.toList := by simp [flatP]
theorem flatP_length (xs : List Pap) : (flatP xs).length = xs.length * 5 := by
  induction xs with
  | nil => rfl
  | cons x t ih => simp [flatP, Pap.cells] at ih ⊢; omega
theorem flatP_get : ∀ (xs : List Pap) (i : Nat) (h : i < xs.length) (j : Nat), j < 5 → (flatP xs)[i * 5 + j]? = xs[i].cells[j]?
  | [], i, h, _, _ => by simp at h
  | x :: t, 0, _, j, hj => by
    show (x.cells.toList ++ flatP t)[0 * 5 + j]? = _
    rw [List.getElem?_append_left (by simp [Pap.cells]; omega)]
    simp
  | x :: t, i + 1, h, j, hj => by
    have := flatP_get t i (by simpa using h) j hj
    show (x.cells.toList ++ flatP t)[(i + 1) * 5 + j]? = _
    rw [List.getElem?_append_right (by simp [Pap.cells]; omega)]
    have e : (i + 1) * 5 + j - x.cells.toList.length = i * 5 + j := by simp [Pap.cells]; omega
    rw [e, this]; simp
/-- Block g is a row of these papers. -/
def PB (w : World) (g : Nat) (xs : List Pap) : Prop := ∃ cs, Blk w g 56 cs ∧ ∀ (i : Nat) (h : i < xs.length) (j : Nat), j < 5 → cs[i * 5 + j]? = xs[i].cells[j]?
theorem row_pb {w : World} {base n cap g : Nat} {xs : List Pap} (h : w.ownsRow base 56 5 (.slice (some ⟨g, 0, none⟩) n cap) n (flatP xs)) (L : xs.length = n) : PB w g xs := by
  rcases h.2 with ⟨e, _⟩ | ⟨g', cap', cur, e, _, hh, hc, _, hs, ht⟩
  · cases e
  · injection e with e1 _ e3; injection e1 with e1; injection e1 with e1; subst e1
    refine ⟨cur, hh, fun i hi j hj => ?_⟩
    rw [← flatP_get xs i hi j hj, ← ht, List.getElem?_take_of_lt (by omega)]
    simp
theorem PB.cell {w : World} {g : Nat} {xs : List Pap} (h : PB w g xs) (i : Nat) (hi : i < xs.length) : w.cell? ⟨g, i * 5, none⟩ = some (.string xs[i].p) ∧ w.cell? ⟨g, i * 5 + 1, none⟩ = some (.string xs[i].t) ∧ w.cell? ⟨g, i * 5 + 2, none⟩ = some (.string xs[i].ti) ∧
    w.cell? ⟨g, i * 5 + 3, none⟩ = some (.slice xs[i].A xs[i].au.length xs[i].ca) ∧ w.cell? ⟨g, i * 5 + 4, none⟩ = some (.slice xs[i].B xs[i].tp.length xs[i].cb) := by
  obtain ⟨cs, hb, hc⟩ := h
  exact ⟨hb.cell _ _ ((hc i hi 0 (by omega)).trans rfl), hb.cell _ _ ((hc i hi 1 (by omega)).trans rfl), hb.cell _ _ ((hc i hi 2 (by omega)).trans rfl), hb.cell _ _ ((hc i hi 3 (by omega)).trans rfl), hb.cell _ _ ((hc i hi 4 (by omega)).trans rfl)⟩
theorem PB.lt {w : World} {g : Nat} {xs : List Pap} (h : PB w g xs) : g < w.heap.size := by obtain ⟨cs, hb, _⟩ := h; exact hb.lt
theorem PB.frozen {w : World} {g : Nat} {xs : List Pap} (h : PB w g xs) (o : Nat) : w.frozen? ⟨g, o, none⟩ = false := by obtain ⟨cs, hb, _⟩ := h; exact hb.frozen o
theorem PB.gr {w w' : World} {g B : Nat} {xs : List Pap} (h : PB w g xs) (hg : Gr B w w') (hne : g ≠ B) : PB w' g xs := by
  obtain ⟨cs, hb, hc⟩ := h
  exact ⟨cs, (hg.block g hb.lt (by simpa using hne)).trans hb, hc⟩
theorem PB.set {w : World} {g : Nat} {xs : List Pap} (h : PB w g xs) (k : Nat) (hk : k < xs.length) (x : Pap) :
    PB (((((w.setCell ⟨g, k * 5, none⟩ (.string x.p)).setCell ⟨g, k * 5 + 1, none⟩ (.string x.t)).setCell ⟨g, k * 5 + 2, none⟩ (.string x.ti)).setCell ⟨g, k * 5 + 3, none⟩ (.slice x.A x.au.length x.ca)).setCell ⟨g, k * 5 + 4, none⟩ (.slice x.B x.tp.length x.cb)) g (xs.set k x) := by
  obtain ⟨cs, hb, hc⟩ := h
  refine ⟨_, ((((hb.set_ (k * 5) _).set_ (k * 5 + 1) _).set_ (k * 5 + 2) _).set_ (k * 5 + 3) _).set_ (k * 5 + 4) _, fun i hi j hj => ?_⟩
  have hi' : i < xs.length := by simpa using hi
  have hsz : k * 5 + 4 < cs.size := by
    have h4 := hc k hk 4 (by omega)
    rcases Nat.lt_or_ge (k * 5 + 4) cs.size with h | h
    · exact h
    · rw [Array.getElem?_eq_none h] at h4; cases h4
  by_cases e : i = k
  · subst e
    rw [List.getElem_set_self]
    rcases (by omega : j = 0 ∨ j = 1 ∨ j = 2 ∨ j = 3 ∨ j = 4) with rfl | rfl | rfl | rfl | rfl
    · rw [Array.getElem?_setIfInBounds_ne (by omega), Array.getElem?_setIfInBounds_ne (by omega), Array.getElem?_setIfInBounds_ne (by omega), Array.getElem?_setIfInBounds_ne (by omega), Nat.add_zero, Array.getElem?_setIfInBounds_self_of_lt (by omega)]; rfl
    · rw [Array.getElem?_setIfInBounds_ne (by omega), Array.getElem?_setIfInBounds_ne (by omega), Array.getElem?_setIfInBounds_ne (by omega), Array.getElem?_setIfInBounds_self_of_lt (by simp; omega)]; rfl
    · rw [Array.getElem?_setIfInBounds_ne (by omega), Array.getElem?_setIfInBounds_ne (by omega), Array.getElem?_setIfInBounds_self_of_lt (by simp; omega)]; rfl
    · rw [Array.getElem?_setIfInBounds_ne (by omega), Array.getElem?_setIfInBounds_self_of_lt (by simp; omega)]; rfl
    · rw [Array.getElem?_setIfInBounds_self_of_lt (by simp; omega)]; rfl
  · rw [List.getElem_set_ne (fun h => e h.symm), ← hc i hi' j hj]
    rw [Array.getElem?_setIfInBounds_ne (by omega), Array.getElem?_setIfInBounds_ne (by omega), Array.getElem?_setIfInBounds_ne (by omega), Array.getElem?_setIfInBounds_ne (by omega), Array.getElem?_setIfInBounds_ne (by omega)]
theorem pb_pl {w : World} {g B m : Nat} {xs : List Pap} (h : PB w g xs) (hx : ∀ x ∈ xs, PapN w B m x) : PL w (some ⟨g, 0, none⟩) xs :=
  ⟨fun x hxm => (hx x hxm).1, fun _ => ⟨g, rfl, h.lt, fun i hi => h.cell i hi⟩⟩

theorem enc_le (j : Nat) (h : j < 6) : (Utf8.encode (97 + (j : Int))).size ≤ 4 := by
  rcases (by omega : j = 0 ∨ j = 1 ∨ j = 2 ∨ j = 3 ∨ j = 4 ∨ j = 5) with rfl | rfl | rfl | rfl | rfl | rfl <;> decide

theorem row_gr2 {w w' : World} {B base E S n : Nat} {v : Value} {xs : List Value} (h : w.ownsRow base E S v n xs) (hg : Gr B w w') (hB : B < base) : w'.ownsRow base E S v n xs :=
  h.kept hg (by
    rcases hb : v.ownBlock with _ | g
    · exact Or.inl rfl
    · refine Or.inr ?_; have := h.lt g hb; intro e; injection e; omega)
theorem papA_push {wr w7 : World} {X : Obj} {B gg m : Nat} {own : Option Nat} {y : Pap} (h : PapA wr (B :: own.toList) m y) (hgrow : (wr.alloc X).grownBy w7 own) (hat : own = some gg ∨ gg = wr.heap.size + 1) : PapA w7 [B, gg] m y := by
  have h1 : PapA wr (gg :: B :: own.toList) m y := h.move (fun i hi hm => by
    rcases List.mem_cons.1 hm with e | e
    · rcases hat with ha | ha
      · subst e; rw [ha]; simp
      · omega
    · exact e)
  have h2 := (h1.kp (Kp.alloc wr X)).kp (Kp.grown hgrow (fun g hg => by rw [hg]; simp))
  exact h2.move (fun i _ hm => by
    simp only [List.mem_cons, List.mem_nil_iff, or_false] at hm
    rcases hm with e | e
    · subst e; simp
    · subst e; simp)
theorem PapN.far {w : World} {B m : Nat} {x : Pap} {p : Addr} (h : PapN w B m x) (h1 : AtB p.block x.A x.au.length) (h2 : AtB p.block x.B x.tp.length) (u : Value) : PapN (w.setCell p u) B m x :=
  ⟨⟨h.1.1, h.1.2.1, h.1.2.2.1, h.1.2.2.2.1, h.1.2.2.2.2.1, h.1.2.2.2.2.2.1, h.1.2.2.2.2.2.2.1, h.1.2.2.2.2.2.2.2.1.far h1 u, h.1.2.2.2.2.2.2.2.2.far h2 u⟩, h.2⟩
theorem PapN.far5 {w : World} {B m g a b c d f : Nat} {x : Pap} (h : PapN w B m x) (h1 : AtB g x.A x.au.length) (h2 : AtB g x.B x.tp.length) (u0 u1 u2 u3 u4 : Value) :
    PapN (((((w.setCell ⟨g, a, none⟩ u0).setCell ⟨g, b, none⟩ u1).setCell ⟨g, c, none⟩ u2).setCell ⟨g, d, none⟩ u3).setCell ⟨g, f, none⟩ u4) B m x :=
  PapN.far (p := ⟨g, f, none⟩) (PapN.far (p := ⟨g, d, none⟩) (PapN.far (p := ⟨g, c, none⟩) (PapN.far (p := ⟨g, b, none⟩) (PapN.far (p := ⟨g, a, none⟩) h h1 h2 _) h1 h2 _) h1 h2 _) h1 h2 _) h1 h2 _
theorem gr_far5 {w w' : World} {B g a b c d f : Nat} (h : Gr B w w') (hg : w.heap.size ≤ g) (u0 u1 u2 u3 u4 : Value) :
    Gr B w (((((w'.setCell ⟨g, a, none⟩ u0).setCell ⟨g, b, none⟩ u1).setCell ⟨g, c, none⟩ u2).setCell ⟨g, d, none⟩ u3).setCell ⟨g, f, none⟩ u4) :=
  ((((h.setCell (p := ⟨g, a, none⟩) hg _).setCell (p := ⟨g, b, none⟩) hg _).setCell (p := ⟨g, c, none⟩) hg _).setCell (p := ⟨g, d, none⟩) hg _).setCell (p := ⟨g, f, none⟩) hg _
theorem bel_far5 {w' : World} {C g a b c d f : Nat} (hg : C ≤ g) (u0 u1 u2 u3 u4 : Value) :
    Below C w' (((((w'.setCell ⟨g, a, none⟩ u0).setCell ⟨g, b, none⟩ u1).setCell ⟨g, c, none⟩ u2).setCell ⟨g, d, none⟩ u3).setCell ⟨g, f, none⟩ u4) :=
  (((((Below.refl C w').setCell (p := ⟨g, a, none⟩) hg _).setCell (p := ⟨g, b, none⟩) hg _).setCell (p := ⟨g, c, none⟩) hg _).setCell (p := ⟨g, d, none⟩) hg _).setCell (p := ⟨g, f, none⟩) hg _
theorem new_old {w : World} {o : Obj} {n : Nat} {v : Obj} (h : w.heap[n]? = some v) : (w.alloc o).heap[n]? = some v := (Below.heap_alloc w o n (lt_of_block h)).trans h
/- THE AUTHORS -/
/-- What stands while a paper's authors are drawn. -/
def AS (wq : World) (B K Bp g a : Nat) (id tr ti : ByteArray) (Tb : Option Addr) (tn tc : Nat) (v : World) : Prop := ∃ (A : Option Addr) (m c : Nat) (au : List ByteArray) (cs : Array Value),
  au.length = m ∧ m ≤ a ∧ (∀ x ∈ au, x.size ≤ 1000) ∧ Blk v Bp 56 #[.string id, .string tr, .string ti, .slice A m c, .slice Tb tn tc] ∧ v.ownsRow (Bp + 1) 9 1 (.slice A m c) m (au.map Value.string) ∧
  Blk v g 3 cs ∧ Nums cs 4 ∧ Gr B wq v ∧ Strm v B K
theorem AS.mono {wq v : World} {B K K' Bp g a a' : Nat} {id tr ti : ByteArray} {Tb : Option Addr} {tn tc : Nat} (h : AS wq B K Bp g a id tr ti Tb tn tc v) (h1 : K ≤ K') (h2 : a ≤ a') : AS wq B K' Bp g a' id tr ti Tb tn tc v := by
  obtain ⟨A, m, c, au, cs, q1, q2, q3, q4, q5, q6, q7, q8, q9⟩ := h
  exact ⟨A, m, c, au, cs, q1, Nat.le_trans q2 h2, q3, q4, q5, q6, q7, q8, q9.mono h1⟩
theorem rowne {w : World} {C E S n : Nat} {v : Value} {xs : List Value} (h : w.ownsRow (C + 1) E S v n xs) : some C ≠ v.ownBlock := by
  intro e; have := h.lt C e.symm; omega
theorem blkg {w w' : World} {B : Nat} {t : TypeId} {cs : Array Value} {row : Option Nat} (h : Blk w B t cs) (hb : w.grownBy w' row) (hg : some B ≠ row) : Blk w' B t cs := (hb.block B h.lt hg).trans h
theorem rowt {w : World} {base e S n g : Nat} {v : Value} {xs : List Value} {t : TypeId} {cs : Array Value} (h : w.ownsRow base e S v n xs) (hg : Blk w g t cs) (hne : e ≠ t) : some g ≠ v.ownBlock := by
  rcases h.2 with ⟨rfl, _⟩ | ⟨g', cap, cur, rfl, _, hh, _⟩
  · simp [Value.ownBlock]
  · intro he
    have e1 : g = g' := by simpa [Value.ownBlock] using he
    subst e1
    unfold Blk at hg
    rw [hh] at hg
    injection hg with hg
    injection hg with _ ht
    exact hne ht
theorem rowfar {w : World} {base E S n : Nat} {v : Value} {xs : List Value} {p : Addr} (h : w.ownsRow base E S v n xs) (hp : p.block < base) (u : Value) (hs : p.spot = none) : (w.setCell p u).ownsRow base E S v n xs := by
  have ho : Only p.block w (w.setCell p u) := ⟨rfl, rfl, rfl, by simp [World.setCell], fun k hk => Below.heap_setCell _ _ _ _ hk⟩
  exact row_only h ho hp
/-- The append, as one step of the region that draws. -/
theorem step_author {ops : Array Oper} {oo : Oper} {ac : Act} {KK : Act → World → Prop} {Q : Exit → Act → World → Prop} {E : Prop} {wq v W : World} {B K Bp g a H : Nat} {id tr ti : ByteArray} {Tb : Option Addr} {tn tc m c : Nat} {A : Option Addr} {au : List ByteArray} {cs : Array Value} {x : ByteArray} (s y : Operand) (hgd : oo.guard = none)
    (ho : oo.op = .call { callee := .builtin .append, args := #[s, y], argTypes := #[52, 52] }) (hs : ac.eval s = .slice A m c) (hy : ac.eval y = .slice (some ⟨H, 0, none⟩) 1 1)
    (hb : Below v.heap.size v W) (hnew : W.heap[H]? = some (.cells #[.string x] 9 (0, 0))) (hx : x.size ≤ 1000) (L : au.length = m) (hm : m ≤ a) (ha : a ≤ 100) (hsz : ∀ x ∈ au, x.size ≤ 1000)
    (hBp : Blk v Bp 56 #[.string id, .string tr, .string ti, .slice A m c, .slice Tb tn tc]) (hO : v.ownsRow (Bp + 1) 9 1 (.slice A m c) m (au.map Value.string))
    (hg : Blk v g 3 cs) (hN : Nums cs 4) (hgr : Gr B wq v) (hst : Strm v B K) (hq : wq.heap.size ≤ Bp) (hB : B < Bp)
    (hn : ∀ gg cap' w9, AS wq B K Bp g (a + 1) id tr ti Tb tn tc (w9.setCell ⟨Bp, 3, none⟩ (.slice (some ⟨gg, 0, none⟩) (m + 1) cap')) → w9.cell? ⟨Bp, 3, none⟩ = some (.slice A m c) → w9.frozen? ⟨Bp, 3, none⟩ = false → KK (ac.put oo.dst (.slice (some ⟨gg, 0, none⟩) (m + 1) cap')) w9) :
    if Region.wanted oo (yielded ops ac.tmps) = true then Oper.wp Tryz.prog oo ac W KK Q else E := by
  obtain ⟨i0, hi0, hz0, hz1, hz2⟩ := info_parts infoS
  have h8 := own_below hO (hb.mono (Nat.le_refl _))
  have c8 := hBp.below hb hBp.lt
  have g8 := hg.below hb hg.lt
  have gr8 := hgr.trans (Gr.below hb)
  have st8 := hst.keep (hb.mono (by have := hst.lt; omega))
  have hlt := c8.lt
  refine step_append_lies _ hgd s y _ ho (Bp + 1) 9 i0 _ 1 16 Tryz.underlying52 hi0 hz0 hz1 hz2 rfl (by omega) (.slice A m c) m (au.map Value.string) hs h8
    ⟨H, 0, none⟩ 1 1 [.string x] hy rfl (World.news_of_block (cs := #[.string x]) (t := 9) (fr := (0, 0)) hnew) (by simp [Value.oneCell'])
    (by omega) (by unfold maxLen; omega) (by omega) (by omega) W.heap.size rfl ?_
  intro gg cap' w9 hown hgrow hat hgl
  have hrow : ∀ g, (Value.slice A m c).ownBlock = some g → Bp + 1 ≤ g := fun g hgg => (h8.lt g hgg).1
  have hc := blkg c8 hgrow (rowne h8)
  have hgo := blkg g8 hgrow (rowt h8 g8 (by decide))
  have hne : g ≠ Bp := by
    rintro rfl
    unfold Blk at hc hgo
    rw [hc] at hgo; injection hgo with hgo; injection hgo with _ ht; exact absurd ht (by decide)
  have hgg : Bp + 1 ≤ gg := (hown.lt gg rfl).1
  refine hn gg cap' w9 ⟨some ⟨gg, 0, none⟩, m + 1, cap', au ++ [x], cs, by simp [L], by omega, ?_, hc.set_ 3 _, ?_, hgo.far (by simpa using hne) _, hN, ?_, ?_⟩ (hc.cell 3 _ rfl) (hc.frozen 3)
  · intro y hy
    rcases List.mem_append.1 hy with h | h
    · exact hsz y h
    · simp at h; subst h; exact hx
  · rw [List.map_append]
    exact rowfar hown (by simp) _ rfl
  · exact (row_gr gr8 hgrow (fun g e => by have := hrow g e; omega)).setCell (by simp; omega) _
  · exact st8.keep ((grown_below hgrow (fun g e => by have := hrow g e; omega) (by omega)).setCell (by simp; omega) _)
end Go.Proofs.YtjlbohbkhfhkpaaGreatDoor.Stm
