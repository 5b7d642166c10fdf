/-
  MARKS IN MEMORY: lists of marks (paper, person, score).
-/
import Derived.Test.YtmihbfmlnfhgcadGreatDoorOne
import Derived.Test.YtmihbfmlnfhgcadGreatDoorBlk
import Derived.Laws.Cover1
import Derived.Deep.AppendLies
import Derived.OwnWalk
namespace Go.Proofs.YtmihbfmlnfhgcadGreatDoor.Cal
open Go.ChangeShapes Go.WideShapes Go.ChangeAt Go.RowKit Stm Key
set_option linter.unusedVariables false

/-- A mark: paper, person, score. -/
structure Mk where
  p : ByteArray
  h : ByteArray
  s : Int
def mOk (x : Mk) : Prop := x.p.size ≤ 1000 ∧ x.h.size ≤ 1000 ∧ -1099511627776 ≤ x.s ∧ x.s ≤ 1099511627776
/-- A list that is nil or lies at the head of a block that is not B. -/
def AtB (B : Nat) (A : Option Addr) (n : Nat) : Prop := (A = none ∧ n = 0) ∨ ∃ g, A = some ⟨g, 0, none⟩ ∧ g ≠ B
/-- A slice's cells are these marks. -/
def ML (w : World) (A : Option Addr) (l : List Mk) : Prop :=
  (∀ x ∈ l, mOk x) ∧ (0 < l.length → ∃ b, A = some ⟨b, 0, none⟩ ∧ b < w.heap.size ∧ ∀ (i : Nat) (h : i < l.length),
    w.cell? ⟨b, i * 3, none⟩ = some (.string l[i].p) ∧ w.cell? ⟨b, i * 3 + 1, none⟩ = some (.string l[i].h) ∧ w.cell? ⟨b, i * 3 + 2, none⟩ = some (.int .i64 l[i].s))
theorem ML.below {w w' : World} {A : Option Addr} {l : List Mk} (h : ML w A l) (hb : Below w.heap.size w w') : ML w' A l :=
  ⟨h.1, fun h0 => by
    obtain ⟨b, hA, hlt, hc⟩ := h.2 h0
    refine ⟨b, hA, Nat.lt_of_lt_of_le hlt hb.size, fun i hi => ?_⟩
    obtain ⟨c0, c1, c2⟩ := hc i hi
    exact ⟨(hb.cell (p := ⟨b, i * 3, none⟩) hlt).trans c0, (hb.cell (p := ⟨b, i * 3 + 1, none⟩) hlt).trans c1, (hb.cell (p := ⟨b, i * 3 + 2, none⟩) hlt).trans c2⟩⟩
theorem ML.gr {B : Nat} {w w' : World} {A : Option Addr} {l : List Mk} (h : ML w A l) (ha : AtB B A l.length) (g : Gr B w w') : ML w' A l :=
  ⟨h.1, fun h0 => by
    obtain ⟨b, hA, hlt, hc⟩ := h.2 h0
    have hb : b ≠ B := by
      rcases ha with ⟨_, e⟩ | ⟨g, e, hg⟩
      · omega
      · rw [e] at hA; injection hA with hA; injection hA with h1; omega
    refine ⟨b, hA, Nat.lt_of_lt_of_le hlt g.size, fun i hi => ?_⟩
    obtain ⟨c0, c1, c2⟩ := hc i hi
    exact ⟨(g.cell b _ hlt hb).trans c0, (g.cell b _ hlt hb).trans c1, (g.cell b _ hlt hb).trans c2⟩⟩
theorem ML.nil (w : World) (A : Option Addr) : ML w A [] := ⟨by simp, fun h => absurd h (by simp)⟩

def mv (x : Mk) : List Value := [.string x.p, .string x.h, .int .i64 x.s]
def flatM (l : List Mk) : List Value := l.flatMap mv
theorem flatM_cons (x : Mk) (t : List Mk) : flatM (x :: t) = .string x.p :: .string x.h :: .int .i64 x.s :: flatM t := rfl
theorem flatM_snoc (l : List Mk) (x : Mk) : flatM (l ++ [x]) = flatM l ++ mv x := by simp [flatM]
theorem flatM_length : ∀ l : List Mk, (flatM l).length = l.length * 3
  | [] => rfl
  | x :: t => by rw [flatM_cons]; simp only [List.length_cons]; rw [flatM_length t]; omega
theorem flatM_get : ∀ (l : List Mk) (i : Nat) (h : i < l.length), (flatM l)[i * 3]? = some (.string l[i].p) ∧ (flatM l)[i * 3 + 1]? = some (.string l[i].h) ∧ (flatM l)[i * 3 + 2]? = some (.int .i64 l[i].s)
  | [], i, h => by simp at h
  | x :: t, 0, _ => ⟨rfl, rfl, rfl⟩
  | x :: t, i + 1, h => by
    have := flatM_get t i (by simpa using h)
    have e1 : (i + 1) * 3 = i * 3 + 1 + 1 + 1 := by omega
    rw [e1, flatM_cons]
    simpa using this
theorem flatM_set0 : ∀ (l : List Mk) (i : Nat) (u : ByteArray) (h : i < l.length), (flatM l).set (i * 3) (.string u) = flatM (l.set i { l[i] with p := u })
  | [], i, u, h => by simp at h
  | x :: t, 0, u, _ => rfl
  | x :: t, i + 1, u, h => by
    have := flatM_set0 t i u (by simpa using h)
    have e1 : (i + 1) * 3 = i * 3 + 1 + 1 + 1 := by omega
    rw [e1, flatM_cons]
    simp only [List.set_cons_succ, this, List.getElem_cons_succ]
    rfl
theorem flatM_set1 : ∀ (l : List Mk) (i : Nat) (u : ByteArray) (h : i < l.length), (flatM l).set (i * 3 + 1) (.string u) = flatM (l.set i { l[i] with h := u })
  | [], i, u, h => by simp at h
  | x :: t, 0, u, _ => rfl
  | x :: t, i + 1, u, h => by
    have := flatM_set1 t i u (by simpa using h)
    have e1 : (i + 1) * 3 + 1 = i * 3 + 1 + 1 + 1 + 1 := by omega
    rw [e1, flatM_cons]
    simp only [List.set_cons_succ, this, List.getElem_cons_succ]
    rfl
theorem flatM_set2 : ∀ (l : List Mk) (i : Nat) (u : Int) (h : i < l.length), (flatM l).set (i * 3 + 2) (.int .i64 u) = flatM (l.set i { l[i] with s := u })
  | [], i, u, h => by simp at h
  | x :: t, 0, u, _ => rfl
  | x :: t, i + 1, u, h => by
    have := flatM_set2 t i u (by simpa using h)
    have e1 : (i + 1) * 3 + 2 = i * 3 + 2 + 1 + 1 + 1 := by omega
    rw [e1, flatM_cons]
    simp only [List.set_cons_succ, this, List.getElem_cons_succ]
    rfl
theorem row_add' (g i : Nat) : (⟨g, 0, none⟩ : Addr).add i = ⟨g, i, none⟩ := by unfold Addr.add; split <;> simp_all
theorem row_ml {w : World} {base n cap : Nat} {A : Option Addr} {l : List Mk} (h : w.ownsRow base 51 3 (.slice A n cap) n (flatM l)) (hL : l.length = n) (hok : ∀ x ∈ l, mOk x) : ML w A l := by
  refine ⟨hok, fun h0 => ?_⟩
  rcases h.2 with ⟨e, e0⟩ | ⟨g, cap', cur, e, hb, hh, _⟩
  · omega
  · injection e with e1
    subst e1
    refine ⟨g, rfl, lt_of_block hh, fun i hi => ?_⟩
    have hc := h.cells (g := g) rfl
    obtain ⟨f0, f1, f2⟩ := flatM_get l i hi
    have e0 := hc _ _ f0; have e1 := hc _ _ f1; have e2 := hc _ _ f2
    rw [row_add'] at e0 e1 e2
    exact ⟨e0, e1, e2⟩
theorem row_atB {w : World} {base n cap B : Nat} {E S : Nat} {A : Option Addr} {xs : List Value} (h : w.ownsRow base E S (.slice A n cap) n xs) (hB : B < base) : AtB B A n := by
  rcases h.2 with ⟨e, e2⟩ | ⟨g, cap', cur, e, hb, _⟩
  · injection e with e1; exact Or.inl ⟨e1, e2⟩
  · injection e with e1; exact Or.inr ⟨g, e1, by omega⟩
theorem row_cap {w : World} {base E S n cap : Nat} {A : Option Addr} {xs : List Value} (h : w.ownsRow base E S (.slice A n cap) n xs) : n ≤ cap := by
  rcases h.2 with ⟨e, e0⟩ | ⟨g', cap', cur, e, hb, hh, h1, _⟩
  · omega
  · injection e with e1 e2 e3; subst e3; exact h1
theorem own_gr {w w' : World} {B base E S n : Nat} {v : Value} {xs : List Value} (h : w.ownsRow base E S v n xs) (ho : Gr B w w') (hB : B < base) : w'.ownsRow base E S v n xs :=
  h.kept ho (by
    rcases hb : v.ownBlock with _ | g
    · exact Or.inl rfl
    · refine Or.inr ?_; have := h.lt g hb; intro e; injection e; omega)
theorem gr_row {B : Nat} {w0 w w' : World} {row : Option Nat} (g : Gr B w0 w) (h : w.grownBy w' row) (hr : ∀ g, row = some g → w0.heap.size ≤ g) : Gr B w0 w' :=
  ⟨h.os.trans g.os, h.tape.trans g.tape, h.output.trans g.output, Nat.le_trans g.size h.size, fun i hi hne =>
    (h.block i (Nat.lt_of_lt_of_le hi g.size) (fun e => by have := hr i e.symm; omega)).trans (g.block i hi hne)⟩
theorem grownB {w w' : World} {row : Option Nat} {C : Nat} (h : w.grownBy w' row) (hr : ∀ g, row = some g → C ≤ g) (hC : C ≤ w.heap.size) : Below C w w' :=
  ⟨h.os, h.tape, h.output, h.size, fun i hi => h.block i (by omega) (fun e => by have := hr i e.symm; omega)⟩
theorem own_some {g n cap r : Nat} (h : (Value.slice (some ⟨g, 0, none⟩) n cap).ownBlock = some r) : r = g := by simp [Value.ownBlock] at h; exact h.symm
theorem own_set {w : World} {base E S n cap g p : Nat} {xs : List Value} {u : Value} (h : w.ownsRow base E S (.slice (some ⟨g, 0, none⟩) n cap) n xs) (hp : p < n * S) :
    (w.setCell ⟨g, p, none⟩ u).ownsRow base E S (.slice (some ⟨g, 0, none⟩) n cap) n (xs.set p u) := by
  refine ⟨by rw [List.length_set]; exact h.1, ?_⟩
  rcases h.2 with ⟨e, _⟩ | ⟨g', cap', cur, e, hb, hh, h1, h2, h3, h4⟩
  · cases e
  · injection e with e1 e2 e3
    injection e1 with e1
    injection e1 with e1
    subst e1
    subst e3
    refine Or.inr ⟨g, cap, cur.setIfInBounds p u, rfl, hb, ?_, h1, h2, by simpa using h3, ?_⟩
    · simp [World.setCell, Array.getElem?_modify, hh]
    · rw [Array.toList_setIfInBounds, List.take_set, h4]
theorem own_frozen {w : World} {base E S n cap g : Nat} {xs : List Value} (h : w.ownsRow base E S (.slice (some ⟨g, 0, none⟩) n cap) n xs) (p : Nat) : w.frozen? ⟨g, p, none⟩ = false := by
  rcases h.2 with ⟨e, _⟩ | ⟨g', cap', cur, e, hb, hh, h1, h2, h3, h4⟩
  · cases e
  · injection e with e1 e2 e3
    injection e1 with e1
    injection e1 with e1
    subst e1
    simp [World.frozen?, hh]

/-- What the makers of marks hand back. -/
def MkRet (B k d M : Nat) (w : World) (e : Ending) (w' : World) : Prop := ∃ (A : Option Addr) (n c : Nat) (l : List Mk), e = .returned (.slice A n c) ∧ l.length = n ∧ n ≤ M ∧ n ≤ c ∧ ML w' A l ∧ AtB B A n ∧ Gr B w w' ∧ Strm w' B (k + d)
theorem mk_fin {B k d : Nat} {w w5 : World} {A : Option Addr} {m c : Nat} {l : List Mk} (hB : B < w.heap.size) (O : w5.ownsRow (w.heap.size + 1) 51 3 (.slice A m c) m (flatM l)) (HL : l.length = m) (hok : ∀ x ∈ l, mOk x) (hm : m ≤ 256) (G : Gr B w w5) (S : Strm w5 B (k + d)) :
    MkRet B k d 256 w (.returned (.slice A m c)) w5 := ⟨A, m, c, l, rfl, HL, hm, row_cap O, row_ml O HL hok, row_atB O (by omega), G, S⟩
theorem mk_set {B k d g : Nat} {w w5 : World} {m c j p : Nat} {l : List Mk} {u : Value} {x : Mk} (hB : B < w.heap.size) (O : w5.ownsRow (w.heap.size + 1) 51 3 (.slice (some ⟨g, 0, none⟩) m c) m (flatM l)) (HL : l.length = m) (hok : ∀ x ∈ l, mOk x) (hm : m ≤ 256) (G : Gr B w w5) (S : Strm w5 B (k + d))
    (hg : w.heap.size + 1 ≤ g) (hp : p < m * 3) (he : (flatM l).set p u = flatM (l.set j x)) (hx : mOk x) : MkRet B k d 256 w (.returned (.slice (some ⟨g, 0, none⟩) m c)) (w5.setCell ⟨g, p, none⟩ u) := by
  have O6 := own_set (u := u) O hp
  rw [he] at O6
  exact mk_fin hB O6 (by rw [List.length_set]; exact HL) (fun y hy => by
    rcases List.mem_or_eq_of_mem_set hy with hy | rfl
    · exact hok y hy
    · exact hx) hm (G.setCell (p := ⟨g, p, none⟩) (by show w.heap.size ≤ g; omega) u) (S.keep ((Below.refl _ _).setCell (p := ⟨g, p, none⟩) (show B + 1 ≤ g by omega) u))
end Go.Proofs.YtmihbfmlnfhgcadGreatDoor.Cal
