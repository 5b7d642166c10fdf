/-
  SHEETS AND ANSWERS IN MEMORY: lists of questions, lists of answers.
-/
import Derived.Test.YthglfcfnejjpjaaGreatDoorOne
import Derived.Test.YthglfcfnejjpjaaGreatDoorBlk
import Derived.Test.YthglfcfnejjpjaaGreatDoorStrs
import Derived.Laws.Cover1
import Derived.Deep.AppendLies
import Derived.OwnWalk
namespace Go.Proofs.YthglfcfnejjpjaaGreatDoor.Rev
open Go.ChangeShapes Go.WideShapes Go.ChangeAt Go.RowKit Stm Key
set_option linter.unusedVariables false

/-- A question: key, kind, most, options, needed, secret. -/
structure Qs where
  k : ByteArray
  d : Int
  m : Int
  o : List ByteArray
  nd : Bool
  sc : Bool
/-- An answer: question, number, option, words. -/
structure An where
  q : ByteArray
  n : Int
  o : ByteArray
  w : ByteArray
def near (z : Int) : Prop := -1099511627776 ≤ z ∧ z ≤ 1099511627776
/-- A list that is nil or lies at the head of a block that is not B. -/
def AtB (B : Nat) (A : Option Addr) (n : Nat) : Prop := (A = none ∧ n = 0) ∨ ∃ g, A = some ⟨g, 0, none⟩ ∧ g ≠ B
theorem sl_gr {w w' : World} {A : Option Addr} {ss : List ByteArray} {B : Nat} (h : SL w A ss) (ha : AtB B A ss.length) (g : Gr B w w') : SL w' A ss :=
  ⟨h.1, fun h0 => by
    obtain ⟨b, hA, hlt, hc⟩ := h.2 h0
    have hb : b ≠ B := by
      rcases ha with ⟨_, e⟩ | ⟨g, e, hg⟩
      · omega
      · rw [e] at hA; injection hA with hA; injection hA with h1; omega
    exact ⟨b, hA, Nat.lt_of_lt_of_le hlt g.size, fun i hi => (g.cell b _ hlt hb).trans (hc i hi)⟩⟩
theorem sl_nil (w : World) (A : Option Addr) : SL w A [] := ⟨by simp, fun h => absurd h (by simp)⟩
theorem blk_sl {w : World} {g : Nat} {t : TypeId} {cs : Array Value} {ss : List ByteArray} (h : Blk w g t cs) (hsz : ∀ x ∈ ss, x.size ≤ 1000) (hc : ∀ (i : Nat) (hi : i < ss.length), cs[i]? = some (.string ss[i])) : SL w (some ⟨g, 0, none⟩) ss :=
  ⟨hsz, fun _ => ⟨g, rfl, h.lt, fun i hi => h.cell _ _ (hc i hi)⟩⟩

/-- Options as they lie: a slice of these strings, not in block B. -/
def OL (B : Nat) (w : World) (v : Value) (o : List ByteArray) : Prop := ∃ (Ao : Option Addr) (co : Nat), v = .slice Ao o.length co ∧ o.length ≤ co ∧ SL w Ao o ∧ AtB B Ao o.length
theorem OL.below {B : Nat} {w w' : World} {v : Value} {o : List ByteArray} (h : OL B w v o) (hb : Below w.heap.size w w') : OL B w' v o := by
  obtain ⟨Ao, co, h1, h2, h3, h4⟩ := h; exact ⟨Ao, co, h1, h2, h3.below hb, h4⟩
theorem OL.gr {B : Nat} {w w' : World} {v : Value} {o : List ByteArray} (h : OL B w v o) (g : Gr B w w') : OL B w' v o := by
  obtain ⟨Ao, co, h1, h2, h3, h4⟩ := h; exact ⟨Ao, co, h1, h2, sl_gr h3 h4 g, h4⟩
def qOk (q : Qs) : Prop := q.k.size ≤ 1000 ∧ near q.d ∧ near q.m ∧ q.o.length ≤ 1000
/-- A slice's cells are these questions, none of which lies in block B. -/
def QL (B : Nat) (w : World) (A : Option Addr) (l : List Qs) : Prop :=
  (∀ x ∈ l, qOk x) ∧ (0 < l.length → ∃ b, A = some ⟨b, 0, none⟩ ∧ b < w.heap.size ∧ b ≠ B ∧ ∀ (i : Nat) (h : i < l.length),
    w.cell? ⟨b, i * 6, none⟩ = some (.string l[i].k) ∧ w.cell? ⟨b, i * 6 + 1, none⟩ = some (.int .i64 l[i].d) ∧ w.cell? ⟨b, i * 6 + 2, none⟩ = some (.int .i64 l[i].m) ∧
    (∃ v, w.cell? ⟨b, i * 6 + 3, none⟩ = some v ∧ OL B w v l[i].o) ∧ w.cell? ⟨b, i * 6 + 4, none⟩ = some (.bool l[i].nd) ∧ w.cell? ⟨b, i * 6 + 5, none⟩ = some (.bool l[i].sc))
theorem QL.below {B : Nat} {w w' : World} {A : Option Addr} {l : List Qs} (h : QL B w A l) (hb : Below w.heap.size w w') : QL B w' A l :=
  ⟨h.1, fun h0 => by
    obtain ⟨b, hA, hlt, hne, hc⟩ := h.2 h0
    refine ⟨b, hA, Nat.lt_of_lt_of_le hlt hb.size, hne, fun i hi => ?_⟩
    obtain ⟨c0, c1, c2, ⟨v, c3, ho⟩, c4, c5⟩ := hc i hi
    exact ⟨(hb.cell (p := ⟨b, i * 6, none⟩) hlt).trans c0, (hb.cell (p := ⟨b, i * 6 + 1, none⟩) hlt).trans c1, (hb.cell (p := ⟨b, i * 6 + 2, none⟩) hlt).trans c2, ⟨v, (hb.cell (p := ⟨b, i * 6 + 3, none⟩) hlt).trans c3, ho.below hb⟩, (hb.cell (p := ⟨b, i * 6 + 4, none⟩) hlt).trans c4, (hb.cell (p := ⟨b, i * 6 + 5, none⟩) hlt).trans c5⟩⟩
theorem QL.gr {B : Nat} {w w' : World} {A : Option Addr} {l : List Qs} (h : QL B w A l) (g : Gr B w w') : QL B w' A l :=
  ⟨h.1, fun h0 => by
    obtain ⟨b, hA, hlt, hne, hc⟩ := h.2 h0
    refine ⟨b, hA, Nat.lt_of_lt_of_le hlt g.size, hne, fun i hi => ?_⟩
    obtain ⟨c0, c1, c2, ⟨v, c3, ho⟩, c4, c5⟩ := hc i hi
    exact ⟨(g.cell b _ hlt hne).trans c0, (g.cell b _ hlt hne).trans c1, (g.cell b _ hlt hne).trans c2, ⟨v, (g.cell b _ hlt hne).trans c3, ho.gr g⟩, (g.cell b _ hlt hne).trans c4, (g.cell b _ hlt hne).trans c5⟩⟩
theorem QL.nil (B : Nat) (w : World) (A : Option Addr) : QL B w A [] := ⟨by simp, fun h => absurd h (by simp)⟩

def aOk (x : An) : Prop := x.q.size ≤ 1000 ∧ near x.n ∧ x.o.size ≤ 1000 ∧ x.w.size ≤ 1000
/-- A slice's cells are these answers. -/
def AL (w : World) (A : Option Addr) (l : List An) : Prop :=
  (∀ x ∈ l, aOk x) ∧ (0 < l.length → ∃ b, A = some ⟨b, 0, none⟩ ∧ b < w.heap.size ∧ ∀ (i : Nat) (h : i < l.length),
    w.cell? ⟨b, i * 4, none⟩ = some (.string l[i].q) ∧ w.cell? ⟨b, i * 4 + 1, none⟩ = some (.int .i64 l[i].n) ∧ w.cell? ⟨b, i * 4 + 2, none⟩ = some (.string l[i].o) ∧ w.cell? ⟨b, i * 4 + 3, none⟩ = some (.string l[i].w))
theorem AL.below {w w' : World} {A : Option Addr} {l : List An} (h : AL w A l) (hb : Below w.heap.size w w') : AL w' A l :=
  ⟨h.1, fun h0 => by
    obtain ⟨b, hA, hlt, hc⟩ := h.2 h0
    refine ⟨b, hA, Nat.lt_of_lt_of_le hlt hb.size, fun i hi => ?_⟩
    obtain ⟨c0, c1, c2, c3⟩ := hc i hi
    exact ⟨(hb.cell (p := ⟨b, i * 4, none⟩) hlt).trans c0, (hb.cell (p := ⟨b, i * 4 + 1, none⟩) hlt).trans c1, (hb.cell (p := ⟨b, i * 4 + 2, none⟩) hlt).trans c2, (hb.cell (p := ⟨b, i * 4 + 3, none⟩) hlt).trans c3⟩⟩
theorem AL.gr {B : Nat} {w w' : World} {A : Option Addr} {l : List An} (h : AL w A l) (ha : AtB B A l.length) (g : Gr B w w') : AL w' A l :=
  ⟨h.1, fun h0 => by
    obtain ⟨b, hA, hlt, hc⟩ := h.2 h0
    have hb : b ≠ B := by
      rcases ha with ⟨_, e⟩ | ⟨g, e, hg⟩
      · omega
      · rw [e] at hA; injection hA with hA; injection hA with h1; omega
    refine ⟨b, hA, Nat.lt_of_lt_of_le hlt g.size, fun i hi => ?_⟩
    obtain ⟨c0, c1, c2, c3⟩ := hc i hi
    exact ⟨(g.cell b _ hlt hb).trans c0, (g.cell b _ hlt hb).trans c1, (g.cell b _ hlt hb).trans c2, (g.cell b _ hlt hb).trans c3⟩⟩
theorem AL.nil (w : World) (A : Option Addr) : AL w A [] := ⟨by simp, fun h => absurd h (by simp)⟩

/- ROWS OF QUESTIONS: each with its options' slice. -/
def qv (p : Qs × Value) : List Value := [.string p.1.k, .int .i64 p.1.d, .int .i64 p.1.m, p.2, .bool p.1.nd, .bool p.1.sc]
def flatQ (l : List (Qs × Value)) : List Value := l.flatMap qv
theorem flatQ_cons (x : Qs × Value) (t : List (Qs × Value)) : flatQ (x :: t) = .string x.1.k :: .int .i64 x.1.d :: .int .i64 x.1.m :: x.2 :: .bool x.1.nd :: .bool x.1.sc :: flatQ t := rfl
theorem flatQ_snoc (l : List (Qs × Value)) (x : Qs × Value) : flatQ (l ++ [x]) = flatQ l ++ qv x := by simp [flatQ]
theorem flatQ_length : ∀ l : List (Qs × Value), (flatQ l).length = l.length * 6
  | [] => rfl
  | x :: t => by rw [flatQ_cons]; simp only [List.length_cons]; rw [flatQ_length t]; omega
theorem flatQ_get : ∀ (l : List (Qs × Value)) (i : Nat) (h : i < l.length), (flatQ l)[i * 6]? = some (.string l[i].1.k) ∧ (flatQ l)[i * 6 + 1]? = some (.int .i64 l[i].1.d) ∧ (flatQ l)[i * 6 + 2]? = some (.int .i64 l[i].1.m) ∧
    (flatQ l)[i * 6 + 3]? = some l[i].2 ∧ (flatQ l)[i * 6 + 4]? = some (.bool l[i].1.nd) ∧ (flatQ l)[i * 6 + 5]? = some (.bool l[i].1.sc)
  | [], i, h => by simp at h
  | x :: t, 0, _ => ⟨rfl, rfl, rfl, rfl, rfl, rfl⟩
  | x :: t, i + 1, h => by
    have := flatQ_get t i (by simpa using h)
    have e1 : (i + 1) * 6 = i * 6 + 1 + 1 + 1 + 1 + 1 + 1 := by omega
    rw [e1, flatQ_cons]
    simpa using this
theorem flatQ_set0 : ∀ (l : List (Qs × Value)) (i : Nat) (u : ByteArray) (h : i < l.length), (flatQ l).set (i * 6) (.string u) = flatQ (l.set i ({ l[i].1 with k := u }, l[i].2))
  | [], i, u, h => by simp at h
  | x :: t, 0, u, _ => rfl
  | x :: t, i + 1, u, h => by
    have := flatQ_set0 t i u (by simpa using h)
    have e1 : (i + 1) * 6 = i * 6 + 1 + 1 + 1 + 1 + 1 + 1 := by omega
    rw [e1, flatQ_cons]
    simp only [List.set_cons_succ, this, List.getElem_cons_succ]
    rfl
theorem flatQ_set1 : ∀ (l : List (Qs × Value)) (i : Nat) (u : Int) (h : i < l.length), (flatQ l).set (i * 6 + 1) (.int .i64 u) = flatQ (l.set i ({ l[i].1 with d := u }, l[i].2))
  | [], i, u, h => by simp at h
  | x :: t, 0, u, _ => rfl
  | x :: t, i + 1, u, h => by
    have := flatQ_set1 t i u (by simpa using h)
    have e1 : (i + 1) * 6 + 1 = i * 6 + 1 + 1 + 1 + 1 + 1 + 1 + 1 := by omega
    rw [e1, flatQ_cons]
    simp only [List.set_cons_succ, this, List.getElem_cons_succ]
    rfl
theorem flatQ_set2 : ∀ (l : List (Qs × Value)) (i : Nat) (u : Int) (h : i < l.length), (flatQ l).set (i * 6 + 2) (.int .i64 u) = flatQ (l.set i ({ l[i].1 with m := u }, l[i].2))
  | [], i, u, h => by simp at h
  | x :: t, 0, u, _ => rfl
  | x :: t, i + 1, u, h => by
    have := flatQ_set2 t i u (by simpa using h)
    have e1 : (i + 1) * 6 + 2 = i * 6 + 2 + 1 + 1 + 1 + 1 + 1 + 1 := by omega
    rw [e1, flatQ_cons]
    simp only [List.set_cons_succ, this, List.getElem_cons_succ]
    rfl
theorem flatQ_set3 : ∀ (l : List (Qs × Value)) (i : Nat) (o : List ByteArray) (v : Value) (h : i < l.length), (flatQ l).set (i * 6 + 3) v = flatQ (l.set i ({ l[i].1 with o := o }, v))
  | [], i, o, v, h => by simp at h
  | x :: t, 0, o, v, _ => rfl
  | x :: t, i + 1, o, v, h => by
    have := flatQ_set3 t i o v (by simpa using h)
    have e1 : (i + 1) * 6 + 3 = i * 6 + 3 + 1 + 1 + 1 + 1 + 1 + 1 := by omega
    rw [e1, flatQ_cons]
    simp only [List.set_cons_succ, this, List.getElem_cons_succ]
    rfl

theorem own_set {w : World} {base E S n cap g p : Nat} {xs : List Value} {u : Value} (h : w.ownsRow base E S (.slice (some ⟨g, 0, none⟩) n cap) n xs) (hp : p < n * S) :
    (w.setCell ⟨g, p, none⟩ u).ownsRow base E S (.slice (some ⟨g, 0, none⟩) n cap) n (xs.set p u) := by
  refine ⟨by rw [List.length_set]; exact h.1, ?_⟩
  rcases h.2 with ⟨e, _⟩ | ⟨g', cap', cur, e, hb, hh, h1, h2, h3, h4⟩
  · cases e
  · injection e with e1 e2 e3
    injection e1 with e1
    injection e1 with e1
    subst e1
    subst e3
    refine Or.inr ⟨g, cap, cur.setIfInBounds p u, rfl, hb, ?_, h1, h2, by simpa using h3, ?_⟩
    · simp [World.setCell, Array.getElem?_modify, hh]
    · rw [Array.toList_setIfInBounds, List.take_set, h4]
theorem own_frozen {w : World} {base E S n cap g : Nat} {xs : List Value} (h : w.ownsRow base E S (.slice (some ⟨g, 0, none⟩) n cap) n xs) (p : Nat) : w.frozen? ⟨g, p, none⟩ = false := by
  rcases h.2 with ⟨e, _⟩ | ⟨g', cap', cur, e, hb, hh, h1, h2, h3, h4⟩
  · cases e
  · injection e with e1 e2 e3
    injection e1 with e1
    injection e1 with e1
    subst e1
    simp [World.frozen?, hh]

/-- Each question of a row, and its options. -/
def RowOk (B : Nat) (w : World) (L : List (Qs × Value)) : Prop := ∀ p ∈ L, qOk p.1 ∧ OL B w p.2 p.1.o
theorem RowOk.gr {B : Nat} {w w' : World} {L : List (Qs × Value)} (h : RowOk B w L) (g : Gr B w w') : RowOk B w' L := fun p hp => ⟨(h p hp).1, (h p hp).2.gr g⟩
theorem RowOk.set {B : Nat} {w : World} {L : List (Qs × Value)} (h : RowOk B w L) (i : Nat) (p : Qs × Value) (hp : qOk p.1 ∧ OL B w p.2 p.1.o) : RowOk B w (L.set i p) := fun x hx => by
  rcases List.mem_or_eq_of_mem_set hx with hx | rfl
  · exact h x hx
  · exact hp
theorem row_add' (g i : Nat) : (⟨g, 0, none⟩ : Addr).add i = ⟨g, i, none⟩ := by unfold Addr.add; split <;> simp_all
theorem row_ql {B : Nat} {w : World} {base n cap : Nat} {A : Option Addr} {L : List (Qs × Value)} (h : w.ownsRow base 45 6 (.slice A n cap) n (flatQ L)) (hL : L.length = n) (hB : B < base) (hr : RowOk B w L) : QL B w A (L.map (·.1)) := by
  refine ⟨fun x hx => ?_, fun h0 => ?_⟩
  · obtain ⟨p, hp, rfl⟩ := List.mem_map.1 hx; exact (hr p hp).1
  · have h0' : 0 < L.length := by simpa using h0
    rcases h.2 with ⟨e, e0⟩ | ⟨g, cap', cur, e, hb, hh, _⟩
    · omega
    · injection e with e1
      subst e1
      refine ⟨g, rfl, lt_of_block hh, by omega, fun i hi => ?_⟩
      have hi' : i < L.length := by simpa using hi
      have hc := h.cells (g := g) rfl
      obtain ⟨f0, f1, f2, f3, f4, f5⟩ := flatQ_get L i hi'
      have e0 := hc _ _ f0; have e1 := hc _ _ f1; have e2 := hc _ _ f2; have e3 := hc _ _ f3; have e4 := hc _ _ f4; have e5 := hc _ _ f5
      rw [row_add'] at e0 e1 e2 e3 e4 e5
      rw [List.getElem_map]
      exact ⟨e0, e1, e2, ⟨_, e3, (hr _ (List.getElem_mem hi')).2⟩, e4, e5⟩

/- ROWS OF ANSWERS -/
def av (x : An) : List Value := [.string x.q, .int .i64 x.n, .string x.o, .string x.w]
def flatA (l : List An) : List Value := l.flatMap av
theorem flatA_cons (x : An) (t : List An) : flatA (x :: t) = .string x.q :: .int .i64 x.n :: .string x.o :: .string x.w :: flatA t := rfl
theorem flatA_snoc (l : List An) (x : An) : flatA (l ++ [x]) = flatA l ++ av x := by simp [flatA]
theorem flatA_length : ∀ l : List An, (flatA l).length = l.length * 4
  | [] => rfl
  | x :: t => by rw [flatA_cons]; simp only [List.length_cons]; rw [flatA_length t]; omega
theorem flatA_get : ∀ (l : List An) (i : Nat) (h : i < l.length), (flatA l)[i * 4]? = some (.string l[i].q) ∧ (flatA l)[i * 4 + 1]? = some (.int .i64 l[i].n) ∧ (flatA l)[i * 4 + 2]? = some (.string l[i].o) ∧ (flatA l)[i * 4 + 3]? = some (.string l[i].w)
  | [], i, h => by simp at h
  | x :: t, 0, _ => ⟨rfl, rfl, rfl, rfl⟩
  | x :: t, i + 1, h => by
    have := flatA_get t i (by simpa using h)
    have e1 : (i + 1) * 4 = i * 4 + 1 + 1 + 1 + 1 := by omega
    rw [e1, flatA_cons]
    simpa using this
theorem row_al {w : World} {base n cap : Nat} {A : Option Addr} {l : List An} (h : w.ownsRow base 51 4 (.slice A n cap) n (flatA l)) (hL : l.length = n) (hok : ∀ x ∈ l, aOk x) : AL w A l := by
  refine ⟨hok, fun h0 => ?_⟩
  rcases h.2 with ⟨e, e0⟩ | ⟨g, cap', cur, e, hb, hh, _⟩
  · omega
  · injection e with e1
    subst e1
    refine ⟨g, rfl, lt_of_block hh, fun i hi => ?_⟩
    have hc := h.cells (g := g) rfl
    obtain ⟨f0, f1, f2, f3⟩ := flatA_get l i hi
    have e0 := hc _ _ f0; have e1 := hc _ _ f1; have e2 := hc _ _ f2; have e3 := hc _ _ f3
    rw [row_add'] at e0 e1 e2 e3
    exact ⟨e0, e1, e2, e3⟩
theorem row_atB {w : World} {base n cap B : Nat} {E S : Nat} {A : Option Addr} {xs : List Value} (h : w.ownsRow base E S (.slice A n cap) n xs) (hB : B < base) : AtB B A n := by
  rcases h.2 with ⟨e, e2⟩ | ⟨g, cap', cur, e, hb, _⟩
  · injection e with e1; exact Or.inl ⟨e1, e2⟩
  · injection e with e1; exact Or.inr ⟨g, e1, by omega⟩
theorem own_only {w w' : World} {B base E S n : Nat} {v : Value} {xs : List Value} (h : w.ownsRow base E S v n xs) (ho : Only B w w') (hB : B < base) : w'.ownsRow base E S v n xs :=
  h.kept (Gr.only ho) (by
    rcases hb : v.ownBlock with _ | g
    · exact Or.inl rfl
    · refine Or.inr ?_; have := h.lt g hb; intro e; injection e; omega)
theorem own_gr {w w' : World} {B base E S n : Nat} {v : Value} {xs : List Value} (h : w.ownsRow base E S v n xs) (ho : Gr B w w') (hB : B < base) : w'.ownsRow base E S v n xs :=
  h.kept ho (by
    rcases hb : v.ownBlock with _ | g
    · exact Or.inl rfl
    · refine Or.inr ?_; have := h.lt g hb; intro e; injection e; omega)
theorem gr_row {B : Nat} {w0 w w' : World} {row : Option Nat} (g : Gr B w0 w) (h : w.grownBy w' row) (hr : ∀ g, row = some g → w0.heap.size ≤ g) : Gr B w0 w' :=
  ⟨h.os.trans g.os, h.tape.trans g.tape, h.output.trans g.output, Nat.le_trans g.size h.size, fun i hi hne =>
    (h.block i (Nat.lt_of_lt_of_le hi g.size) (fun e => by have := hr i e.symm; omega)).trans (g.block i hi hne)⟩
/-- The options of a row lie in other blocks than g. -/
def Far (g : Nat) (v : Value) : Prop := ∀ (b n co : Nat), v = .slice (some ⟨b, 0, none⟩) n co → b ≠ g
theorem ol_grown {B : Nat} {w w' : World} {row : Option Nat} {v : Value} {o : List ByteArray} (h : OL B w v o) (g : w.grownBy w' row) (hr : ∀ r, row = some r → Far r v) : OL B w' v o := by
  obtain ⟨Ao, co, h1, h2, h3, h4⟩ := h
  refine ⟨Ao, co, h1, h2, ⟨h3.1, fun h0 => ?_⟩, h4⟩
  obtain ⟨b, hA, hlt, hc⟩ := h3.2 h0
  subst hA
  refine ⟨b, rfl, Nat.lt_of_lt_of_le hlt g.size, fun i hi => ?_⟩
  exact (World.cell?_of_block (w := w) (g.block b hlt (fun e => hr b e.symm b _ co h1 rfl))).trans (hc i hi)
theorem grown_set {w : World} {g p : Nat} (u : Value) : w.grownBy (w.setCell ⟨g, p, none⟩ u) (some g) := ⟨rfl, rfl, rfl, by simp [World.setCell], fun k hk hne => Below.heap_setCell _ _ _ _ (fun e => hne (by rw [e]))⟩
theorem RowOk.grown {B : Nat} {w w' : World} {row : Option Nat} {L : List (Qs × Value)} (h : RowOk B w L) (g : w.grownBy w' row) (hr : ∀ r, row = some r → ∀ p ∈ L, Far r p.2) : RowOk B w' L := fun p hp =>
  ⟨(h p hp).1, ol_grown (h p hp).2 g (fun r e => hr r e p hp)⟩
theorem own_of_blk {w : World} {base g n cap S : Nat} {t : TypeId} {cs : Array Value} (h : Blk w g t cs) (hb : base ≤ g) (hn : n ≤ cap) (hm : cap ≤ maxLen) (hs : cs.size = cap * S) : w.ownsRow base t S (.slice (some ⟨g, 0, none⟩) n cap) n (cs.toList.take (n * S)) :=
  ⟨by rw [List.length_take, Array.length_toList, hs]; exact Nat.min_eq_left (Nat.mul_le_mul_right _ hn), Or.inr ⟨g, cap, cs, rfl, hb, h, hn, hm, hs, rfl⟩⟩
theorem flatQ_take : ∀ (l : List (Qs × Value)) (n : Nat), (flatQ l).take (n * 6) = flatQ (l.take n)
  | [], n => by simp [flatQ]
  | x :: t, 0 => rfl
  | x :: t, n + 1 => by
    have e1 : (n + 1) * 6 = n * 6 + 1 + 1 + 1 + 1 + 1 + 1 := by omega
    rw [e1, flatQ_cons]
    simp only [List.take_succ_cons, flatQ_take t n, flatQ_cons]
theorem own_cap {w : World} {base E S n cap g : Nat} {xs : List Value} (h : w.ownsRow base E S (.slice (some ⟨g, 0, none⟩) n cap) n xs) : n ≤ cap := by
  rcases h.2 with ⟨e, _⟩ | ⟨g', cap', cur, e, hb, hh, h1, _⟩
  · cases e
  · injection e with e1 e2 e3; subst e3; exact h1
theorem grownB {w w' : World} {row : Option Nat} {C : Nat} (h : w.grownBy w' row) (hr : ∀ g, row = some g → C ≤ g) (hC : C ≤ w.heap.size) : Below C w w' :=
  ⟨h.os, h.tape, h.output, h.size, fun i hi => h.block i (by omega) (fun e => by have := hr i e.symm; omega)⟩
theorem own_some {g n cap r : Nat} (h : (Value.slice (some ⟨g, 0, none⟩) n cap).ownBlock = some r) : r = g := by simp [Value.ownBlock] at h; exact h.symm
end Go.Proofs.YthglfcfnejjpjaaGreatDoor.Rev
