/-
  THE TABLE OF MARKS IN MEMORY: a family of rows that grow, the rows of papers and of persons.
-/
import Derived.Test.YthhiefpickpiaaaGreatDoorCalNum
import Derived.Deep.OwnRows
namespace Go.Proofs.YthhiefpickpiaaaGreatDoor.Cal
open Go.ChangeShapes Go.WideShapes Go.ChangeAt Go.RowKit Stm Key
set_option linter.unusedVariables false

/-! ### Rows of scores as cells -/
def scv (x : Nat × Int) : List Value := [.int .i64 (x.1 : Int), .int .i64 x.2]
def flatC (l : List (Nat × Int)) : List Value := l.flatMap scv
theorem flatC_snoc (l : List (Nat × Int)) (x : Nat × Int) : flatC (l ++ [x]) = flatC l ++ scv x := by simp [flatC]
theorem flatC_cons (x : Nat × Int) (t : List (Nat × Int)) : flatC (x :: t) = .int .i64 (x.1 : Int) :: .int .i64 x.2 :: flatC t := rfl
theorem flatC_get : ∀ (l : List (Nat × Int)) (i : Nat) (h : i < l.length), (flatC l)[i * 2]? = some (.int .i64 (l[i].1 : Int)) ∧ (flatC l)[i * 2 + 1]? = some (.int .i64 l[i].2)
  | [], i, h => by simp at h
  | x :: t, 0, _ => ⟨rfl, rfl⟩
  | x :: t, i + 1, h => by
    have := flatC_get t i (by simpa using h)
    have e1 : (i + 1) * 2 = i * 2 + 1 + 1 := by omega
    rw [e1, flatC_cons]
    simpa using this
/-- A slice's cells are these scores. -/
def SCL (w : World) (v : Value) (l : List (Nat × Int)) : Prop := ∃ (A : Option Addr) (c : Nat), v = .slice A l.length c ∧ (0 < l.length → ∃ b, A = some ⟨b, 0, none⟩ ∧ b < w.heap.size ∧ ∀ (i : Nat) (h : i < l.length), w.cell? ⟨b, i * 2, none⟩ = some (.int .i64 (l[i].1 : Int)) ∧ w.cell? ⟨b, i * 2 + 1, none⟩ = some (.int .i64 l[i].2))
theorem SCL.below {w w' : World} {v : Value} {l : List (Nat × Int)} (h : SCL w v l) (hb : Below w.heap.size w w') : SCL w' v l := by
  obtain ⟨A, c, e, h⟩ := h
  refine ⟨A, c, e, fun h0 => ?_⟩
  obtain ⟨b, hA, hlt, hc⟩ := h h0
  exact ⟨b, hA, Nat.lt_of_lt_of_le hlt hb.size, fun i hi => ⟨(hb.cell (p := ⟨b, i * 2, none⟩) hlt).trans (hc i hi).1, (hb.cell (p := ⟨b, i * 2 + 1, none⟩) hlt).trans (hc i hi).2⟩⟩
theorem own_scl {w : World} {base : Nat} {v : Value} {l : List (Nat × Int)} (h : w.ownsRow base 76 2 v l.length (flatC l)) : SCL w v l := by
  rcases h.2 with ⟨e, e0⟩ | ⟨g, cap, cur, e, hb, hh, h1, h2, h3, h4⟩
  · exact ⟨none, 0, by rw [e, e0], fun h0 => by omega⟩
  · refine ⟨some ⟨g, 0, none⟩, cap, e, fun h0 => ⟨g, rfl, lt_of_block hh, fun i hi => ?_⟩⟩
    have hc := h.cells (g := g) (by rw [e]; rfl)
    obtain ⟨f0, f1⟩ := flatC_get l i hi
    have e0 := hc _ _ f0; have e1 := hc _ _ f1
    rw [row_add'] at e0 e1
    exact ⟨e0, e1⟩

/-! ### A family of rows of the call's own -/
/-- Row i is v i and holds X i; rows share no block. -/
def Fam (w : World) (base N : Nat) (v : Nat → Value) (X : Nat → List (Nat × Int)) : Prop :=
  ∀ i, i < N → w.ownsRow base 76 2 (v i) (X i).length (flatC (X i)) ∧ ∀ j, j < N → j ≠ i → ∀ g, (v i).ownBlock = some g → (v j).ownBlock ≠ some g
theorem Fam.kept {w w' : World} {base N : Nat} {v : Nat → Value} {X : Nat → List (Nat × Int)} {row : Option Nat} (h : Fam w base N v X) (hg : w.grownBy w' row) (hr : ∀ i, i < N → ∀ g, (v i).ownBlock = some g → row ≠ some g) : Fam w' base N v X := fun i hi =>
  ⟨(h i hi).1.kept hg (by
    rcases hb : (v i).ownBlock with _ | g
    · exact Or.inl rfl
    · exact Or.inr (fun e => hr i hi g hb e.symm)), (h i hi).2⟩
theorem Fam.congr {w : World} {base N : Nat} {v v' : Nat → Value} {X X' : Nat → List (Nat × Int)} (h : Fam w base N v X) (e : ∀ i, i < N → X i = X' i) (ev : ∀ i, i < N → v i = v' i) : Fam w base N v' X' := fun i hi => by
  have := h i hi
  rw [e i hi, ev i hi] at this
  exact ⟨this.1, fun j hj hne => by rw [← ev j hj]; exact this.2 j hj hne⟩
theorem Fam.low {w : World} {base N : Nat} {v : Nat → Value} {X : Nat → List (Nat × Int)} (h : Fam w base N v X) {i : Nat} (hi : i < N) {g : Nat} (hg : (v i).ownBlock = some g) : base ≤ g ∧ g < w.heap.size := (h i hi).1.lt g hg
theorem Fam.put {w w' : World} {base N i g m cap : Nat} {v : Nat → Value} {X : Nat → List (Nat × Int)} {y : Nat × Int} (h : Fam w base N v X) (hi : i < N) (hg : w.grownBy w' (v i).ownBlock)
    (ho : w'.ownsRow base 76 2 (.slice (some ⟨g, 0, none⟩) m cap) m (flatC (X i ++ [y]))) (hm : m = (X i).length + 1) (hat : (v i).ownBlock = some g ∨ g = w.heap.size) :
    Fam w' base N (fun j => if j = i then .slice (some ⟨g, 0, none⟩) m cap else v j) (fun j => if j = i then X i ++ [y] else X j) := by
  have hnew : ∀ j, j < N → j ≠ i → (v j).ownBlock ≠ some g := fun j hj hne => by
    rcases hat with h1 | h1
    · exact (h i hi).2 j hj hne g h1
    · intro e
      have := (h.low hj e).2
      omega
  intro k hk
  by_cases hki : k = i
  · subst hki
    simp only [if_true]
    refine ⟨by rw [List.length_append, List.length_singleton, ← hm]; exact ho, fun j hj hne g' hg' => ?_⟩
    rw [if_neg hne]
    obtain rfl := own_some hg'
    exact hnew j hj hne
  · simp only [if_neg hki]
    refine ⟨(h k hk).1.kept hg (by
      rcases hb : (v k).ownBlock with _ | g'
      · exact Or.inl rfl
      · exact Or.inr (fun e => (h k hk).2 i hi (fun e => hki e.symm) g' hb e.symm)), fun j hj hne g' hg' => ?_⟩
    by_cases hji : j = i
    · rw [if_pos hji]
      intro e
      obtain rfl := own_some e
      exact hnew k hk hki hg'
    · rw [if_neg hji]
      exact (h k hk).2 j hj hne g' hg'
theorem Fam.nil (w : World) (base N : Nat) : Fam w base N (fun _ => .slice none 0 0) (fun _ => []) := fun i hi =>
  ⟨World.ownsRow_nil _ _ _ _, fun j hj hne g hg => by simp [Value.ownBlock] at hg⟩
theorem Fam.form {w : World} {base N i : Nat} {v : Nat → Value} {X : Nat → List (Nat × Int)} (h : Fam w base N v X) (hi : i < N) : ∃ (A : Option Addr) (c : Nat), v i = .slice A (X i).length c := by
  rcases (h i hi).1.2 with ⟨e, e0⟩ | ⟨g, cap, cur, e, _⟩
  · exact ⟨none, 0, by rw [e, e0]⟩
  · exact ⟨_, cap, e⟩

/-! ### What writes into two blocks and into new ones -/
structure Two (a b C : Nat) (w w' : World) : Prop where
  os : w'.os = w.os
  tape : w'.tape = w.tape
  output : w'.output = w.output
  size : w.heap.size ≤ w'.heap.size
  block : ∀ k, k < C → k ≠ a → k ≠ b → w'.heap[k]? = w.heap[k]?
theorem Two.refl (a b C : Nat) (w : World) : Two a b C w w := ⟨rfl, rfl, rfl, Nat.le_refl _, fun _ _ _ _ => rfl⟩
theorem Two.trans {a b C : Nat} {w w' w'' : World} (h : Two a b C w w') (k : Two a b C w' w'') : Two a b C w w'' :=
  ⟨k.os.trans h.os, k.tape.trans h.tape, k.output.trans h.output, Nat.le_trans h.size k.size, fun i h1 h2 h3 => (k.block i h1 h2 h3).trans (h.block i h1 h2 h3)⟩
theorem Two.below {a b C : Nat} {w w' w'' : World} (h : Two a b C w w') (k : Below C w' w'') : Two a b C w w'' :=
  h.trans ⟨k.os, k.tape, k.output, k.size, fun i h1 _ _ => k.block i h1⟩
theorem Two.set {a b C : Nat} {w w' : World} (h : Two a b C w w') {p : Addr} (hp : p.block = a ∨ p.block = b) (u : Value) : Two a b C w (w'.setCell p u) :=
  h.trans ⟨rfl, rfl, rfl, by simp [World.setCell], fun i h1 h2 h3 => Below.heap_setCell _ _ _ _ (by rcases hp with e | e <;> omega)⟩
theorem Two.toBelow {a b C D : Nat} {w w' : World} (h : Two a b C w w') (h1 : D ≤ a) (h2 : D ≤ b) (h3 : D ≤ C) : Below D w w' :=
  ⟨h.os, h.tape, h.output, h.size, fun k hk => h.block k (by omega) (by omega) (by omega)⟩
theorem Two.blk {a b C B : Nat} {w w' : World} {t : TypeId} {cs : Array Value} (h : Two a b C w w') (hB : Blk w B t cs) (h1 : B < C) (h2 : B ≠ a) (h3 : B ≠ b) : Blk w' B t cs := (h.block B h1 h2 h3).trans hB
theorem Two.sl {a b C : Nat} {w w' : World} {A : Option Addr} {ss : List ByteArray} (h : Two a b C w w') (hS : SL w A ss) (hA : ∀ g, A = some ⟨g, 0, none⟩ → g < C ∧ g ≠ a ∧ g ≠ b) : SL w' A ss :=
  ⟨hS.1, fun h0 => by
    obtain ⟨g, hg, hlt, hc⟩ := hS.2 h0
    obtain ⟨h1, h2, h3⟩ := hA g hg
    exact ⟨g, hg, Nat.lt_of_lt_of_le hlt h.size, fun i hi => (World.cell?_of_block (w := w) (h.block g h1 h2 h3)).trans (hc i hi)⟩⟩
theorem Two.ns {a b C M : Nat} {w w' : World} {ks : List ByteArray} (h : Two a b C w w') (hN : NS w M ks) (h1 : M < C) (h2 : M ≠ a) (h3 : M ≠ b) : NS w' M ks := by
  obtain ⟨es, clock, hb, hr⟩ := hN
  exact ⟨es, clock, (h.block M h1 h2 h3).trans hb, hr⟩
theorem sl_set {w : World} {A : Option Addr} {ss : List ByteArray} {p : Addr} (h : SL w A ss) (hA : ∀ g, A = some ⟨g, 0, none⟩ → g ≠ p.block) (u : Value) : SL (w.setCell p u) A ss :=
  ⟨h.1, fun h0 => by
    obtain ⟨g, hg, hlt, hc⟩ := h.2 h0
    exact ⟨g, hg, by simpa [World.setCell] using hlt, fun i hi => (World.cell?_of_block (w := w) (Below.heap_setCell _ _ _ _ (hA g hg))).trans (hc i hi)⟩⟩
theorem grownBy_set (w : World) (p : Addr) (u : Value) : w.grownBy (w.setCell p u) (some p.block) :=
  ⟨rfl, rfl, rfl, by simp [World.setCell], fun k _ hne => Below.heap_setCell _ _ _ _ (fun e => hne (by rw [e]))⟩

/-! ### The rows of papers and of persons -/
def idx (ks : List ByteArray) (s : ByteArray) : Nat := ks.findIdx fun x => eqB x s
theorem idx_at {ks : List ByteArray} {s : ByteArray} (h : s ∈ ks) : ∃ hi : idx ks s < ks.length, ks[idx ks s] = s := by
  have h1 : idx ks s < ks.length := List.findIdx_lt_length_of_exists ⟨s, h, eqB_self s⟩
  exact ⟨h1, (eqB_iff _ _).1 (List.findIdx_getElem (w := h1))⟩
theorem idx_of {ks : List ByteArray} (hd : ks.Nodup) {i : Nat} (hi : i < ks.length) : idx ks ks[i] = i := by
  obtain ⟨h1, h2⟩ := idx_at (List.getElem_mem hi)
  exact (List.getElem_inj hd).1 h2
theorem idx_inj {ks : List ByteArray} {a b : ByteArray} (ha : a ∈ ks) (hb : b ∈ ks) (h : idx ks a = idx ks b) : a = b := by
  obtain ⟨h1, e1⟩ := idx_at ha
  obtain ⟨h2, e2⟩ := idx_at hb
  exact e1.symm.trans ((by simp only [h] : ks[idx ks a]'h1 = ks[idx ks b]'h2).trans e2)
theorem ns_look {w : World} {M : Nat} {ks : List ByteArray} (hN : NS w M ks) (hd : ks.Nodup) {s : ByteArray} (hs : s ∈ ks) (hsz : s.size ≤ 1000) :
    (Instr.lookup 46 (.map (some M)) (.string s) false).run Tryz.prog w = .ok (.int .i64 (idx ks s : Int)) w := by
  have hown : w.ownsMap Tryz.prog 9 (plainElem Tryz.prog 3) M ks.length (numS ks ks.length) := hN
  obtain ⟨c', hrun, hat, _⟩ := hown.lookup_int keyLaw Tryz.underlying46 Tryz.underlying3 (zeroI _) (key := .string s) (Go.WideMaps.keyOf_string_mk Tryz.underlying9 (by unfold maxLen; omega))
  obtain ⟨h1, e1⟩ := idx_at hs
  have := (numS_at ks hd (.lit (.int .i64 0)) ks.length (idx ks s) (Nat.le_refl _) h1).1
  rw [e1] at this
  rw [this] at hat
  rw [hrun, ← (Lit.int.inj (DataW.lit.inj hat)).2]
def rowP (ks hs : List ByteArray) (l : List Mk) (i : Nat) : List (Nat × Int) := (l.filter fun x => idx ks x.p == i).map fun x => (idx hs x.h, x.s)
def rowH (ks hs : List ByteArray) (l : List Mk) (j : Nat) : List (Nat × Int) := (l.filter fun x => idx hs x.h == j).map fun x => (idx ks x.p, x.s)
def rowX (ks hs : List ByteArray) (l : List Mk) (i : Nat) : List (Nat × Int) := if i < ks.length then rowP ks hs l i else rowH ks hs l (i - ks.length)
theorem rowP_snoc (ks hs : List ByteArray) (l : List Mk) (x : Mk) (i : Nat) : rowP ks hs (l ++ [x]) i = if i = idx ks x.p then rowP ks hs l i ++ [(idx hs x.h, x.s)] else rowP ks hs l i := by
  unfold rowP
  rw [List.filter_append, List.map_append]
  by_cases h : i = idx ks x.p
  · rw [if_pos h, List.filter_cons_of_pos (by simp [h])]; rfl
  · rw [if_neg h, List.filter_cons_of_neg (by simp; exact fun e => h e.symm)]; simp
theorem rowH_snoc (ks hs : List ByteArray) (l : List Mk) (x : Mk) (j : Nat) : rowH ks hs (l ++ [x]) j = if j = idx hs x.h then rowH ks hs l j ++ [(idx ks x.p, x.s)] else rowH ks hs l j := by
  unfold rowH
  rw [List.filter_append, List.map_append]
  by_cases h : j = idx hs x.h
  · rw [if_pos h, List.filter_cons_of_pos (by simp [h])]; rfl
  · rw [if_neg h, List.filter_cons_of_neg (by simp; exact fun e => h e.symm)]; simp
theorem rowX_snoc {ks hs : List ByteArray} {l : List Mk} {x : Mk} {p j : Nat} (hp : p = idx ks x.p) (hj : j = idx hs x.h) (hlt : p < ks.length) (i : Nat) :
    (if i = ks.length + j then rowX ks hs l (ks.length + j) ++ [(p, x.s)] else if i = p then rowX ks hs l p ++ [(j, x.s)] else rowX ks hs l i) = rowX ks hs (l ++ [x]) i := by
  unfold rowX
  subst hp hj
  by_cases h1 : i = ks.length + idx hs x.h
  · subst h1
    rw [if_pos rfl, if_neg (by omega), if_neg (by omega), rowH_snoc, if_pos (by omega)]
  · rw [if_neg h1]
    by_cases h2 : i = idx ks x.p
    · subst h2
      rw [if_pos rfl, if_pos hlt, if_pos hlt, rowP_snoc, if_pos rfl]
    · rw [if_neg h2]
      by_cases h3 : i < ks.length
      · rw [if_pos h3, if_pos h3, rowP_snoc, if_neg h2]
      · rw [if_neg h3, if_neg h3, rowH_snoc, if_neg (by omega)]
theorem rowX_len (ks hs : List ByteArray) (l : List Mk) (i : Nat) : (rowX ks hs l i).length ≤ l.length := by
  unfold rowX rowP rowH
  split <;> (rw [List.length_map]; exact List.length_filter_le _ _)

/-! ### One step: a row grows, its slice is put back -/
theorem fam_step {wd w7 : World} {C N i gg m c cap' : Nat} {RA : Option Addr} {v : Nat → Value} {X : Nat → List (Nat × Int)} {y : Nat × Int} {o : Obj} (F : Fam wd C N v X) (hi : i < N) (hv : v i = .slice RA m c) (hm : (X i).length = m)
    (hown : w7.ownsRow C 76 2 (.slice (some ⟨gg, 0, none⟩) (m + 1) cap') (m + 1) (flatC (X i) ++ [.int .i64 (y.1 : Int), .int .i64 y.2]))
    (hgrow : (wd.alloc o).grownBy w7 (Value.slice RA m c).ownBlock) (hat : (Value.slice RA m c).ownBlock = some gg ∨ gg = wd.heap.size + 1) :
    Fam w7 C N (fun j => if j = i then .slice (some ⟨gg, 0, none⟩) (m + 1) cap' else v j) (fun j => if j = i then X i ++ [y] else X j) := by
  have FA : Fam (wd.alloc o) C N v X := F.kept (World.grownBy_alloc wd o none) (fun _ _ _ _ h => by cases h)
  refine Fam.put FA hi (by rw [hv]; exact hgrow) (by rw [flatC_snoc]; exact hown) (by omega) ?_
  rcases hat with h | h
  · exact Or.inl (by rw [hv]; exact h)
  · exact Or.inr (by rw [h]; simp)
theorem two_step {a b C : Nat} {wc wd w7 : World} {v : Value} {o : Obj} (h : Two a b C wc wd) (hC : C ≤ wd.heap.size) (hgrow : (wd.alloc o).grownBy w7 v.ownBlock) (hv : ∀ g, v.ownBlock = some g → C ≤ g) : Two a b C wc w7 :=
  (h.below ((Below.refl C wd).alloc hC o)).below (grownB hgrow hv (by simp; omega))
theorem row_step {C b n : Nat} {wd w7 : World} {v : Value} {o : Obj} {t : TypeId} {f : Nat → Value} (h : wd.rowIs b t n f) (hb : b < C) (hgrow : (wd.alloc o).grownBy w7 v.ownBlock) (hv : ∀ g, v.ownBlock = some g → C ≤ g) : w7.rowIs b t n f :=
  (h.alloc o).of_block (hgrow.block b (h.alloc o).lt (fun e => by have := hv b e.symm; omega))
theorem blk_step {b : Nat} {wd w7 : World} {v : Value} {o : Obj} {t : TypeId} {cs : Array Value} (h : Blk wd b t cs) (hne : v.ownBlock ≠ some b) (hgrow : (wd.alloc o).grownBy w7 v.ownBlock) : Blk w7 b t cs :=
  (hgrow.block b (h.alloc o).lt (fun e => hne e.symm)).trans (h.alloc o)
theorem fam_set {w : World} {C N : Nat} {v : Nat → Value} {X : Nat → List (Nat × Int)} {p : Addr} (F : Fam w C N v X) (hp : p.block < C) (u : Value) : Fam (w.setCell p u) C N v X :=
  F.kept (grownBy_set w p u) (fun i hi g hg e => by have := (F.low hi hg).1; have := Option.some.inj e; omega)
theorem fam_drewN {w : World} {C N : Nat} {v : Nat → Value} {X : Nat → List (Nat × Int)} (F : Fam w C N v X) (m : Nat) : Fam (w.drewN m) C N v X :=
  F.kept (row := none) ⟨rfl, rfl, rfl, Nat.le_refl _, fun _ _ _ => rfl⟩ (fun _ _ _ _ e => by cases e)
theorem fam_alloc {w : World} {C N : Nat} {v : Nat → Value} {X : Nat → List (Nat × Int)} (F : Fam w C N v X) (o : Obj) : Fam (w.alloc o) C N v X :=
  F.kept (World.grownBy_alloc w o none) (fun _ _ _ _ e => by cases e)
theorem Two.drewN {a b C : Nat} {w w' : World} (h : Two a b C w w') (m : Nat) : Two a b C w (w'.drewN m) := ⟨h.os, h.tape, h.output, h.size, h.block⟩
theorem Two.drew {a b C : Nat} {w w' : World} (h : Two a b C w w') : Two a b C w w'.drew := ⟨h.os, h.tape, h.output, h.size, h.block⟩
theorem fam_drew {w : World} {C N : Nat} {v : Nat → Value} {X : Nat → List (Nat × Int)} (F : Fam w C N v X) : Fam w.drew C N v X :=
  F.kept (row := none) ⟨rfl, rfl, rfl, Nat.le_refl _, fun _ _ _ => rfl⟩ (fun _ _ _ _ e => by cases e)
theorem Two.alloc {a b C : Nat} {w w' : World} (h : Two a b C w w') (hC : C ≤ w'.heap.size) (o : Obj) : Two a b C w (w'.alloc o) := h.below ((Below.refl C w').alloc hC o)
/-- Behind a step: the rows of both, some new slice values. -/
def StJ (bo bb C np nh M : Nat) (wc : World) (cs : Array Value) (X : Nat → List (Nat × Int)) (wx : World) : Prop := ∃ v : Nat → Value,
  Two bo bb C wc wx ∧ Blk wx M 59 cs ∧ wx.rowIs bo 74 np v ∧ wx.rowIs bb 74 nh (fun j => v (np + j)) ∧ Fam wx C (np + nh) v X ∧ ∀ i, i < np + nh → (v i).ownBlock ≠ some M
theorem stJ_o {bo bb C np nh M ip gg m cap' K : Nat} {wc w7 : World} {cs : Array Value} {X : Nat → List (Nat × Int)} {v : Nat → Value} {RA : Option Addr} {mR cR : Nat}
    (T : Two bo bb C wc w7) (B : Blk w7 M 59 cs) (RO : w7.rowIs bo 74 np v) (RB : w7.rowIs bb 74 nh (fun j => v (np + j))) (F : Fam w7 C (np + nh) (fun j => if j = ip then .slice (some ⟨gg, 0, none⟩) m cap' else v j) X)
    (hN : ∀ i, i < np + nh → (v i).ownBlock ≠ some M) (hip : ip < np) (hv : v ip = .slice RA mR cR) (hat : (Value.slice RA mR cR).ownBlock = some gg ∨ gg = K) (hK : M < K) (hbo : bo < C) (hne : bo ≠ bb) (hM : C ≤ M) :
    StJ bo bb C np nh M wc cs X (w7.setCell ⟨bo, ip, none⟩ (.slice (some ⟨gg, 0, none⟩) m cap')) :=
  ⟨_, T.set (Or.inl rfl) _, B.far (show M ≠ bo by omega) _, RO.set ip _, (RB.setOther (show bb ≠ bo from hne.symm) _).congr (fun j hj => by show _ = if np + j = ip then _ else _; rw [if_neg (by omega)]), fam_set F hbo _, fun i hi => by
    by_cases h : i = ip
    · rw [if_pos h]
      intro e
      have e2 := own_some e
      rcases hat with h2 | h2
      · exact hN ip (by omega) (by rw [hv, h2, e2])
      · omega
    · rw [if_neg h]; exact hN i hi⟩
theorem stJ_b {bo bb C np nh M jh gg m cap' K : Nat} {wc w7 : World} {cs : Array Value} {X : Nat → List (Nat × Int)} {v : Nat → Value} {RA : Option Addr} {mR cR : Nat}
    (T : Two bo bb C wc w7) (B : Blk w7 M 59 cs) (RO : w7.rowIs bo 74 np v) (RB : w7.rowIs bb 74 nh (fun j => v (np + j))) (F : Fam w7 C (np + nh) (fun j => if j = np + jh then .slice (some ⟨gg, 0, none⟩) m cap' else v j) X)
    (hN : ∀ i, i < np + nh → (v i).ownBlock ≠ some M) (hjh : jh < nh) (hv : v (np + jh) = .slice RA mR cR) (hat : (Value.slice RA mR cR).ownBlock = some gg ∨ gg = K) (hK : M < K) (hbb : bb < C) (hne : bo ≠ bb) (hM : C ≤ M) :
    StJ bo bb C np nh M wc cs X (w7.setCell ⟨bb, jh, none⟩ (.slice (some ⟨gg, 0, none⟩) m cap')) :=
  ⟨_, T.set (Or.inr rfl) _, B.far (show M ≠ bb by omega) _, (RO.setOther (show bo ≠ bb from hne) _).congr (fun j hj => by show _ = if j = np + jh then _ else _; rw [if_neg (by omega)]), (RB.set jh _).congr (fun j hj => by
      show (if j = jh then _ else _) = if np + j = np + jh then _ else _
      by_cases h : j = jh
      · rw [if_pos h, if_pos (by omega)]
      · rw [if_neg h, if_neg (by omega)]), fam_set F hbb _, fun i hi => by
    by_cases h : i = np + jh
    · rw [if_pos h]
      intro e
      have e2 := own_some e
      rcases hat with h2 | h2
      · exact hN (np + jh) (by omega) (by rw [hv, h2, e2])
      · omega
    · rw [if_neg h]; exact hN i hi⟩
/-! The same behind a draw -/
theorem fam_stepD {wd w7 : World} {C N i gg m c cap' : Nat} {RA : Option Addr} {v : Nat → Value} {X : Nat → List (Nat × Int)} {y : Nat × Int} {o : Obj} (F : Fam wd C N v X) (hi : i < N) (hv : v i = .slice RA m c) (hm : (X i).length = m)
    (hown : w7.ownsRow C 76 2 (.slice (some ⟨gg, 0, none⟩) (m + 1) cap') (m + 1) (flatC (X i) ++ [.int .i64 (y.1 : Int), .int .i64 y.2]))
    (hgrow : (wd.drew.alloc o).grownBy w7 (Value.slice RA m c).ownBlock) (hat : (Value.slice RA m c).ownBlock = some gg ∨ gg = wd.heap.size + 1) :
    Fam w7 C N (fun j => if j = i then .slice (some ⟨gg, 0, none⟩) (m + 1) cap' else v j) (fun j => if j = i then X i ++ [y] else X j) := fam_step (fam_drew F) hi hv hm hown hgrow hat
theorem two_stepD {a b C : Nat} {wc wd w7 : World} {v : Value} {o : Obj} (h : Two a b C wc wd) (hC : C ≤ wd.heap.size) (hgrow : (wd.drew.alloc o).grownBy w7 v.ownBlock) (hv : ∀ g, v.ownBlock = some g → C ≤ g) : Two a b C wc w7 := two_step h.drew hC hgrow hv
theorem row_stepD {C b n : Nat} {wd w7 : World} {v : Value} {o : Obj} {t : TypeId} {f : Nat → Value} (h : wd.rowIs b t n f) (hb : b < C) (hgrow : (wd.drew.alloc o).grownBy w7 v.ownBlock) (hv : ∀ g, v.ownBlock = some g → C ≤ g) : w7.rowIs b t n f := row_step h.drew hb hgrow hv
theorem blk_stepD {b : Nat} {wd w7 : World} {v : Value} {o : Obj} {t : TypeId} {cs : Array Value} (h : Blk wd b t cs) (hne : v.ownBlock ≠ some b) (hgrow : (wd.drew.alloc o).grownBy w7 v.ownBlock) : Blk w7 b t cs := blk_step (wd := wd.drew) h hne hgrow
end Go.Proofs.YthhiefpickpiaaaGreatDoor.Cal
