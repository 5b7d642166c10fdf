/-
  THE CONTRACT OF THE STREAM's 'Fraction': some two numbers, from -1 to MaxDen + 1.
-/
import Derived.Test.YtnjigaklkalebaaDoorAdd
import Derived.Deep.DeepCutAuto
namespace Go.Proofs.YtnjigaklkalebaaDoor.Frac
open Go.ChangeShapes Go.WideShapes Go.ChangeAt Go.RowKit Stm
set_option linter.unusedVariables false

/-- A returned fraction whose two numbers are small. -/
def FracRet (B k : Nat) (w : World) (e : Ending) (w' : World) : Prop :=
  ∃ n d : Int, -1 ≤ n ∧ n ≤ 1000000001 ∧ -1 ≤ d ∧ d ≤ 1000000001 ∧ e = .returned (.agg #[.int .i64 n, .int .i64 d]) ∧ Gr B w w' ∧ Strm w' B (k + 6)

/-- Two cells of block F hold some numbers, and may be written. -/
def Cells2 (F : Nat) (n d : Int) (w : World) : Prop :=
  w.cell? ⟨F, 0, none⟩ = some (.int .i64 n) ∧ w.cell? ⟨F, 1, none⟩ = some (.int .i64 d) ∧ w.frozen? ⟨F, 0, none⟩ = false ∧ w.frozen? ⟨F, 1, none⟩ = false ∧ F < w.heap.size

theorem Cells2.only {F B : Nat} {n d : Int} {w w' : World} (h : Cells2 F n d w) (ho : Only B w w') (hF : F ≠ B) : Cells2 F n d w' := by
  obtain ⟨h1, h2, h3, h4, h5⟩ := h
  exact ⟨(ho.cell _ _ hF).trans h1, (ho.cell _ _ hF).trans h2, (ho.frozen _ _ hF).trans h3, (ho.frozen _ _ hF).trans h4, by rw [ho.size]; exact h5⟩
theorem Cells2.below {F : Nat} {n d : Int} {w w' : World} (h : Cells2 F n d w) (ho : Below w.heap.size w w') : Cells2 F n d w' := by
  obtain ⟨h1, h2, h3, h4, h5⟩ := h
  exact ⟨(ho.cell (p := ⟨F, 0, none⟩) h5).trans h1, (ho.cell (p := ⟨F, 1, none⟩) h5).trans h2, (ho.frozen (p := ⟨F, 0, none⟩) h5).trans h3, (ho.frozen (p := ⟨F, 1, none⟩) h5).trans h4, Nat.lt_of_lt_of_le h5 ho.size⟩
theorem Cells2.alloc {F : Nat} {n d : Int} {w : World} (h : Cells2 F n d w) (o : Obj) : Cells2 F n d (w.alloc o) := h.below ((Below.refl _ _).alloc (Nat.le_refl _) _)
theorem Cells2.drewN {F : Nat} {n d : Int} {w : World} (h : Cells2 F n d w) (m : Nat) : Cells2 F n d (w.drewN m) := h.below (Stm.Below.drewN (Below.refl _ _) _)
theorem Cells2.new (w : World) (n d : Int) (t : TypeId) : Cells2 w.heap.size n d (w.alloc (.cells #[.int .i64 n, .int .i64 d] t)) := by
  refine ⟨?_, ?_, ?_, ?_, ?_⟩ <;> first | go_cell | simp
theorem Cells2.stored {F : Nat} {n d n' d' : Int} {w : World} (h : Cells2 F n d w) : Cells2 F n' d' ((w.setCell ⟨F, 0, none⟩ (.int .i64 n')).setCell ⟨F, 1, none⟩ (.int .i64 d')) := by
  obtain ⟨h1, h2, h3, h4, h5⟩ := h
  refine ⟨?_, ?_, ?_, ?_, ?_⟩ <;> first | go_cell | simpa using h5
theorem Cells2.setOther {F G o : Nat} {n d : Int} {w : World} (h : Cells2 F n d w) (hG : G ≠ F) (u : Value) : Cells2 F n d (w.setCell ⟨G, o, none⟩ u) := by
  obtain ⟨h1, h2, h3, h4, h5⟩ := h
  have e := Below.heap_setCell w ⟨G, o, none⟩ u F (fun e => hG e.symm)
  exact ⟨(World.cell?_of_block (a := ⟨F, 0, none⟩) e).trans h1, (World.cell?_of_block (a := ⟨F, 1, none⟩) e).trans h2, (World.frozen?_of_block (a := ⟨F, 0, none⟩) e).trans h3, (World.frozen?_of_block (a := ⟨F, 1, none⟩) e).trans h4, by simpa using h5⟩

theorem frac_quo (n g : Nat) (hg : 0 < g) (hn : n ≤ 1000000000) : (0 : Int) ≤ (n : Int) / (g : Int) ∧ (n : Int) / (g : Int) ≤ 1000000000 := by
  have h : n / g ≤ n := Nat.div_le_self _ _
  have e : (n : Int) / (g : Int) = ((n / g : Nat) : Int) := rfl
  rw [e]
  exact ⟨Int.natCast_nonneg _, by omega⟩

/-- Where the ways of Fraction meet: the fraction lies in block F. -/
def FJ (w : World) (B k F : Nat) (wx : World) : Prop :=
  ∃ n d : Int, -1 ≤ n ∧ n ≤ 1000000001 ∧ -1 ≤ d ∧ d ≤ 1000000001 ∧ Cells2 F n d wx ∧ Cells2 w.heap.size 0 0 wx ∧ Gr B w wx ∧ Strm wx B k

end Go.Proofs.YtnjigaklkalebaaDoor.Frac
