/-
  BY WHICH SKILLS TOPICS ARE KNOWN (package topic): Reasons.
-/
import Derived.Test.YtnjigaklkalebaaDoorKnow2
import Derived.Deep.RegionLaw
import Derived.Deep.AppendLies
import Derived.Deep.DrawnRows
namespace Go.Proofs.YtnjigaklkalebaaDoor.For
open Go.ChangeShapes Go.WideShapes Go.ChangeAt Go.RowKit Stm Key
set_option linter.unusedVariables false
attribute [local go_sem ↓] Go.wp_at_zero Go.wp_at_succ

/-- The reason of a topic. -/
def becN (l : List Tp) (s : List Sk) (t : ByteArray) : Bc := ⟨t, (knS l s (num l t)).2, ((lowN (knS l s (num l t)).1 252000).1 : Nat), ((lowN (knS l s (num l t)).1 252000).2 : Nat)⟩
def becS (l : List Tp) (s : List Sk) (ts : List ByteArray) : List Bc := ts.map (becN l s)
theorem becS_next {l : List Tp} {s : List Sk} {ts : List ByteArray} {k : Nat} (h : k < ts.length) : becS l s (ts.take (k + 1)) = becS l s (ts.take k) ++ [becN l s ts[k]] := by
  unfold becS; rw [take_next _ _ h, List.map_append]; rfl
def flatB (l : List Bc) : List Value := l.flatMap fun x => [.string x.t, .string x.b, .int .i64 x.p, .int .i64 x.q]
theorem flatB_snoc (l : List Bc) (x : Bc) : flatB (l ++ [x]) = flatB l ++ [.string x.t, .string x.b, .int .i64 x.p, .int .i64 x.q] := by simp [flatB]
theorem flatB_get : ∀ (l : List Bc) (i : Nat) (h : i < l.length), (flatB l)[i * 4]? = some (.string l[i].t) ∧ (flatB l)[i * 4 + 1]? = some (.string l[i].b) ∧ (flatB l)[i * 4 + 2]? = some (.int .i64 l[i].p) ∧ (flatB l)[i * 4 + 3]? = some (.int .i64 l[i].q)
  | [], i, h => by simp at h
  | x :: t, 0, _ => ⟨rfl, rfl, rfl, rfl⟩
  | x :: t, i + 1, h => by
    have := flatB_get t i (by simpa using h)
    have e1 : (i + 1) * 4 = i * 4 + 1 + 1 + 1 + 1 := by omega
    rw [e1]
    simpa [flatB] using this
theorem row_bl {w : World} {base n cap : Nat} {A : Option Addr} {l : List Bc} (h : w.ownsRow base 71 4 (.slice A n cap) n (flatB l)) (L : l.length = n) : BL w A l := by
  intro h0
  obtain ⟨g, cap', hv, _, hlt⟩ := h.form (by omega)
  have hA : A = some ⟨g, 0, none⟩ := by injection hv
  subst hA
  refine ⟨g, rfl, hlt, fun i hi => ?_⟩
  have hc := h.cells (g := g) rfl
  have hg := flatB_get l i hi
  have e1 := hc (i * 4) _ hg.1
  have e2 := hc (i * 4 + 1) _ hg.2.1
  have e3 := hc (i * 4 + 2) _ hg.2.2.1
  have e4 := hc (i * 4 + 3) _ hg.2.2.2
  rw [row_add] at e1 e2 e3 e4
  exact ⟨e1, e2, e3, e4⟩
theorem infoB : (Tryd.prog.info? 71).map (fun i => (i.zero, i.size, i.bytes)) = some (some (.agg #[.string ⟨#[]⟩, .string ⟨#[]⟩, .int .i64 0, .int .i64 0]), 4, 48) := by kernel_rfl
/-- What Reasons hands back. -/
def BecRet (l : List Tp) (s : List Sk) (ts : List ByteArray) (r : Int) (w : World) (e : Ending) (w' : World) : Prop := ∃ (A : Option Addr) (m c : Nat) (bs : List Bc), e = .returned (.tuple #[.slice A m c, .int .i64 r]) ∧ bs.length = m ∧ BL w' A bs ∧ (r = 0 → bs = becS l s ts) ∧ Below w.heap.size w w'

end Go.Proofs.YtnjigaklkalebaaDoor.For
