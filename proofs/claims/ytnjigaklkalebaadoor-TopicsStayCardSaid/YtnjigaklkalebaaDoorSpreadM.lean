/-
  WHAT SKILLS SPREAD TO, AS PLAIN FUNCTIONS; skills in memory.
-/
import Derived.Test.YtnjigaklkalebaaDoorRefKnow
namespace Go.Proofs.YtnjigaklkalebaaDoor.For
open Go.ChangeShapes Go.WideShapes Go.ChangeAt Go.RowKit Stm Key
set_option linter.unusedVariables false

/- WHAT SKILLS SPREAD TO -/
def spreadI (l : List Tp) (s : List Sk) (least : Int) (i : Nat) : List Sk := if least ≤ (((knS l s i).1 / 2520 : Nat) : Int) then [⟨(l.getD i ⟨⟨#[]⟩, ⟨#[]⟩⟩).k, (((knS l s i).1 / 2520 : Nat) : Int)⟩] else []
def spreadP (l : List Tp) (s : List Sk) (least : Int) (k : Nat) : List Sk := (List.range k).flatMap (spreadI l s least)
theorem spreadP_next (l : List Tp) (s : List Sk) (least : Int) (k : Nat) : spreadP l s least (k + 1) = spreadP l s least k ++ spreadI l s least k := by
  unfold spreadP; rw [List.range_succ, List.flatMap_append]; simp
theorem low_percent {v p q : Nat} (h : lowN v 252000 = (p, q)) : 100 * p / q = v / 2520 := by
  obtain ⟨g, hg, h1, h2⟩ := lowN_parts v 252000 (by decide)
  rw [h] at h1 h2
  simp only at h1 h2
  have e1 : 100 * p / q = (g * (100 * p)) / (g * q) := (Nat.mul_div_mul_left _ _ hg).symm
  rw [e1, ← h2, show g * (100 * p) = 100 * v by rw [h1]; ac_rfl, show (252000 : Nat) = 100 * 2520 from rfl, Nat.mul_div_mul_left _ _ (by decide)]
theorem num_self {l : List Tp} (h : Dist l) {i : Nat} (hi : i < l.length) : lk l l[i].k = some i := by
  cases hl : lk l l[i].k with
  | none => have := lk_none l _ hl l[i] (List.getElem_mem hi); rw [eqB_self] at this; cases this
  | some j =>
    obtain ⟨hj, he⟩ := lk_some l _ j hl
    rw [h.1 j i hj hi he]
theorem spread_len (l : List Tp) (s : List Sk) (least : Int) : ∀ k, (spreadP l s least k).length ≤ k
  | 0 => Nat.le_refl _
  | k + 1 => by
    have := spread_len l s least k
    rw [spreadP_next, List.length_append]
    have h2 : (spreadI l s least k).length ≤ 1 := by unfold spreadI; split <;> simp
    omega

/- SKILLS IN MEMORY, WHATEVER THEIR WEIGHTS -/
def KM (w : World) (A : Option Addr) (l : List Sk) : Prop := 0 < l.length → ∃ b, A = some ⟨b, 0, none⟩ ∧ b < w.heap.size ∧ ∀ (i : Nat) (h : i < l.length), w.cell? ⟨b, i * 2, none⟩ = some (.string l[i].t) ∧ w.cell? ⟨b, i * 2 + 1, none⟩ = some (.int .i64 l[i].n)
theorem KM.below {w w' : World} {A : Option Addr} {l : List Sk} (h : KM w A l) (hb : Below w.heap.size w w') : KM w' A l := fun h0 => by
  obtain ⟨b, hA, hlt, hc⟩ := h h0
  exact ⟨b, hA, Nat.lt_of_lt_of_le hlt hb.size, fun i hi => ⟨(hb.cell (p := ⟨b, i * 2, none⟩) hlt).trans (hc i hi).1, (hb.cell (p := ⟨b, i * 2 + 1, none⟩) hlt).trans (hc i hi).2⟩⟩
theorem row_km {w : World} {base n cap : Nat} {A : Option Addr} {l : List Sk} (h : w.ownsRow base 36 2 (.slice A n cap) n (flatS l)) (L : l.length = n) : KM w A l := by
  intro h0
  obtain ⟨g, cap', hv, _, hlt⟩ := h.form (by omega)
  have hA : A = some ⟨g, 0, none⟩ := by injection hv
  subst hA
  refine ⟨g, rfl, hlt, fun i hi => ?_⟩
  have hc := h.cells (g := g) rfl
  have e1 := hc (i * 2) _ (flatS_get l i hi).1
  have e2 := hc (i * 2 + 1) _ (flatS_get l i hi).2
  rw [row_add] at e1 e2
  exact ⟨e1, e2⟩
/-- Skills that are handed back, with an error. -/
def SkRet (r : Int) (ks : List Sk) (w : World) (e : Ending) (w' : World) : Prop := ∃ (A : Option Addr) (m c : Nat), e = .returned (.tuple #[.slice A m c, .int .i64 r]) ∧ (r ≠ 0 → m = 0) ∧ (r = 0 → m = ks.length ∧ KM w' A ks) ∧ Below w.heap.size w w'
def SkLRet (ks : List Sk) (w : World) (e : Ending) (w' : World) : Prop := ∃ (A : Option Addr) (c : Nat), e = .returned (.slice A ks.length c) ∧ KM w' A ks ∧ Below w.heap.size w w'
end Go.Proofs.YtnjigaklkalebaaDoor.For
