/-
  THE CONTRACTS OF slices.Clone AND slices.Reverse AT TOPICS, AND OF THE MAKER Forest.
-/
import Derived.Test.YtnjigaklkalebaaDoorForGen
import Derived.Laws.Runes
import Derived.Deep.DeepCutAuto
namespace Go.Proofs.YtnjigaklkalebaaDoor.For
open Go.ChangeShapes Go.WideShapes Go.ChangeAt Go.RowKit Stm Key
set_option linter.unusedVariables false

theorem infoT : (Tryd.prog.info? 38).map (fun i => (i.zero, i.size, i.bytes)) = some (some (.agg #[.string ⟨#[]⟩, .string ⟨#[]⟩]), 2, 32) := by kernel_rfl
theorem sizeT (w : World) : (sizeOf 38).run Tryd.prog w = .ok 2 w := by kernel_rfl
/-- Block g is a row of n topics, whichever they are. -/
def TopB (w : World) (g n : Nat) : Prop := ∃ cs, Blk w g 38 cs ∧ ∀ j, j < n * 2 → ∃ s : ByteArray, s.size ≤ 1000 ∧ cs[j]? = some (.string s)
theorem TopB.lt {w : World} {g n : Nat} (h : TopB w g n) : g < w.heap.size := by obtain ⟨cs, hb, _⟩ := h; exact hb.lt
theorem TopB.cell {w : World} {g n : Nat} (h : TopB w g n) (j : Nat) (hj : j < n * 2) : ∃ s : ByteArray, s.size ≤ 1000 ∧ w.cell? ⟨g, j, none⟩ = some (.string s) := by
  obtain ⟨cs, hb, hc⟩ := h
  obtain ⟨s, h1, h2⟩ := hc j hj
  exact ⟨s, h1, hb.cell j _ h2⟩
theorem TopB.frozen {w : World} {g n : Nat} (h : TopB w g n) (j : Nat) : w.frozen? ⟨g, j, none⟩ = false := by obtain ⟨cs, hb, _⟩ := h; exact hb.frozen j
theorem TopB.set {w : World} {g n : Nat} (h : TopB w g n) (j : Nat) (s : ByteArray) (hs : s.size ≤ 1000) : TopB (w.setCell ⟨g, j, none⟩ (.string s)) g n := by
  obtain ⟨cs, hb, hc⟩ := h
  refine ⟨_, hb.set_ j _, fun i hi => ?_⟩
  obtain ⟨s', h1, h2⟩ := hc i hi
  by_cases e : j = i
  · subst e
    have hlt : j < cs.size := by
      rcases Nat.lt_or_ge j cs.size with h | h
      · exact h
      · rw [Array.getElem?_eq_none h] at h2; cases h2
    exact ⟨s, hs, by simp [hlt]⟩
  · exact ⟨s', h1, by rw [Array.getElem?_setIfInBounds_ne e]; exact h2⟩
theorem TopB.drewN {w : World} {g n : Nat} (h : TopB w g n) (m : Nat) : TopB (w.drewN m) g n := h
theorem TopB.only {w w' : World} {B g n : Nat} (h : TopB w g n) (ho : Only B w w') (hne : g ≠ B) : TopB w' g n := by
  obtain ⟨cs, hb, hc⟩ := h
  exact ⟨cs, hb.only ho hne, hc⟩
theorem topb_tl {w : World} {g n : Nat} (h : TopB w g n) : ∃ l : List Tp, l.length = n ∧ TL w (some ⟨g, 0, none⟩) l := by
  obtain ⟨cs, hb, hc⟩ := h
  have key : ∀ n, (∀ j, j < n * 2 → ∃ s : ByteArray, s.size ≤ 1000 ∧ cs[j]? = some (.string s)) → ∃ l : List Tp, l.length = n ∧ (∀ x ∈ l, x.k.size ≤ 1000 ∧ x.a.size ≤ 1000) ∧ ∀ (i : Nat) (hi : i < l.length), cs[i * 2]? = some (.string l[i].k) ∧ cs[i * 2 + 1]? = some (.string l[i].a) := by
    intro n
    induction n with
    | zero => intro _; exact ⟨[], rfl, by simp, fun i hi => absurd hi (by simp)⟩
    | succ n ih =>
      intro h
      obtain ⟨l, h1, h2, h3⟩ := ih (fun j hj => h j (by omega))
      obtain ⟨s, s1, s2⟩ := h (n * 2) (by omega)
      obtain ⟨t, t1, t2⟩ := h (n * 2 + 1) (by omega)
      refine ⟨l ++ [⟨s, t⟩], by simp [h1], ?_, fun i hi => ?_⟩
      · intro x hx
        rcases List.mem_append.1 hx with hx | hx
        · exact h2 x hx
        · simp at hx; subst hx; exact ⟨s1, t1⟩
      · by_cases e : i < l.length
        · rw [List.getElem_append_left e]; exact h3 i e
        · have e2 : i = n := by simp at hi; omega
          subst e2
          rw [List.getElem_append_right (by omega)]
          simp only [h1, Nat.sub_self, List.getElem_cons_zero]
          exact ⟨s2, t2⟩
  obtain ⟨l, h1, h2, h3⟩ := key n hc
  exact ⟨l, h1, blk_tl hb h2 h3⟩
theorem row_topb {w : World} {base n cap g : Nat} {l : List Tp} (h : w.ownsRow base 38 2 (.slice (some ⟨g, 0, none⟩) n cap) n (flatT l)) (L : l.length = n) (hsz : ∀ x ∈ l, x.k.size ≤ 1000 ∧ x.a.size ≤ 1000) : TopB w g n := by
  rcases h.2 with ⟨e, _⟩ | ⟨g', cap', cur, e, _, hh, hc, _, hs, ht⟩
  · cases e
  · injection e with e1 _ e3; injection e1 with e1; injection e1 with e1; subst e1
    refine ⟨cur, hh, fun j hj => ?_⟩
    have hi : j / 2 < l.length := by omega
    have h2 := flatT_get l (j / 2) hi
    have hx := hsz l[j / 2] (List.getElem_mem hi)
    have hcur : ∀ q, q < n * 2 → cur[q]? = (flatT l)[q]? := fun q hq => by
      rw [← ht, List.getElem?_take_of_lt hq]; simp
    rcases (by omega : j = j / 2 * 2 ∨ j = j / 2 * 2 + 1) with e | e
    · exact ⟨l[j / 2].k, hx.1, by rw [hcur j hj]; have h3 := h2.1; rwa [← e] at h3⟩
    · exact ⟨l[j / 2].a, hx.2, by rw [hcur j hj]; have h3 := h2.2; rwa [← e] at h3⟩

def RevRet (A : Option Addr) (n : Nat) (w : World) (e : Ending) (w' : World) : Prop := e = .returned (.tuple #[]) ∧ (n = 0 ∧ w' = w ∨ ∃ g, A = some ⟨g, 0, none⟩ ∧ TopB w' g n ∧ Only g w w')

end Go.Proofs.YtnjigaklkalebaaDoor.For
