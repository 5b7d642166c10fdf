/-
  THE CONTRACTS OF THE MAKERS some AND Wanted, beside a forest.
-/
import Derived.Test.YtnjigaklkalebaaDoorSkillGen
namespace Go.Proofs.YtnjigaklkalebaaDoor.For
open Go.ChangeShapes Go.WideShapes Go.ChangeAt Go.RowKit Stm Key
set_option linter.unusedVariables false

theorem snocB {l : List ByteArray} {x : ByteArray} (h : ∀ x ∈ l, x.size ≤ 1000) (h1 : x.size ≤ 1000) : ∀ y ∈ l ++ [x], y.size ≤ 1000 := fun y hy => by
  rcases List.mem_append.1 hy with h3 | h3
  · exact h y h3
  · simp at h3; subst h3; exact h1
theorem SL.gr {w w' : World} {A : Option Addr} {l : List ByteArray} {B : Nat} (h : SL w A l) (ha : AtT B A l.length) (g : Gr B w w') : SL w' A l :=
  ⟨h.1, fun h0 => by
    obtain ⟨b, hA, hlt, hc⟩ := h.2 h0
    have hb : b ≠ B := by
      rcases ha with ⟨_, e⟩ | ⟨g, e, hg⟩
      · omega
      · rw [e] at hA; injection hA with hA; injection hA with h1; omega
    exact ⟨b, hA, Nat.lt_of_lt_of_le hlt g.size, fun i hi => (g.cell b _ hlt hb).trans (hc i hi)⟩⟩
def topics6 : List ByteArray := [⟨#[97, 114, 116]⟩, ⟨#[98, 114, 101, 97, 100]⟩, ⟨#[99, 97, 107, 101]⟩, ⟨#[100, 97, 114, 107]⟩, ⟨#[114, 111, 108, 108, 115]⟩, ⟨#[114, 121, 101]⟩]
theorem topics6_le : ∀ s ∈ topics6, s.size ≤ 1000 := le_all (by decide)
/-- What the maker of wanted topics hands back. -/
def WGRet (B k : Nat) (w : World) (e : Ending) (w' : World) : Prop := ∃ (A : Option Addr) (n c : Nat) (l : List ByteArray), e = .returned (.slice A n c) ∧ l.length = n ∧ n ≤ 7 ∧ n ≤ c ∧ SL w' A l ∧ AtT B A n ∧ Gr B w w' ∧ Strm w' B (k + 8)

end Go.Proofs.YtnjigaklkalebaaDoor.For
