/-
  THE CONTRACT OF THE REFERENCE'S 'FractionRight': whether a fraction is in lowest terms, and of a small denominator and numerator.
-/
import Derived.Test.YtnjigaklkalebaaDoorPart
import Derived.Deep.RegionHeld3
namespace Go.Proofs.YtnjigaklkalebaaDoor.Frac
open Go.ChangeShapes Go.WideShapes Go.ChangeAt Go.RowKit
set_option linter.unusedVariables false

/-- A fraction that can be added and compared. -/
def right (n d : Int) : Bool := decide (1 ≤ d ∧ d ≤ 1000000000 ∧ 0 ≤ n ∧ n ≤ 1000000000 ∧ Nat.gcd n.toNat d.toNat = 1)

theorem right_no (n d : Int) (h : ¬ (1 ≤ d ∧ d ≤ 1000000000 ∧ 0 ≤ n ∧ n ≤ 1000000000)) : right n d = false := by
  unfold right; simp only [decide_eq_false_iff_not]; intro hh; exact h ⟨hh.1, hh.2.1, hh.2.2.1, hh.2.2.2.1⟩

theorem ret_bool {a b : Bool} (h : a = b) : Ending.returned (.bool a) = .returned (.bool b) := by rw [h]

theorem bcell {W w1 : World} (hb : Below W.heap.size W w1) : (∀ b o, b < W.heap.size → w1.cell? ⟨b, o, none⟩ = W.cell? ⟨b, o, none⟩) ∧ (∀ b o, b < W.heap.size → w1.frozen? ⟨b, o, none⟩ = W.frozen? ⟨b, o, none⟩) :=
  ⟨fun b o h => hb.cell (p := ⟨b, o, none⟩) h, fun b o h => hb.frozen (p := ⟨b, o, none⟩) h⟩

theorem part_as (n d p q : Nat) (w : World) (hn : n ≤ 4611686018427387904) (hd : 1 ≤ d) (hd2 : d ≤ 4611686018427387904) (hp : Hid (n / Nat.gcd n d = p)) (hq : Hid (d / Nat.gcd n d = q)) :
    Calls Tryd.prog 41 #[.int .i64 n, .int .i64 d] w fun e w' => e = .returned (.agg #[.int .i64 p, .int .i64 q]) ∧ Below w.heap.size w w' := by
  rw [← hp.out, ← hq.out]; exact part_any n d w hn hd hd2

end Go.Proofs.YtnjigaklkalebaaDoor.Frac
