/-
  THE CONTRACTS OF One AND h06one: one of some strings.
-/
import Derived.Test.YtmihbfmlnfhgcadGreatDoorStream
import Derived.Handy
namespace Go.Proofs.YtmihbfmlnfhgcadGreatDoor.Stm
open Go.ChangeShapes Go.WideShapes Go.ChangeAt Go.RowKit
set_option linter.unusedVariables false

theorem str_cell {w : World} {b : Nat} {zs : List ByteArray} {t : TypeId} {fz : Nat × Nat} (hb : w.heap[b]? = some (.cells (zs.map Value.string).toArray t fz)) (i : Nat) (hi : i < zs.length) :
    w.cell? ⟨b, i, none⟩ = some (.string zs[i]) := by
  simp [World.cell?, hb, List.getElem?_eq_getElem hi]

theorem le_all {zs : List ByteArray} {m : Nat} (h : zs.all (fun s => decide (s.size ≤ m)) = true) : ∀ s ∈ zs, s.size ≤ m := fun s hs => of_decide_eq_true (List.all_eq_true.1 h s hs)
theorem new_at {w : World} {cs : Array Value} {t : TypeId} {n : Nat} (h : n = w.heap.size) : (w.alloc (.cells cs t)).heap[n]? = some (.cells cs t (0, 0)) := by subst h; exact heap_alloc_new w _
theorem pick_le (B k b cap : Nat) (zs : List Int) (t : TypeId) (fz : Nat × Nat) (w : World) (h : Strm w B k) (hk : k ≤ 1099511627776) (hbB : b ≠ B)
    (hb : w.heap[b]? = some (.cells (zs.map (Value.int .i64)).toArray t fz)) (h1 : 1 ≤ zs.length) (h2 : zs.length ≤ 1099511627) :
    Calls Tryz.prog 7 #[.pointer (some ⟨B, 0, none⟩), .slice (some ⟨b, 0, none⟩) zs.length cap] w fun e w' =>
      ∃ r : Int, e = .returned (.int .i64 r) ∧ Only B w w' ∧ Strm w' B (k + 1) :=
  (pick_any B k b cap zs t fz w h hk hbB hb h1 h2).mono fun e w' ⟨r, hr, he, ho, hs⟩ => ⟨r, he, ho, hs⟩
end Go.Proofs.YtmihbfmlnfhgcadGreatDoor.Stm
