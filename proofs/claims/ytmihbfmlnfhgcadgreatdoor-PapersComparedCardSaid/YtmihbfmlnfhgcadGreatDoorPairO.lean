/-
  THE ORDER OF PAIRS IN THE REFERENCE (committeeref1.pairOrder), and cmp.Or at two integers.
-/
import Derived.Test.YtmihbfmlnfhgcadGreatDoorMk
import Derived.Test.YtmihbfmlnfhgcadGreatDoorShelf
import Derived.Deep.RegionLaw
import Derived.Deep.CutBlock
import Derived.Deep.DeepCutAuto
namespace Go.Proofs.YtmihbfmlnfhgcadGreatDoor.Cal
open Go.ChangeShapes Go.WideShapes Go.ChangeAt Go.RowKit Stm Key
set_option linter.unusedVariables false

set_option maxRecDepth 100000 in
set_option maxHeartbeats 2000000 in
theorem orint_walk (b : Nat) (x y : Int) (t : TypeId) (w : World) (hb : Blk w b t #[.int .i64 x, .int .i64 y]) (r : Int) (hr : (if x ≠ 0 then x else y) = r) :
    Calls Tryz.prog 42 #[.slice (some ⟨b, 0, none⟩) 2 2] w fun e w' => e = .returned (.int .i64 r) ∧ w' = w := by
  have c0 : w.cell? ⟨b, 0, none⟩ = some (.int .i64 x) := hb.cell 0 _ rfl
  have c1 : w.cell? ⟨b, 1, none⟩ = some (.int .i64 y) := hb.cell 1 _ rfl
  have HR := Lib.hid hr
  clear hb hr
  go_enter Tryz.func42, Tryz.ntmps42
  go_wp2_with fail
  refine wp_loop_rounds 3 ?_
  rw [rounds_succ]
  by_cases hx : x = 0
  · have ex : (x != 0) = false := by simp [hx]
    have HE := Lib.hid (show y = r by have := HR.out; rw [if_neg (by simpa using hx)] at this; exact this)
    clear hx
    go_wp2_with fail
    rw [rounds_succ]
    by_cases hy : y = 0
    · have ey : (y != 0) = false := by simp [hy]
      have HY := Lib.hid hy
      clear hy
      go_wp2_with fail
      rw [rounds_succ]
      go_wp2_with fail
      go_ret
      exact ⟨by rw [← HE.out, HY.out]; try rfl, rfl⟩
    · have ey : (y != 0) = true := by simpa using hy
      clear hy
      go_wp2_with fail
      go_ret
      exact ⟨by rw [← HE.out]; try rfl, rfl⟩
  · have ex : (x != 0) = true := by simpa using hx
    have HE := Lib.hid (show x = r by have := HR.out; rw [if_pos hx] at this; exact this)
    clear hx
    go_wp2_with fail
    go_ret
    exact ⟨by rw [← HE.out]; try rfl, rfl⟩

/-- The order of two pairs. -/
def ordP (a b c d : ByteArray) : Int := if Lib.compareBytes a.data.toList c.data.toList ≠ 0 then Lib.compareBytes a.data.toList c.data.toList else Lib.compareBytes b.data.toList d.data.toList
theorem orint_two (w W : World) (g : Nat) (x y r : Int) (hr : (if x ≠ 0 then x else y) = r) (hg : g = w.heap.size) (hW : W.heap = (w.alloc (.cells #[.int .i64 x, .int .i64 y] 3)).heap) :
    Calls Tryz.prog 42 #[.slice (some ⟨g, 0, none⟩) 2 2] W fun e w' => e = .returned (.int .i64 r) ∧ w' = W := by
  subst hg
  exact orint_walk w.heap.size x y _ W (by show W.heap[w.heap.size]? = _; rw [hW]; exact heap_alloc_new w _) r hr
end Go.Proofs.YtmihbfmlnfhgcadGreatDoor.Cal
