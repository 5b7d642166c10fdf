/-
  MARKS: slices.Contains at strings, and committeelaw1.scores.
-/
import Derived.Test.YthhiefpickpiaaaGreatDoorCalQ
import Derived.Test.YthhiefpickpiaaaGreatDoorShelf
import Derived.Shelf.Slices.Turned
namespace Go.Proofs.YthhiefpickpiaaaGreatDoor.Cal
open Go.Shelf
open Go.ChangeShapes Go.WideShapes Go.ChangeAt Go.RowKit Stm Key
set_option linter.unusedVariables false

set_option maxHeartbeats 1000000 in
set_option maxRecDepth 100000 in
theorem scores1_true (w : World) : Calls Tryz.prog 9 #[] w fun e w' => e = .returned (.bool true) ∧ Below w.heap.size w w' := by
  have HME := Lib.hid (fun W (hM : ML W (some ⟨w.heap.size, 0, none⟩) [mk7]) => mean_any (some ⟨w.heap.size, 0, none⟩) 1 1 [mk7] mk7.p (by decide) W rfl (by omega) hM 0 (Lib.hid mk7_chk))
  have hM : ML (w.alloc (.cells #[.string ⟨#[112]⟩, .string ⟨#[97]⟩, .int .i64 7] 59)) (some ⟨w.heap.size, 0, none⟩) [mk7] := by
    have hb := Blk.new w 59 #[.string ⟨#[112]⟩, .string ⟨#[97]⟩, .int .i64 7]
    refine ⟨fun x hx => ?_, fun _ => ⟨w.heap.size, rfl, by simp, fun i hi => ?_⟩⟩
    · obtain rfl := List.mem_singleton.1 hx
      exact ⟨by decide, by decide, by decide, by decide⟩
    · have : i = 0 := by simpa using hi
      subst this
      exact ⟨hb.cell 0 _ rfl, hb.cell 1 _ rfl, hb.cell 2 _ rfl⟩
  have HM := Lib.hid (HME.out _ hM)
  have HBW := Lib.hid (show Below w.heap.size w (w.alloc (.cells #[.string ⟨#[112]⟩, .string ⟨#[97]⟩, .int .i64 7] 59)) from (Below.refl _ _).alloc (Nat.le_refl _) _)
  clear hM HME
  go_enter Tryz.func9, Tryz.ntmps9
  go_wp2_with fail
  refine (HM.out).mono ?_; rintro e w1 ⟨hb1, hor⟩
  rcases hor with ⟨h0, _⟩ | ⟨_, hs, _⟩ | ⟨_, _, rfl⟩
  · exact absurd rfl h0
  · exact absurd mk7_mem hs
  · have B1 := Lib.hid (HBW.out.trans (hb1.mono HBW.out.size))
    rw [mk7_sc, show lowZ (sumI [7]) (([7] : List Int).length : Int) = (7, 1) by decide +kernel]
    clear hb1
    go_wp2_with fail
    go_ret
    exact ⟨rfl, by first | exact B1.out.alloc B1.out.size _ | (repeat' (first | (with_reducible exact B1.out) | (with_reducible refine Below.setCell ?_ ?_ _) | (with_reducible refine Below.alloc ?_ ?_ _) | go_size))⟩
end Go.Proofs.YthhiefpickpiaaaGreatDoor.Cal
