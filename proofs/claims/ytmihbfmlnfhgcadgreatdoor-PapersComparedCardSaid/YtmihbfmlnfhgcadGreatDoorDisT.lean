/-
  The question whether package discuss counts (committeelaw2.talked): true. All laws of chapter 7 end in it.
-/
import Derived.Test.YtmihbfmlnfhgcadGreatDoorDisM
namespace Go.Proofs.YtmihbfmlnfhgcadGreatDoor.Cal
open Go.ChangeShapes Go.WideShapes Go.ChangeAt Go.RowKit Stm Key
set_option linter.unusedVariables false

def mk3 : Mk := ⟨⟨#[112]⟩, ⟨#[97]⟩, 3⟩
theorem mk3_mean : dMean [mk3] mk3.p = ((3, 1), 0) := by decide +kernel
set_option maxHeartbeats 1000000 in
set_option maxRecDepth 100000 in
theorem talked_true (w : World) : Calls Tryz.prog 13 #[] w fun e w' => e = .returned (.bool true) ∧ Below w.heap.size w w' := by
  have HME := Lib.hid (fun W (hM : ML W (some ⟨w.heap.size, 0, none⟩) [mk3]) => dmean_walk (some ⟨w.heap.size, 0, none⟩) 1 1 [mk3] mk3.p W rfl (by omega) hM (by decide) _ mk3_mean)
  have hM : ML (w.alloc (.cells #[.string ⟨#[112]⟩, .string ⟨#[97]⟩, .int .i64 3] 51)) (some ⟨w.heap.size, 0, none⟩) [mk3] := by
    have hb := Blk.new w 51 #[.string ⟨#[112]⟩, .string ⟨#[97]⟩, .int .i64 3]
    refine ⟨fun x hx => ?_, fun _ => ⟨w.heap.size, rfl, by simp, fun i hi => ?_⟩⟩
    · obtain rfl := List.mem_singleton.1 hx
      exact ⟨by decide, by decide, by decide, by decide⟩
    · have : i = 0 := by simpa using hi
      subst this
      exact ⟨hb.cell 0 _ rfl, hb.cell 1 _ rfl, hb.cell 2 _ rfl⟩
  have HM := Lib.hid (HME.out _ hM)
  have HBW := Lib.hid (show Below w.heap.size w (w.alloc (.cells #[.string ⟨#[112]⟩, .string ⟨#[97]⟩, .int .i64 3] 51)) from (Below.refl _ _).alloc (Nat.le_refl _) _)
  clear hM HME
  go_enter Tryz.func13, Tryz.ntmps13
  go_wp2_with fail
  refine (HM.out).mono ?_; rintro e w1 ⟨rfl, hb1⟩
  have B1 := Lib.hid (HBW.out.trans (hb1.mono HBW.out.size))
  clear hb1
  go_wp2_with fail
  go_ret
  exact ⟨rfl, by first | exact B1.out.alloc B1.out.size _ | (repeat' (first | (with_reducible exact B1.out) | (with_reducible refine Below.setCell ?_ ?_ _) | (with_reducible refine Below.alloc ?_ ?_ _) | go_size))⟩
end Go.Proofs.YtmihbfmlnfhgcadGreatDoor.Cal
