/-
  MARKS: slices.Contains at strings, and committeelaw1.scores.
-/
import Derived.Test.YtgajencgpceabaaGreatDoorCalQ
import Derived.Test.YtgajencgpceabaaGreatDoorShelf
import Derived.Shelf.Slices.Turned
namespace Go.Proofs.YtgajencgpceabaaGreatDoor.Cal
open Go.Shelf
open Go.ChangeShapes Go.WideShapes Go.ChangeAt Go.RowKit Stm Key
set_option linter.unusedVariables false

theorem contains_any (A : Option Addr) (n c : Nat) (ss : List ByteArray) (s : ByteArray) (w : World) (hn : ss.length = n) (hn2 : n ≤ 1000) (hS : SL w A ss) :
    Calls Tryz.prog 19 #[.slice A n c, .string s] w fun e w' => (∃ b : Bool, e = .returned (.bool b) ∧ (b = true ↔ s ∈ ss)) ∧ w' = w := by
  rcases Nat.eq_zero_or_pos n with h0 | h0
  · subst h0
    obtain rfl := List.length_eq_zero_iff.1 hn
    refine (Any.slices_Contains_string_empty Tryz.lays110 A c s w).mono ?_
    rintro e w' ⟨rfl, rfl⟩
    exact ⟨⟨false, rfl, by simp⟩, rfl⟩
  · obtain ⟨b, rfl, _, hc⟩ := hS.2 (by omega)
    refine (Any.slices_Contains_string Tryz.lays110 b 0 n c ss s w (by omega) (by omega) (fun j hj => by rw [Nat.zero_add, hc j hj]; simp [hj])).mono ?_
    rintro e w' ⟨rfl, rfl⟩
    refine ⟨⟨_, rfl, ?_⟩, rfl⟩
    rw [← hn, List.take_length]
    exact Lib.containsS_iff ss s
set_option maxHeartbeats 1000000 in
set_option maxRecDepth 100000 in
theorem scores1_true (w : World) : Calls Tryz.prog 15 #[] w fun e w' => e = .returned (.bool true) ∧ Below w.heap.size w w' := by
  have HME := Lib.hid (fun W (hM : ML W (some ⟨w.heap.size, 0, none⟩) [mk7]) => mean_any (some ⟨w.heap.size, 0, none⟩) 1 1 [mk7] mk7.p (by decide) W rfl (by omega) hM 0 (Lib.hid mk7_chk))
  have hM : ML (w.alloc (.cells #[.string ⟨#[112]⟩, .string ⟨#[97]⟩, .int .i64 7] 56)) (some ⟨w.heap.size, 0, none⟩) [mk7] := by
    have hb := Blk.new w 56 #[.string ⟨#[112]⟩, .string ⟨#[97]⟩, .int .i64 7]
    refine ⟨fun x hx => ?_, fun _ => ⟨w.heap.size, rfl, by simp, fun i hi => ?_⟩⟩
    · obtain rfl := List.mem_singleton.1 hx
      exact ⟨by decide, by decide, by decide, by decide⟩
    · have : i = 0 := by simpa using hi
      subst this
      exact ⟨hb.cell 0 _ rfl, hb.cell 1 _ rfl, hb.cell 2 _ rfl⟩
  have HM := Lib.hid (HME.out _ hM)
  have HBW := Lib.hid (show Below w.heap.size w (w.alloc (.cells #[.string ⟨#[112]⟩, .string ⟨#[97]⟩, .int .i64 7] 56)) from (Below.refl _ _).alloc (Nat.le_refl _) _)
  clear hM HME
  go_enter Tryz.func15, Tryz.ntmps15
  go_wp2_with fail
  refine (HM.out).mono ?_; rintro e w1 ⟨hb1, hor⟩
  rcases hor with ⟨h0, _⟩ | ⟨_, hs, _⟩ | ⟨_, _, rfl⟩
  · exact absurd rfl h0
  · exact absurd mk7_mem hs
  · have B1 := Lib.hid (HBW.out.trans (hb1.mono HBW.out.size))
    rw [mk7_sc, show lowZ (sumI [7]) (([7] : List Int).length : Int) = (7, 1) by decide +kernel]
    clear hb1
    go_wp2_with fail
    go_ret
    exact ⟨rfl, by first | exact B1.out.alloc B1.out.size _ | (repeat' (first | (with_reducible exact B1.out) | (with_reducible refine Below.setCell ?_ ?_ _) | (with_reducible refine Below.alloc ?_ ?_ _) | go_size))⟩
end Go.Proofs.YtgajencgpceabaaGreatDoor.Cal
