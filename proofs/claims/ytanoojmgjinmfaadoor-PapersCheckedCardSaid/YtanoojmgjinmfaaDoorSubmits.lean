/-
  THE STATEMENTS' OWN TEST: the program counts words: submit.Length of "one two\n" is 2 words, 1 line.
-/
import Derived.Test.YtanoojmgjinmfaaDoorWords
import Derived.Test.YtanoojmgjinmfaaDoorRefKeys
import Derived.Test.YtanoojmgjinmfaaDoorArrive
import Derived.Shelf.Strings.Split
import Derived.Shelf.Small.Wraps
namespace Go.Proofs.YtanoojmgjinmfaaDoor.Key
open Go.ChangeShapes Go.WideShapes Go.ChangeAt Go.RowKit
set_option linter.unusedVariables false

def oneTwoN : ByteArray := ⟨#[111, 110, 101, 32, 116, 119, 111, 10]⟩
def oneTwo : ByteArray := ⟨#[111, 110, 101, 32, 116, 119, 111]⟩
theorem oneTwo_body : bodyE oneTwoN = 0 := by decide +kernel
theorem oneTwo_runs : runsF (oneTwoN.size + 1) oneTwoN.data.toList = 2 := by decide +kernel
theorem oneTwo_trim : (⟨(Lib.trimS oneTwo.data.toList [32]).toArray⟩ : ByteArray) = oneTwo := by rfl
theorem oneTwo_cut : (⟨(Lib.trimSuffix oneTwoN.data.toList [10]).toArray⟩ : ByteArray) = oneTwo := by rfl
theorem oneTwo_suffix : Lib.hasSuffix oneTwoN.data.toList [10] = true := by decide +kernel
theorem oneTwo_count : Lib.countB oneTwo ⟨#[10]⟩ = 0 := by decide +kernel
theorem oneTwo_split : (Lib.splitB ⟨#[10]⟩ 0 (Lib.countB oneTwo ⟨#[10]⟩) oneTwo).map Value.string = [.string oneTwo] := by rw [oneTwo_count]; rfl

theorem split_one (w : World) (hT : Tabs w) : Calls Tryd.prog 67 #[.string oneTwo, .string ⟨#[10]⟩] w fun e w' =>
    e = .returned (.slice (some ⟨w.heap.size, 0, none⟩) 1 1) ∧ w' = w.alloc (.cells #[.string oneTwo] 9) := by
  obtain ⟨m, hm⟩ := hT.2
  have h := Any.strings_Split Tryd.lays146 (by kernel_rfl) oneTwo ⟨#[10]⟩ m w (by decide) hm (by decide)
  rw [oneTwo_split, oneTwo_count] at h
  exact h

set_option maxHeartbeats 1000000 in
theorem lines_one (w : World) (hT : Tabs w) : Calls Tryd.prog 48 #[.string oneTwoN] w fun e w' =>
    e = .returned (.tuple #[.slice (some ⟨w.heap.size, 0, none⟩) 1 1, .bool true]) ∧ w' = w.alloc (.cells #[.string oneTwo] 9) := by
  have h1 : Calls Tryd.prog 66 #[.string oneTwoN, .string ⟨#[10]⟩] w fun e w' => e = .returned (.tuple #[.string oneTwo, .bool true]) ∧ w' = w := by
    have h := Any.strings_CutSuffix Tryd.lays104 oneTwoN ⟨#[10]⟩ w (by decide)
    rw [show (⟨#[10]⟩ : ByteArray).data.toList = [10] from rfl, oneTwo_cut, oneTwo_suffix] at h
    exact h
  have H1 := Lib.hid h1
  have H2 := Lib.hid (split_one w hT)
  have he : oneTwoN.toList.isEmpty = false := by rw [Lib.toList_data]; rfl
  clear h1 hT
  generalize oneTwoN = s0 at *
  generalize oneTwo = r0 at *
  go_enter Tryd.func48, Tryd.ntmps48
  go_wp2_with fail
  refine (H1.out).mono ?_; rintro e w1 ⟨rfl, rfl⟩
  go_wp2_with fail
  refine (H2.out).mono ?_; rintro e w2 ⟨rfl, rfl⟩
  go_wp2_with fail
  go_returns
  exact ⟨rfl, rfl⟩

theorem trim_one (w : World) : Calls Tryd.prog 45 #[.string oneTwo, .string ⟨#[32]⟩] w fun e w' => e = .returned (.string oneTwo) ∧ Below w.heap.size w w' := by
  have h := Any.strings_Trim_laid Tryd.lays160 (by kernel_rfl) oneTwo ⟨#[32]⟩ w (by decide) (by decide) (ascii_of_all (by decide))
  rw [show (⟨#[32]⟩ : ByteArray).data.toList = [32] from rfl, oneTwo_trim] at h
  exact h

set_option maxHeartbeats 2000000 in
theorem length_one (w : World) (hg : gTop ≤ w.heap.size) (hT : Tabs w) : Calls Tryd.prog 27 #[.string oneTwoN] w fun e w' =>
    e = .returned (.tuple #[.int .i64 2, .int .i64 1, .int .i64 0]) ∧ Below w.heap.size w w' := by
  have h1 := checkText_any oneTwoN w (by decide) hT
  rw [oneTwo_body] at h1
  have H1 := Lib.hid h1
  have H2 : Hid (∀ W, Below w.heap.size w W → Calls Tryd.prog 48 #[.string oneTwoN] W fun e w' =>
      e = .returned (.tuple #[.slice (some ⟨W.heap.size, 0, none⟩) 1 1, .bool true]) ∧ w' = W.alloc (.cells #[.string oneTwo] 9)) := Lib.hid fun W hW => lines_one W (hT.below (hW.mono hg))
  have H3 : Hid (∀ W, Calls Tryd.prog 45 #[.string oneTwo, .string ⟨#[32]⟩] W fun e w' => e = .returned (.string oneTwo) ∧ Below W.heap.size W w') := Lib.hid trim_one
  have H4 : Hid (∀ W, Calls Tryd.prog 49 #[.string oneTwoN] W fun e w' => ∃ (A : Option Addr) (cap : Nat), e = .returned (.slice A 2 cap) ∧ Below W.heap.size W w') := Lib.hid fun W => by
    have := placed_any oneTwoN W (by decide); rw [oneTwo_runs] at this; exact this
  have he : oneTwo.toList.isEmpty = false := by rw [Lib.toList_data]; rfl
  clear h1 hT
  generalize oneTwoN = s0 at *
  generalize oneTwo = r0 at *
  go_enter Tryd.func27, Tryd.ntmps27
  go_wp2_with fail
  refine (H1.out).mono ?_; rintro e w1 ⟨rfl, hb⟩
  have HB := Lib.hid hb
  clear hb
  go_wp2_with fail
  refine (H2.out _ HB.out).mono ?_; rintro e w2 ⟨rfl, rfl⟩
  have HB2 := Lib.hid (HB.out.alloc HB.out.size (.cells #[.string r0] 9))
  have HC := Lib.hid (Blk.new w1 9 #[.string r0])
  go_wp2_with fail
  go_loopw [8, 23] (fun v8 i wr => ∃ k : Nat, k ≤ 1 ∧ i = .int .i64 k ∧ v8 = .int .i64 k ∧ Hid (Below w.heap.size w wr) ∧ Hid (Blk wr w1.heap.size 9 #[.string r0])) (fun _ i _ => 1 - (intOf i).toNat)
  case atStart => exact ⟨0, by omega, rfl, rfl, HB2, HC⟩
  case round =>
    obtain ⟨k, hk, rfl, rfl, HBW, HCW⟩ := hrel
    by_cases hlt : k < 1
    · obtain rfl : k = 0 := by omega
      have c0 := HCW.out.cell 0 _ rfl
      have hl := HCW.out.lt
      go_wp2_with fail
      refine (H3.out _).mono ?_; rintro e w3 ⟨rfl, hb⟩
      have HB3 := Lib.hid (HBW.out.trans (hb.mono HBW.out.size))
      have HC3 := Lib.hid (HCW.out.below hb hl)
      clear hb c0
      go_wp2_with fail
      go_roundw
      case rel => exact ⟨1, by omega, rfl, rfl, HB3, HC3⟩
      case measure => simp [intOf]
    · obtain rfl : k = 1 := by omega
      go_wp2_with fail
      refine (H4.out _).mono ?_; rintro e w3 ⟨A, cap, rfl, hb⟩
      have HB3 := Lib.hid (HBW.out.trans (hb.mono HBW.out.size))
      clear hb
      go_wp2_with fail
      go_returns
      exact ⟨rfl, HB3.out⟩

theorem submits1_any (w : World) (hg : gTop ≤ w.heap.size) (hT : Tabs w) : Calls Tryd.prog 9 #[] w fun e w' => e = .returned (.bool true) ∧ Below w.heap.size w w' := by
  have H := Lib.hid (length_one w hg hT)
  unfold oneTwoN at H
  clear hT
  go_enter Tryd.func9, Tryd.ntmps9
  go_wp2_with fail
  refine (H.out).mono ?_; rintro e w1 ⟨rfl, hb⟩
  have HB := Lib.hid hb; clear hb
  go_wp2_with fail
  go_returns
  exact ⟨rfl, HB.out⟩
end Go.Proofs.YtanoojmgjinmfaaDoor.Key
