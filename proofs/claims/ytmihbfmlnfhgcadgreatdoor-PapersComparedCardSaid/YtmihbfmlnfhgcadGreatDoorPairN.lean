/-
  slices.SortFunc and slices.Compact at no pair (a nil slice).
-/
import Derived.Test.YtmihbfmlnfhgcadGreatDoorPairC
namespace Go.Proofs.YtmihbfmlnfhgcadGreatDoor.Cal
open Go.Shelf Go.Lib Go.Sort
open Go.ChangeShapes Go.WideShapes Go.ChangeAt Go.RowKit Stm Key
set_option linter.unusedVariables false

theorem len64_zero (w : World) : Calls Tryz.prog 76 #[.int .u64 0] w fun e w' => e = .returned (.int .i64 0) ∧ w' = w := by
  go_enter Tryz.func76, Tryz.ntmps76
  go_wp2_with fail
  go_ret
  exact ⟨by kernel_rfl, rfl⟩
theorem len_zero (w : World) : Calls Tryz.prog 55 #[.int .u64 0] w fun e w' => e = .returned (.int .i64 0) ∧ w' = w := by
  go_enter Tryz.func55, Tryz.ntmps55
  go_wp2_with fail
  refine (len64_zero w).mono ?_; rintro e w1 ⟨rfl, rfl⟩
  go_wp2_with fail
  go_ret
  exact ⟨rfl, rfl⟩
theorem insN_any (cap : Nat) (fv : Value) (w : World) : Calls Tryz.prog 67 #[.slice none 0 cap, .int .i64 0, .int .i64 0, fv] w fun e w' => e = .returned (.tuple #[]) ∧ w' = w := by
  go_enter Tryz.func67, Tryz.ntmps67
  go_wp2_with fail
  go_loop [8] (fun i => i = .int .i64 1) (fun _ => 0)
  case atStart => rfl
  case round =>
    subst hrel
    go_wp2_with fail
    go_returns
    exact ⟨rfl, rfl⟩
theorem pdqN_any (cap : Nat) (fv : Value) (w : World) : Calls Tryz.prog 54 #[.slice none 0 cap, .int .i64 0, .int .i64 0, .int .i64 0, fv] w fun e w' => e = .returned (.tuple #[]) ∧ w' = w := by
  go_enter Tryz.func54, Tryz.ntmps54
  go_wp2_with fail
  go_loop [1, 2, 3, 10, 11] (fun a b i p q => a = .int .i64 0 ∧ b = .int .i64 0 ∧ i = .int .i64 0 ∧ p = .bool true ∧ q = .bool true) (fun _ _ _ _ _ => 0)
  case atStart => exact ⟨rfl, rfl, rfl, rfl, rfl⟩
  case round =>
    obtain ⟨rfl, rfl, rfl, rfl, rfl⟩ := hrel
    go_wp2_with fail
    refine (insN_any cap fv _).mono ?_; rintro e w1 ⟨rfl, rfl⟩
    go_wp2_with fail
    go_returns
    exact ⟨rfl, rfl⟩
theorem sortN_any (cap : Nat) (fv : Value) (w : World) : Calls Tryz.prog 36 #[.slice none 0 cap, fv] w fun e w' => e = .returned (.tuple #[]) ∧ w' = w := by
  go_enter Tryz.func36, Tryz.ntmps36
  go_wp2_with fail
  refine (len_zero _).mono ?_; rintro e w1 ⟨rfl, rfl⟩
  go_wp2_with fail
  refine (pdqN_any cap fv _).mono ?_; rintro e w1 ⟨rfl, rfl⟩
  go_wp2_with fail
  go_returns
  exact ⟨rfl, rfl⟩
theorem compactN_any (cap : Nat) (w : World) : Calls Tryz.prog 37 #[.slice none 0 cap] w fun e w' => e = .returned (.slice none 0 cap) ∧ w' = w := by
  go_enter Tryz.func37, Tryz.ntmps37
  go_wp2_with fail
  go_ret
  exact ⟨rfl, rfl⟩
/-- A row of pairs that is owned: it can be read and written. -/
theorem row_pb {w : World} {base g n cap : Nat} {l : List Pr} (h : w.ownsRow base 49 2 (.slice (some ⟨g, 0, none⟩) n cap) n (flatP l)) (hn : l.length = n) : PB w g l ∧ base ≤ g ∧ n ≤ cap := by
  rcases h.2 with ⟨hnil, _⟩ | ⟨g', cap', cur, hv, hbase, hblk, h1, h2, h3, h4⟩
  · injection hnil with hnil; cases hnil
  injection hv with hv hv2 hv3
  injection hv with hv
  injection hv with hv
  subst hv
  subst hv3
  have hglt : g < w.heap.size := (Array.getElem?_eq_some_iff.1 hblk).1
  refine ⟨⟨hglt, fun i hi => ?_⟩, hbase, h1⟩
  have hcell : ∀ t, t < n * 2 → w.cell? ⟨g, t, none⟩ = (flatP l)[t]? := fun t ht => by
    have : (cur.toList.take (n * 2))[t]? = (flatP l)[t]? := congrArg (fun L : List Value => L[t]?) h4
    rw [List.getElem?_take_of_lt ht, Array.getElem?_toList] at this
    simp only [World.cell?, hblk]
    simp only [Option.isSome_none, Bool.false_eq_true, if_false]
    exact this
  obtain ⟨e0, e1⟩ := flatP_get l i hi
  exact ⟨(hcell _ (by omega)).trans e0, (hcell _ (by omega)).trans e1, by simp [World.frozen?, hblk], by simp [World.frozen?, hblk]⟩
end Go.Proofs.YtmihbfmlnfhgcadGreatDoor.Cal
