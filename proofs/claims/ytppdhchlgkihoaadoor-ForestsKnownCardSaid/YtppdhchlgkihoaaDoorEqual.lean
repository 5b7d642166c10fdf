/-
  slices.Equal OF TWO EQUAL LISTS OF STRINGS.
-/
import Derived.Test.YtppdhchlgkihoaaDoorStrs
import Derived.Test.YtppdhchlgkihoaaDoorStream
import Derived.Deep.RegionHeld3
import Derived.RegionTactic
import Derived.ChangeAlike
import Derived.Handy
namespace Go.Proofs.YtppdhchlgkihoaaDoor.For
open Go.ChangeShapes Go.WideShapes Go.ChangeAt Go.RowKit Stm Key
set_option linter.unusedVariables false

set_option maxRecDepth 100000 in
set_option maxHeartbeats 4000000 in
theorem equal_any (A A2 : Option Addr) (c c2 : Nat) (ss : List ByteArray) (w : World) (n : Nat) (hn : ss.length = n) (hn2 : n ≤ 1000) (h1 : SL w A ss) (h2 : SL w A2 ss) :
    Calls Tryd.prog 13 #[.slice A n c, .slice A2 n c2] w fun e w' => e = .returned (.bool true) ∧ Below w.heap.size w w' := by
  have H1 := Lib.hid h1
  have H2 := Lib.hid h2
  have HL := Lib.hid hn
  have e0 : ((n : Int) != n) = false := by simp
  clear h1 h2 hn
  go_enter Tryd.func13, Tryd.ntmps13
  go_wp2_with fail
  go_loopw [13] (fun i wr => ∃ j m : Nat, j ≤ n ∧ i = .int .i64 j ∧ Hid (wr = w.drewN m)) (fun i _ => n - (intOf i).toNat)
  case atStart => exact ⟨0, 0, by omega, rfl, Lib.hid rfl⟩
  case round =>
    obtain ⟨j, m, hj, rfl, HW⟩ := hrel
    obtain rfl := HW.out
    by_cases hlt : j < n
    · have hjl : j < ss.length := by rw [HL.out]; exact hlt
      obtain ⟨b, hA, hbl, hc⟩ := H1.out.2 (by omega)
      obtain ⟨b2, hA2, hbl2, hc2⟩ := H2.out.2 (by omega)
      subst hA
      subst hA2
      have c1 : w.cell? ⟨b, j, none⟩ = some (.string ss[j]) := hc j hjl
      have c2' : w.cell? ⟨b2, j, none⟩ = some (.string ss[j]) := hc2 j hjl
      generalize ss[j] = x at *
      have ex : (x.toList == x.toList) = true := by simp
      have a0 : (0 : Int) ≤ (j : Int) := by omega
      have a1 : (j : Int) < (n : Int) := by omega
      clear hc hc2
      go_wp2_with fail
      go_region
      all_goals
        go_wp2_with fail
        go_roundw
        case rel => exact ⟨j + 1, _, by omega, by go_num, Lib.hid (by first | rw [World.drewN_drewN] | rfl)⟩
        case measure => simp [intOf]; omega
    · have hjn : j = n := by omega
      subst hjn
      go_wp2_with fail
      go_ret
      exact ⟨rfl, Stm.Below.drewN (Below.refl _ _) _⟩
end Go.Proofs.YtppdhchlgkihoaaDoor.For
