/-
  slices.Equal OF TWO EQUAL LISTS OF TOPICS; the law's own question (package committeekeep1).
-/
import Derived.Test.YtnjigaklkalebaaDoorGSpreadM
import Derived.Test.YtnjigaklkalebaaDoorLawFA
namespace Go.Proofs.YtnjigaklkalebaaDoor.For
open Go.ChangeShapes Go.WideShapes Go.ChangeAt Go.RowKit Stm Key
set_option linter.unusedVariables false

set_option maxRecDepth 100000 in
set_option maxHeartbeats 4000000 in
theorem equalt_any (A A2 : Option Addr) (c c2 : Nat) (l : List Tp) (w : World) (n : Nat) (hn : l.length = n) (hn2 : n ≤ 1000) (h1 : TL w A l) (h2 : TL w A2 l) :
    Calls Tryd.prog 11 #[.slice A n c, .slice A2 n c2] w fun e w' => e = .returned (.bool true) ∧ Below w.heap.size w w' := by
  have H1 := Lib.hid h1
  have H2 := Lib.hid h2
  have HL := Lib.hid hn
  have e0 : ((n : Int) != n) = false := by simp
  clear h1 h2 hn
  go_enter Tryd.func11, Tryd.ntmps11
  go_wp2_with fail
  go_loopw [13] (fun i wr => ∃ j m : Nat, j ≤ n ∧ i = .int .i64 j ∧ Hid (wr = w.drewN m)) (fun i _ => n - (intOf i).toNat)
  case atStart => exact ⟨0, 0, by omega, rfl, Lib.hid rfl⟩
  case round =>
    obtain ⟨j, m, hj, rfl, HW⟩ := hrel
    obtain rfl := HW.out
    by_cases hlt : j < n
    · have hjl : j < l.length := by rw [HL.out]; exact hlt
      obtain ⟨b, hA, hbl, hc⟩ := H1.out.2 (by omega)
      obtain ⟨b2, hA2, hbl2, hc2⟩ := H2.out.2 (by omega)
      subst hA
      subst hA2
      obtain ⟨x0, x1⟩ := hc j hjl
      obtain ⟨y0, y1⟩ := hc2 j hjl
      generalize l[j] = x at *
      have ex : (x.k.toList == x.k.toList) = true := by simp
      have ey : (x.a.toList == x.a.toList) = true := by simp
      have a0 : (0 : Int) ≤ (j : Int) := by omega
      have a1 : (j : Int) < (n : Int) := by omega
      clear hc hc2
      go_wp2_with fail
      go_region
      all_goals
        go_wp2_with fail
        go_roundw
        case rel => exact ⟨j + 1, _, by omega, by go_num, Lib.hid (by first | rw [World.drewN_drewN] | rfl)⟩
        case measure => simp [intOf]; omega
    · have hjn : j = n := by omega
      subst hjn
      go_wp2_with fail
      go_ret
      exact ⟨rfl, Stm.Below.drewN (Below.refl _ _) _⟩
theorem topicsk_any (w : World) : Calls Tryd.prog 7 #[] w fun e w' => e = .returned (.bool true) ∧ Below w.heap.size w w' := by
  have e1 : Frac.addR 1 2 1 6 = (2, 3, 0) := by decide +kernel
  have c := Frac.add_ok 1 2 1 6 w
  rw [e1] at c
  have H := Lib.hid c; clear c
  go_enter Tryd.func7, Tryd.ntmps7
  go_wp2_with fail
  refine (H.out).mono ?_
  rintro e w1 ⟨rfl, hb⟩
  unfold Frac.fracRes
  go_wp2_with fail
  go_ret
  exact ⟨rfl, hb.alloc hb.size _⟩
end Go.Proofs.YtnjigaklkalebaaDoor.For
