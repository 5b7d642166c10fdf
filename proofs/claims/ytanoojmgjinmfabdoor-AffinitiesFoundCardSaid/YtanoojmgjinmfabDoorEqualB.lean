/-
  slices.Equal OF TWO EQUAL LISTS OF REASONS (api.Because).
-/
import Derived.Test.YtanoojmgjinmfabDoorOr
import Derived.Deep.RegionHeld3
namespace Go.Proofs.YtanoojmgjinmfabDoor.For
open Go.ChangeShapes Go.WideShapes Go.ChangeAt Go.RowKit Stm Key
set_option linter.unusedVariables false

/-- A reason: a topic, the skill by which it is known, how well. -/
structure Bc where
  t : ByteArray
  b : ByteArray
  p : Int
  q : Int
/-- A list of reasons in memory. -/
def BL (w : World) (A : Option Addr) (l : List Bc) : Prop :=
  0 < l.length → ∃ g, A = some ⟨g, 0, none⟩ ∧ g < w.heap.size ∧ ∀ (i : Nat) (h : i < l.length), w.cell? ⟨g, i * 4, none⟩ = some (.string l[i].t) ∧ w.cell? ⟨g, i * 4 + 1, none⟩ = some (.string l[i].b) ∧ w.cell? ⟨g, i * 4 + 2, none⟩ = some (.int .i64 l[i].p) ∧ w.cell? ⟨g, i * 4 + 3, none⟩ = some (.int .i64 l[i].q)

set_option maxRecDepth 100000 in
set_option maxHeartbeats 4000000 in
theorem equalb_any (A A2 : Option Addr) (c c2 : Nat) (l : List Bc) (w : World) (n : Nat) (hn : l.length = n) (hn2 : n ≤ 1000) (h1 : BL w A l) (h2 : BL w A2 l) :
    Calls Tryd.prog 15 #[.slice A n c, .slice A2 n c2] w fun e w' => e = .returned (.bool true) ∧ Below w.heap.size w w' := by
  have H1 := Lib.hid h1
  have H2 := Lib.hid h2
  have HL := Lib.hid hn
  have e0 : ((n : Int) != n) = false := by simp
  clear h1 h2 hn
  go_enter Tryd.func15, Tryd.ntmps15
  go_wp2_with fail
  go_loopw [13] (fun i wr => ∃ j m : Nat, j ≤ n ∧ i = .int .i64 j ∧ Hid (wr = w.drewN m)) (fun i _ => n - (intOf i).toNat)
  case atStart => exact ⟨0, 0, by omega, rfl, Lib.hid rfl⟩
  case round =>
    obtain ⟨j, m, hj, rfl, HW⟩ := hrel
    obtain rfl := HW.out
    by_cases hlt : j < n
    · have hjl : j < l.length := by rw [HL.out]; exact hlt
      obtain ⟨b, hA, hbl, hc⟩ := H1.out (by omega)
      obtain ⟨b2, hA2, hbl2, hc2⟩ := H2.out (by omega)
      subst hA
      subst hA2
      obtain ⟨x0, x1, x2, x3⟩ := hc j hjl
      obtain ⟨y0, y1, y2, y3⟩ := hc2 j hjl
      generalize l[j] = x at *
      have ex : (x.t.toList == x.t.toList) = true := by simp
      have ey : (x.b.toList == x.b.toList) = true := by simp
      have ep : (x.p == x.p) = true := by simp
      have eq : (x.q == x.q) = true := by simp
      have a0 : (0 : Int) ≤ (j : Int) := by omega
      have a1 : (j : Int) < (n : Int) := by omega
      clear hc hc2
      go_wp2_with fail
      go_region
      all_goals
        go_wp2_with fail
        go_roundw
        case rel => exact ⟨j + 1, _, by omega, by go_num, Lib.hid (by first | rw [World.drewN_drewN] | rfl)⟩
        case measure => simp [intOf]; omega
    · have hjn : j = n := by omega
      subst hjn
      go_wp2_with fail
      go_ret
      exact ⟨rfl, Stm.Below.drewN (Below.refl _ _) _⟩
end Go.Proofs.YtanoojmgjinmfabDoor.For
