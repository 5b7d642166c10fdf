/-
  THE CONTRACT OF THE PROGRAM'S Worth at a right fraction that is not above 1 and a level that there is.
-/
import Derived.Test.YtdbakhhjiijcnaaDoorAddOk
namespace Go.Proofs.YtdbakhhjiijcnaaDoor.Frac
open Go.ChangeShapes Go.WideShapes Go.ChangeAt Go.RowKit
set_option linter.unusedVariables false

/-- What a bid gives. -/
def shareI (b : Int) : Int := if b = 1 then 0 else if b = 2 then 600000 else if b = 3 then 800000 else if b = 4 then 1000000 else 500000
/-- The table of the levels' worths. -/
def WT (w : World) : Prop := 0 < w.heap.size ∧ ∀ i : Nat, i < 5 → w.cell? ⟨0, i, none⟩ = some (.int .i64 (shareI i))
theorem WT.below {w w' : World} (h : WT w) (hb : Below w.heap.size w w') : WT w' :=
  ⟨Nat.lt_of_lt_of_le h.1 hb.size, fun i hi => (hb.cell (p := ⟨0, i, none⟩) h.1).trans (h.2 i hi)⟩
theorem level_any (b : Int) (w : World) (h0 : 0 ≤ b) (h1 : b < 5) : Calls Tryd.prog 10 #[.int .i64 b] w fun e w' => e = .returned (.bool true) ∧ w' = w := by
  have d0 : decide (b ≥ 0) = true := by simpa using h0
  have d1 : decide (b < 5) = true := by simpa using h1
  go_enter Tryd.func10, Tryd.ntmps10
  go_wp2
  go_ret
  exact ⟨rfl, rfl⟩
set_option maxHeartbeats 1000000 in
theorem worth_in (n d b : Nat) (w : World) (s : Int) (hs : Hid (shareI b = s)) (hs0 : 0 ≤ s) (hs1 : s ≤ 1000000) (hT : WT w) (hn : n ≤ 1000000000) (hd : 1 ≤ d) (hd2 : d ≤ 1000000000) (hb : b < 5) :
    Calls Tryd.prog 11 #[.agg #[.int .i64 n, .int .i64 d], .int .i64 b] w fun e w' => e = .returned (.int .i64 (s * n / d)) ∧ Below w.heap.size w w' := by
  have c0 := hT.2 b hb
  rw [hs.out] at c0
  have g0 := hT.1
  have m0 : 0 ≤ s * n := Int.mul_nonneg hs0 (Int.natCast_nonneg _)
  have m1 : s * n ≤ 1000000 * 1000000000 := Int.mul_le_mul hs1 (by omega) (Int.natCast_nonneg _) (by omega)
  have q0 : 0 ≤ s * n / d := Int.ediv_nonneg m0 (by omega)
  have q1 : s * n / d ≤ 1000000 * 1000000000 := Int.le_trans (Int.ediv_le_self _ m0) m1
  have dz : ((d : Int) == 0) = false := by simp; omega
  have e1 : wrap64 (s * n / d) = s * n / d := IntWalk.wrap64_in _ (by omega)
  have i0 : (0 : Int) ≤ (b : Int) := by omega
  have i1 : (b : Int) < 5 := by omega
  clear hT
  go_enter Tryd.func11, Tryd.ntmps11
  go_wp2
  go_quiet (fail)
  go_wp2
  go_ret
  exact ⟨rfl, Stm.Below.drewN ((Below.refl _ _).alloc (Nat.le_refl _) _) _⟩
set_option maxHeartbeats 2000000 in
theorem worth_ok (n d b : Int) (w : World) (hT : WT w) (h : right n d = true) (hnd : n ≤ d) (h0 : 0 ≤ b) (h1 : b ≤ 4) :
    Calls Tryd.prog 6 #[.agg #[.int .i64 n, .int .i64 d], .int .i64 b] w fun e w' => e = .returned (.tuple #[.int .i64 (shareI b * n / d), .int .i64 0]) ∧ Below w.heap.size w w' := by
  have H := Lib.hid (show rightsE [(n, d)] = 0 by show (if right n d = true then (0 : Int) else 3) = 0; rw [if_pos h])
  obtain ⟨nn, dd, rfl, rfl, g1, g2, g3⟩ := right_out h
  obtain ⟨b, rfl⟩ := Int.eq_ofNat_of_zero_le h0
  have s0 : 0 ≤ shareI b := by unfold shareI; split <;> (try split) <;> (try split) <;> (try split) <;> omega
  have s1 : shareI b ≤ 1000000 := by unfold shareI; split <;> (try split) <;> (try split) <;> (try split) <;> omega
  have HW := Lib.hid (fun w hT => worth_in nn dd b w _ (Lib.hid rfl) s0 s1 hT g3 g1 g2 (by omega))
  have HL := Lib.hid (fun w => level_any b w h0 (by omega))
  have HT := Lib.hid hT
  have e1 : decide ((nn : Int) > (dd : Int)) = false := by simp; omega
  generalize shareI b * nn / dd = r at *
  clear h s0 s1 hT
  go_enter Tryd.func6, Tryd.ntmps6
  go_wp2_with fail
  refine (fracs_walk _ 1 _ [((nn : Int), (dd : Int))] _ rfl (by omega) (fl_new1 _ _ _ (by simp)) 0 H).mono ?_
  rintro e w1 ⟨rfl, hb⟩
  obtain ⟨hc, hf⟩ := bcell hb
  have x0 : w1.cell? ⟨w.heap.size, 0, none⟩ = some (.int .i64 nn) := by rw [hc _ _ (by go_size)]; go_cell
  have x1 : w1.cell? ⟨w.heap.size, 1, none⟩ = some (.int .i64 dd) := by rw [hc _ _ (by go_size)]; go_cell
  have z1 : w.heap.size < w1.heap.size := by have := hb.size; simp at this; omega
  have HB1 := Lib.hid (show Below w.heap.size w w1 from Below.trans (by go_grown) (hb.mono (by simp; omega)))
  clear hc hf hb H
  go_wp2_with fail
  refine (HL.out _).mono ?_
  rintro e w2 ⟨rfl, rfl⟩
  go_wp2_with fail
  refine (HW.out _ (HT.out.below HB1.out)).mono ?_
  rintro e w3 ⟨rfl, hb3⟩
  go_wp2_with fail
  go_ret2
  exact ⟨rfl, HB1.out.trans (hb3.mono (by omega))⟩
end Go.Proofs.YtdbakhhjiijcnaaDoor.Frac
