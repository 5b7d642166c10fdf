/-
  THE WALK OF THE LAW BidsRaiseWorth, over the contracts of the program's Worth and Add.
-/
import Derived.Test.YtdbakhhjiijcnaaDoorLaw
import Derived.Test.YtdbakhhjiijcnaaDoorFractionGen
import Derived.Test.YtdbakhhjiijcnaaDoorWorthOk
namespace Go.Proofs.YtdbakhhjiijcnaaDoor.Frac
open Go.ChangeShapes Go.WideShapes Go.ChangeAt Go.RowKit Stm
set_option linter.unusedVariables false

/-- What the program's Worth does with a right fraction that is not above 1 and a level from BidNo to BidEager. -/
def WorthOk (W0 : World) : Prop := ∀ (n d b : Int) (w : World), Below W0.heap.size W0 w → right n d = true → n ≤ d → 1 ≤ b → b ≤ 4 → Calls Tryd.prog 6 #[.agg #[.int .i64 n, .int .i64 d], .int .i64 b] w fun e w' =>
  e = .returned (.tuple #[.int .i64 (shareI b * n / d), .int .i64 0]) ∧ Below w.heap.size w w'
/-- What the program's Add does. -/
def AddOk2 : Prop := ∀ (n1 d1 n2 d2 : Int) (w : World), Calls Tryd.prog 12 #[.agg #[.int .i64 n1, .int .i64 d1], .agg #[.int .i64 n2, .int .i64 d2]] w fun e w' =>
  e = .returned (fracRes (addR n1 d1 n2 d2)) ∧ Below w.heap.size w w'

theorem topics2_any (hA : AddOk2) (w : World) : Calls Tryd.prog 7 #[] w fun e w' => e = .returned (.bool true) ∧ Below w.heap.size w w' := by
  have e1 : addR 1 2 1 6 = (2, 3, 0) := by decide +kernel
  have c := hA 1 2 1 6 w
  rw [e1] at c
  have H := Lib.hid c; clear c
  go_enter Tryd.func7, Tryd.ntmps7
  go_wp2_with fail
  refine (H.out).mono ?_
  rintro e w1 ⟨rfl, hb⟩
  unfold fracRes
  go_wp2_with fail
  go_ret
  exact ⟨rfl, hb.alloc hb.size _⟩

/-- The three worths of the law, and how they lie. -/
theorem three_worths (n d b : Int) (hn : 0 ≤ n) (hnd : n ≤ d) (hd : 1 ≤ d) (h1 : 1 ≤ b) (h2 : b ≤ 3) :
    0 ≤ shareI b * n / d ∧ shareI b * n / d ≤ shareI (b + 1) * n / d ∧ shareI (b + 1) * n / d ≤ 1000000 ∧ shareI b * n / d ≤ shareI b * 1 / 1 := by
  have s0 : 0 ≤ shareI b := by unfold shareI; split <;> (try split) <;> (try split) <;> (try split) <;> omega
  have s1 : shareI b ≤ shareI (b + 1) := by
    rcases (by omega : b = 1 ∨ b = 2 ∨ b = 3) with rfl | rfl | rfl <;> decide
  have s2 : shareI (b + 1) ≤ 1000000 := by unfold shareI; split <;> (try split) <;> (try split) <;> (try split) <;> omega
  have m : ∀ s : Int, 0 ≤ s → s * n / d ≤ s := fun s hs => by
    have h := Int.mul_le_mul_of_nonneg_left hnd hs
    have h3 := Int.ediv_le_ediv (show 0 < d by omega) h
    rwa [Int.mul_ediv_cancel _ (by omega)] at h3
  refine ⟨Int.ediv_nonneg (Int.mul_nonneg s0 hn) (by omega), Int.ediv_le_ediv (by omega) (Int.mul_le_mul_of_nonneg_right s1 hn), ?_, ?_⟩
  · have := m (shareI (b + 1)) (by omega); omega
  · rw [Int.mul_one, Int.ediv_one]; exact m _ s0

/-- What the law asks of a fraction. -/
def Fits (n d : Int) : Prop := right n d = true ∧ 0 ≤ n ∧ n ≤ d ∧ 1 ≤ d

set_option maxHeartbeats 2000000 in
theorem law_worth (hA : AddOk2) (a0 : Option Addr) (len0 cap0 : Nat) (z0 : List Int) (w : World) (w0 : IsRow .i64 w a0 len0 cap0 z0) (hW : WorthOk w) :
    Calls Tryd.prog 3 #[.slice a0 len0 cap0] w fun e w' => e = .returned (.bool true) ∧ Below w.heap.size w w' := by
  have hs0 := strm_new w0
  clear w0
  have HA := Lib.hid hA; clear hA
  have HW := Lib.hid hW; clear hW
  go_enter Tryd.func3, Tryd.ntmps3
  go_wp2_with fail
  refine (next_any _ _ _ _ hs0 (by omega) (by omega) (by omega)).mono ?_
  rintro e w1 ⟨r, h0, h5, rfl, o1, s1⟩
  go_wp2_with fail
  refine (range_any _ _ _ _ _ s1 (by omega) (by omega) (by omega) (by omega)).mono ?_
  rintro e w2 ⟨b, b1, b3, rfl, o2, s2⟩
  have hb2 : Below w.heap.size w w2 := ((Below.refl _ _).alloc (Nat.le_refl _) _).trans ((o1.trans o2).below (Nat.le_refl _))
  have z2 := hb2.size
  clear hs0 o1 s1 o2 s2
  rcases (by omega : r = 0 ∨ r = 1 ∨ r = 2 ∨ r = 3 ∨ r = 4) with rfl | rfl | rfl | rfl | rfl
  · have r0 : right 0 1 = true := by decide +kernel
    obtain ⟨t0, t1, t2, t3⟩ := three_worths 0 1 b (by omega) (by omega) (by omega) b1 b3
    have W1 := fun (W : World) (hW : Below w.heap.size w W) => HW.out 0 1 b W hW r0 (by omega) (by omega) (by omega)
    have W2 := fun (W : World) (hW : Below w.heap.size w W) => HW.out 0 1 (b + 1) W hW r0 (by omega) (by omega) (by omega)
    have W3 := fun (W : World) (hW : Below w.heap.size w W) => HW.out 1 1 b W hW (by decide +kernel) (by omega) (by omega) (by omega)
    generalize shareI b * 0 / 1 = x at *
    generalize shareI (b + 1) * 0 / 1 = y at *
    generalize shareI b * 1 / 1 = u at *
    have HW1 := Lib.hid W1; have HW2 := Lib.hid W2; have HW3 := Lib.hid W3
    clear W1 W2 W3 r0
    go_wp2_with fail
    refine (HW1.out _ (hb2.alloc z2 _)).mono ?_
    rintro e w3 ⟨rfl, hb3⟩
    have A3 := (Cells2.new w2 0 1 28).below hb3
    obtain ⟨a0', a1', a2', a3', a4'⟩ := A3
    have A3 : Hid (Cells2 w2.heap.size 0 1 w3) := Lib.hid ⟨a0', a1', a2', a3', a4'⟩
    have HB3 := Lib.hid ((hb2.alloc z2 _).trans (hb3.mono (by simp; omega)))
    have z3 := HB3.out.size
    go_wp2_with fail
    refine (HW2.out _ HB3.out).mono ?_
    rintro e w4 ⟨rfl, hb4⟩
    have HB4 := Lib.hid (HB3.out.trans (hb4.mono z3))
    have z4 := HB4.out.size
    go_wp2_with fail
    refine (HW3.out _ HB4.out).mono ?_
    rintro e w5 ⟨rfl, hb5⟩
    have HB5 := Lib.hid (HB4.out.trans (hb5.mono z4))
    have z5 := HB5.out.size
    go_wp2_with fail
    refine (topics2_any HA.out _).mono ?_
    rintro e w6 ⟨rfl, hb6⟩
    have HB6 := Lib.hid (HB5.out.trans (hb6.mono z5))
    have d1 : decide ((0 : Int) ≤ x) = true := by simpa using t0
    have d2 : decide (x ≤ y) = true := by simpa using t1
    have d3 : decide (y ≤ 1000000) = true := by simpa using t2
    have d4 : decide (x ≤ u) = true := by simpa using t3
    go_wp2_with fail
    go_ret
    exact ⟨rfl, HB6.out⟩
  · have r0 : right 1 4 = true := by decide +kernel
    obtain ⟨t0, t1, t2, t3⟩ := three_worths 1 4 b (by omega) (by omega) (by omega) b1 b3
    have W1 := fun (W : World) (hW : Below w.heap.size w W) => HW.out 1 4 b W hW r0 (by omega) (by omega) (by omega)
    have W2 := fun (W : World) (hW : Below w.heap.size w W) => HW.out 1 4 (b + 1) W hW r0 (by omega) (by omega) (by omega)
    have W3 := fun (W : World) (hW : Below w.heap.size w W) => HW.out 1 1 b W hW (by decide +kernel) (by omega) (by omega) (by omega)
    generalize shareI b * 1 / 4 = x at *
    generalize shareI (b + 1) * 1 / 4 = y at *
    generalize shareI b * 1 / 1 = u at *
    have HW1 := Lib.hid W1; have HW2 := Lib.hid W2; have HW3 := Lib.hid W3
    clear W1 W2 W3 r0
    go_wp2_with fail
    refine (HW1.out _ (hb2.alloc z2 _)).mono ?_
    rintro e w3 ⟨rfl, hb3⟩
    have A3 := (Cells2.new w2 1 4 28).below hb3
    obtain ⟨a0', a1', a2', a3', a4'⟩ := A3
    have A3 : Hid (Cells2 w2.heap.size 1 4 w3) := Lib.hid ⟨a0', a1', a2', a3', a4'⟩
    have HB3 := Lib.hid ((hb2.alloc z2 _).trans (hb3.mono (by simp; omega)))
    have z3 := HB3.out.size
    go_wp2_with fail
    refine (HW2.out _ HB3.out).mono ?_
    rintro e w4 ⟨rfl, hb4⟩
    have HB4 := Lib.hid (HB3.out.trans (hb4.mono z3))
    have z4 := HB4.out.size
    go_wp2_with fail
    refine (HW3.out _ HB4.out).mono ?_
    rintro e w5 ⟨rfl, hb5⟩
    have HB5 := Lib.hid (HB4.out.trans (hb5.mono z4))
    have z5 := HB5.out.size
    go_wp2_with fail
    refine (topics2_any HA.out _).mono ?_
    rintro e w6 ⟨rfl, hb6⟩
    have HB6 := Lib.hid (HB5.out.trans (hb6.mono z5))
    have d1 : decide ((0 : Int) ≤ x) = true := by simpa using t0
    have d2 : decide (x ≤ y) = true := by simpa using t1
    have d3 : decide (y ≤ 1000000) = true := by simpa using t2
    have d4 : decide (x ≤ u) = true := by simpa using t3
    go_wp2_with fail
    go_ret
    exact ⟨rfl, HB6.out⟩
  · have r0 : right 1 2 = true := by decide +kernel
    obtain ⟨t0, t1, t2, t3⟩ := three_worths 1 2 b (by omega) (by omega) (by omega) b1 b3
    have W1 := fun (W : World) (hW : Below w.heap.size w W) => HW.out 1 2 b W hW r0 (by omega) (by omega) (by omega)
    have W2 := fun (W : World) (hW : Below w.heap.size w W) => HW.out 1 2 (b + 1) W hW r0 (by omega) (by omega) (by omega)
    have W3 := fun (W : World) (hW : Below w.heap.size w W) => HW.out 1 1 b W hW (by decide +kernel) (by omega) (by omega) (by omega)
    generalize shareI b * 1 / 2 = x at *
    generalize shareI (b + 1) * 1 / 2 = y at *
    generalize shareI b * 1 / 1 = u at *
    have HW1 := Lib.hid W1; have HW2 := Lib.hid W2; have HW3 := Lib.hid W3
    clear W1 W2 W3 r0
    go_wp2_with fail
    refine (HW1.out _ (hb2.alloc z2 _)).mono ?_
    rintro e w3 ⟨rfl, hb3⟩
    have A3 := (Cells2.new w2 1 2 28).below hb3
    obtain ⟨a0', a1', a2', a3', a4'⟩ := A3
    have A3 : Hid (Cells2 w2.heap.size 1 2 w3) := Lib.hid ⟨a0', a1', a2', a3', a4'⟩
    have HB3 := Lib.hid ((hb2.alloc z2 _).trans (hb3.mono (by simp; omega)))
    have z3 := HB3.out.size
    go_wp2_with fail
    refine (HW2.out _ HB3.out).mono ?_
    rintro e w4 ⟨rfl, hb4⟩
    have HB4 := Lib.hid (HB3.out.trans (hb4.mono z3))
    have z4 := HB4.out.size
    go_wp2_with fail
    refine (HW3.out _ HB4.out).mono ?_
    rintro e w5 ⟨rfl, hb5⟩
    have HB5 := Lib.hid (HB4.out.trans (hb5.mono z4))
    have z5 := HB5.out.size
    go_wp2_with fail
    refine (topics2_any HA.out _).mono ?_
    rintro e w6 ⟨rfl, hb6⟩
    have HB6 := Lib.hid (HB5.out.trans (hb6.mono z5))
    have d1 : decide ((0 : Int) ≤ x) = true := by simpa using t0
    have d2 : decide (x ≤ y) = true := by simpa using t1
    have d3 : decide (y ≤ 1000000) = true := by simpa using t2
    have d4 : decide (x ≤ u) = true := by simpa using t3
    go_wp2_with fail
    go_ret
    exact ⟨rfl, HB6.out⟩
  · have r0 : right 3 4 = true := by decide +kernel
    obtain ⟨t0, t1, t2, t3⟩ := three_worths 3 4 b (by omega) (by omega) (by omega) b1 b3
    have W1 := fun (W : World) (hW : Below w.heap.size w W) => HW.out 3 4 b W hW r0 (by omega) (by omega) (by omega)
    have W2 := fun (W : World) (hW : Below w.heap.size w W) => HW.out 3 4 (b + 1) W hW r0 (by omega) (by omega) (by omega)
    have W3 := fun (W : World) (hW : Below w.heap.size w W) => HW.out 1 1 b W hW (by decide +kernel) (by omega) (by omega) (by omega)
    generalize shareI b * 3 / 4 = x at *
    generalize shareI (b + 1) * 3 / 4 = y at *
    generalize shareI b * 1 / 1 = u at *
    have HW1 := Lib.hid W1; have HW2 := Lib.hid W2; have HW3 := Lib.hid W3
    clear W1 W2 W3 r0
    go_wp2_with fail
    refine (HW1.out _ (hb2.alloc z2 _)).mono ?_
    rintro e w3 ⟨rfl, hb3⟩
    have A3 := (Cells2.new w2 3 4 28).below hb3
    obtain ⟨a0', a1', a2', a3', a4'⟩ := A3
    have A3 : Hid (Cells2 w2.heap.size 3 4 w3) := Lib.hid ⟨a0', a1', a2', a3', a4'⟩
    have HB3 := Lib.hid ((hb2.alloc z2 _).trans (hb3.mono (by simp; omega)))
    have z3 := HB3.out.size
    go_wp2_with fail
    refine (HW2.out _ HB3.out).mono ?_
    rintro e w4 ⟨rfl, hb4⟩
    have HB4 := Lib.hid (HB3.out.trans (hb4.mono z3))
    have z4 := HB4.out.size
    go_wp2_with fail
    refine (HW3.out _ HB4.out).mono ?_
    rintro e w5 ⟨rfl, hb5⟩
    have HB5 := Lib.hid (HB4.out.trans (hb5.mono z4))
    have z5 := HB5.out.size
    go_wp2_with fail
    refine (topics2_any HA.out _).mono ?_
    rintro e w6 ⟨rfl, hb6⟩
    have HB6 := Lib.hid (HB5.out.trans (hb6.mono z5))
    have d1 : decide ((0 : Int) ≤ x) = true := by simpa using t0
    have d2 : decide (x ≤ y) = true := by simpa using t1
    have d3 : decide (y ≤ 1000000) = true := by simpa using t2
    have d4 : decide (x ≤ u) = true := by simpa using t3
    go_wp2_with fail
    go_ret
    exact ⟨rfl, HB6.out⟩
  · have r0 : right 1 1 = true := by decide +kernel
    obtain ⟨t0, t1, t2, t3⟩ := three_worths 1 1 b (by omega) (by omega) (by omega) b1 b3
    have W1 := fun (W : World) (hW : Below w.heap.size w W) => HW.out 1 1 b W hW r0 (by omega) (by omega) (by omega)
    have W2 := fun (W : World) (hW : Below w.heap.size w W) => HW.out 1 1 (b + 1) W hW r0 (by omega) (by omega) (by omega)
    have W3 := fun (W : World) (hW : Below w.heap.size w W) => HW.out 1 1 b W hW (by decide +kernel) (by omega) (by omega) (by omega)
    generalize shareI b * 1 / 1 = x at *
    generalize shareI (b + 1) * 1 / 1 = y at *
    have HW1 := Lib.hid W1; have HW2 := Lib.hid W2; have HW3 := Lib.hid W3
    clear W1 W2 W3 r0
    go_wp2_with fail
    refine (HW1.out _ (hb2.alloc z2 _)).mono ?_
    rintro e w3 ⟨rfl, hb3⟩
    have A3 := (Cells2.new w2 1 1 28).below hb3
    obtain ⟨a0', a1', a2', a3', a4'⟩ := A3
    have A3 : Hid (Cells2 w2.heap.size 1 1 w3) := Lib.hid ⟨a0', a1', a2', a3', a4'⟩
    have HB3 := Lib.hid ((hb2.alloc z2 _).trans (hb3.mono (by simp; omega)))
    have z3 := HB3.out.size
    go_wp2_with fail
    refine (HW2.out _ HB3.out).mono ?_
    rintro e w4 ⟨rfl, hb4⟩
    have HB4 := Lib.hid (HB3.out.trans (hb4.mono z3))
    have z4 := HB4.out.size
    go_wp2_with fail
    refine (HW3.out _ HB4.out).mono ?_
    rintro e w5 ⟨rfl, hb5⟩
    have HB5 := Lib.hid (HB4.out.trans (hb5.mono z4))
    have z5 := HB5.out.size
    go_wp2_with fail
    refine (topics2_any HA.out _).mono ?_
    rintro e w6 ⟨rfl, hb6⟩
    have HB6 := Lib.hid (HB5.out.trans (hb6.mono z5))
    have d1 : decide ((0 : Int) ≤ x) = true := by simpa using t0
    have d2 : decide (x ≤ y) = true := by simpa using t1
    have d3 : decide (y ≤ 1000000) = true := by simpa using t2
    have d4 : decide (x ≤ x) = true := by simp
    go_wp2_with fail
    go_ret
    exact ⟨rfl, HB6.out⟩
end Go.Proofs.YtdbakhhjiijcnaaDoor.Frac
