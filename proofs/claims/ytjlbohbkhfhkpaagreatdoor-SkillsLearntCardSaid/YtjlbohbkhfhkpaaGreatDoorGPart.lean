/-
  THE CONTRACT OF THE REFERENCE'S 'part': a fraction in lowest terms, of a number not below 0 and one above 0.
-/
import Derived.Test.YtjlbohbkhfhkpaaGreatDoorStream
import Derived.Handy
import Derived.RegionTactic
import Derived.ChangeAlike
import Derived.Deep.RegionHeld3
namespace Go.Proofs.YtjlbohbkhfhkpaaGreatDoor.Frac
open Go.ChangeShapes Go.WideShapes Go.ChangeAt Go.RowKit
set_option linter.unusedVariables false

theorem gcd_step (x y : Nat) (h : y ≠ 0) : Nat.gcd y (x % y) = Nat.gcd x y := by
  rw [Nat.gcd_comm x y, Nat.gcd_rec y x, Nat.gcd_comm]

theorem quo_wrap (n g : Nat) (hg : 0 < g) (hn : n ≤ 4611686018427387904) : wrap64 ((n : Int) / (g : Int)) = ((n / g : Nat) : Int) := by
  have h : n / g ≤ n := Nat.div_le_self _ _
  have e : (n : Int) / (g : Int) = ((n / g : Nat) : Int) := rfl
  rw [e]
  exact IntWalk.wrap64_in _ ⟨Int.le_trans (by decide) (Int.natCast_nonneg _), by omega⟩
theorem part_end (n d g : Nat) (hg : 0 < g) (hn : n ≤ 4611686018427387904) (hd : d ≤ 4611686018427387904) :
    Ending.returned (Value.agg #[.int .i64 (wrap64 ((n : Int) / (g : Int))), .int .i64 (wrap64 ((d : Int) / (g : Int)))]) = .returned (.agg #[.int .i64 ((n / g : Nat) : Int), .int .i64 ((d / g : Nat) : Int)]) := by
  rw [quo_wrap n g hg hn, quo_wrap d g hg hd]

set_option maxHeartbeats 1000000 in
theorem part_any (n d : Nat) (w : World) (hn : n ≤ 4611686018427387904) (hd : 1 ≤ d) (hd2 : d ≤ 4611686018427387904) :
    Calls Tryz.prog 66 #[.int .i64 n, .int .i64 d] w fun e w' => e = .returned (.agg #[.int .i64 ((n / Nat.gcd n d : Nat) : Int), .int .i64 ((d / Nat.gcd n d : Nat) : Int)]) ∧ Below w.heap.size w w' := by
  have hg0 : 0 < Nat.gcd n d := Nat.gcd_pos_of_pos_right n hd
  have hdz : ((d : Int) == 0) = false := by simp; omega
  have hmax : max (n : Int) (-(n : Int)) = n := by omega
  go_enter Tryz.func66, Tryz.ntmps66
  go_wp2
  go_loopw [5, 6] (fun a b wr => ∃ x y m : Nat, a = .int .i64 x ∧ b = .int .i64 y ∧ Hid (wr = (w.alloc (.cells #[.int .i64 0, .int .i64 0] 75)).drewN m) ∧ Hid (Nat.gcd x y = Nat.gcd n d) ∧ x ≤ 4611686018427387904 ∧ y ≤ 4611686018427387904) (fun _ b _ => (intOf b).toNat)
  case atStart => exact ⟨n, d, 0, rfl, rfl, Lib.hid rfl, Lib.hid rfl, hn, hd2⟩
  case round =>
    obtain ⟨x, y, m, rfl, rfl, HW, HG, hx, hy⟩ := hrel
    obtain rfl := HW.out
    by_cases hy0 : y = 0
    · subst hy0
      obtain rfl : x = Nat.gcd n d := by have := HG.out; rwa [Nat.gcd_zero_right] at this
      have hgp : (1 : Int) ≤ (Nat.gcd n d : Int) := by omega
      have hgz : ((Nat.gcd n d : Int) == 0) = false := by simp; omega
      go_wp2
      go_region
      go_wp2
      go_returns
      refine ⟨part_end n d _ hg0 (by omega) (by omega), ?_⟩
      repeat' (first | (with_reducible exact Below.refl _ _) | (with_reducible refine Below.setCell ?_ ?_ _) | (with_reducible refine Stm.Below.drewN ?_ _) | (with_reducible refine Below.drew ?_) | (with_reducible refine Below.alloc ?_ ?_ _) | go_size)
    · have hyb : ((y : Int) != 0) = true := by simp; omega
      have hyp : (1 : Int) ≤ y := by omega
      have hm1 : x % y < y := Nat.mod_lt _ (by omega)
      have HG2 : Hid (Nat.gcd y (x % y) = Nat.gcd n d) := Lib.hid (by rw [gcd_step x y hy0]; exact HG.out)
      go_wp2
      go_quiet (fail)
      go_wp2
      go_roundw
      case rel => exact ⟨y, x % y, _, rfl, by go_num, Lib.hid (by rw [World.drewN_drewN]), HG2, hy, by omega⟩
      case measure => simp [intOf]; omega
end Go.Proofs.YtjlbohbkhfhkpaaGreatDoor.Frac

/-
  THE CONTRACT OF THE REFERENCE'S 'FractionRight': whether a fraction is in lowest terms, and of a small denominator and numerator.
-/
namespace Go.Proofs.YtjlbohbkhfhkpaaGreatDoor.Frac
open Go.ChangeShapes Go.WideShapes Go.ChangeAt Go.RowKit
set_option linter.unusedVariables false

/-- A fraction that can be added and compared. -/
def right (n d : Int) : Bool := decide (1 ≤ d ∧ d ≤ 1000000000 ∧ 0 ≤ n ∧ n ≤ 1000000000 ∧ Nat.gcd n.toNat d.toNat = 1)

theorem right_no (n d : Int) (h : ¬ (1 ≤ d ∧ d ≤ 1000000000 ∧ 0 ≤ n ∧ n ≤ 1000000000)) : right n d = false := by
  unfold right; simp only [decide_eq_false_iff_not]; intro hh; exact h ⟨hh.1, hh.2.1, hh.2.2.1, hh.2.2.2.1⟩

theorem ret_bool {a b : Bool} (h : a = b) : Ending.returned (.bool a) = .returned (.bool b) := by rw [h]

theorem bcell {W w1 : World} (hb : Below W.heap.size W w1) : (∀ b o, b < W.heap.size → w1.cell? ⟨b, o, none⟩ = W.cell? ⟨b, o, none⟩) ∧ (∀ b o, b < W.heap.size → w1.frozen? ⟨b, o, none⟩ = W.frozen? ⟨b, o, none⟩) :=
  ⟨fun b o h => hb.cell (p := ⟨b, o, none⟩) h, fun b o h => hb.frozen (p := ⟨b, o, none⟩) h⟩

theorem part_as (n d p q : Nat) (w : World) (hn : n ≤ 4611686018427387904) (hd : 1 ≤ d) (hd2 : d ≤ 4611686018427387904) (hp : Hid (n / Nat.gcd n d = p)) (hq : Hid (d / Nat.gcd n d = q)) :
    Calls Tryz.prog 66 #[.int .i64 n, .int .i64 d] w fun e w' => e = .returned (.agg #[.int .i64 p, .int .i64 q]) ∧ Below w.heap.size w w' := by
  rw [← hp.out, ← hq.out]; exact part_any n d w hn hd hd2

end Go.Proofs.YtjlbohbkhfhkpaaGreatDoor.Frac

/-
  THE CONTRACTS OF THE REFERENCE'S 'AddOf' and 'ComparedOf'.
-/
namespace Go.Proofs.YtjlbohbkhfhkpaaGreatDoor.Frac
open Go.ChangeShapes Go.WideShapes Go.ChangeAt Go.RowKit
set_option linter.unusedVariables false

theorem right_out {n d : Int} (h : right n d = true) : ∃ a b : Nat, n = a ∧ d = b ∧ 1 ≤ b ∧ b ≤ 1000000000 ∧ a ≤ 1000000000 := by
  unfold right at h
  have h := of_decide_eq_true h
  exact ⟨n.toNat, d.toNat, by omega, by omega, by omega, by omega, by omega⟩

/-- What AddOf hands back: numerator, denominator, error. -/
def addR (n1 d1 n2 d2 : Int) : Int × Int × Int :=
  if right n1 d1 = true ∧ right n2 d2 = true then
    let num := (n1 * d2 + n2 * d1).toNat
    let den := (d1 * d2).toNat
    let g := Nat.gcd num den
    if 1000000000 < den / g ∨ 1000000000 < num / g then (0, 0, 2) else (((num / g : Nat) : Int), ((den / g : Nat) : Int), 0)
  else (0, 0, 3)

theorem mul_le_big {a b : Nat} (ha : a ≤ 1000000000) (hb : b ≤ 1000000000) : a * b ≤ 1000000000000000000 := Nat.mul_le_mul ha hb

/-- The three numbers as one returned value. -/
def fracRes (r : Int × Int × Int) : Value := .tuple #[.agg #[.int .i64 r.1, .int .i64 r.2.1], .int .i64 r.2.2]

theorem cmp_nan (x : Int) (w : World) : Calls Tryz.prog 105 #[.int .i64 x] w fun e w' => e = .returned (.bool false) ∧ w' = w := by
  go_enter Tryz.func105, Tryz.ntmps105
  go_wp2
  go_ret
  exact ⟨rfl, rfl⟩

def cmpI (x y : Int) : Int := if x < y then -1 else if y < x then 1 else 0

set_option maxHeartbeats 400000 in
theorem cmp_any (x y : Int) (w : World) : Calls Tryz.prog 85 #[.int .i64 x, .int .i64 y] w fun e w' => e = .returned (.int .i64 (cmpI x y)) ∧ w' = w := by
  by_cases h : x < y
  · have H := Lib.hid (show cmpI x y = -1 from by unfold cmpI; rw [if_pos h])
    go_enter Tryz.func85, Tryz.ntmps85
    go_wp2_with (go_at_call 105; refine (cmp_nan _ _).mono ?_; rintro e w' ⟨rfl, rfl⟩)
    go_ret
    exact ⟨Stm.ret_int H.out.symm, rfl⟩
  · by_cases h2 : y < x
    · have H := Lib.hid (show cmpI x y = 1 from by unfold cmpI; rw [if_neg h, if_pos h2])
      go_enter Tryz.func85, Tryz.ntmps85
      go_wp2_with (go_at_call 105; refine (cmp_nan _ _).mono ?_; rintro e w' ⟨rfl, rfl⟩)
      go_ret
      exact ⟨Stm.ret_int H.out.symm, rfl⟩
    · have H := Lib.hid (show cmpI x y = 0 from by unfold cmpI; rw [if_neg h, if_neg h2])
      go_enter Tryz.func85, Tryz.ntmps85
      go_wp2_with (go_at_call 105; refine (cmp_nan _ _).mono ?_; rintro e w' ⟨rfl, rfl⟩)
      go_ret
      exact ⟨Stm.ret_int H.out.symm, rfl⟩

set_option maxHeartbeats 400000 in
theorem cmpf_any (n1 d1 n2 d2 : Int) (w : World) (h1 : -4611686018427387904 ≤ n1 * d2) (h2 : n1 * d2 ≤ 4611686018427387904) (h3 : -4611686018427387904 ≤ n2 * d1) (h4 : n2 * d1 ≤ 4611686018427387904) :
    Calls Tryz.prog 67 #[.agg #[.int .i64 n1, .int .i64 d1], .agg #[.int .i64 n2, .int .i64 d2]] w fun e w' => e = .returned (.int .i64 (cmpI (n1 * d2) (n2 * d1))) ∧ Below w.heap.size w w' := by
  go_enter Tryz.func67, Tryz.ntmps67
  go_wp2_with (go_at_call 85; refine (cmp_any _ _ _).mono ?_; rintro e w' ⟨rfl, rfl⟩)
  go_ret
  exact ⟨rfl, by go_grown⟩

end Go.Proofs.YtjlbohbkhfhkpaaGreatDoor.Frac
