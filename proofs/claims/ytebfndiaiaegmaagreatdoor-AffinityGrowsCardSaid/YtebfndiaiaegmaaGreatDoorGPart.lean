/-
  THE CONTRACT OF THE REFERENCE'S 'part': a fraction in lowest terms, of a number not below 0 and one above 0.
-/
import Derived.Test.YtebfndiaiaegmaaGreatDoorStream
import Derived.Handy
import Derived.RegionTactic
import Derived.ChangeAlike
import Derived.Deep.RegionHeld3
namespace Go.Proofs.YtebfndiaiaegmaaGreatDoor.Frac
open Go.ChangeShapes Go.WideShapes Go.ChangeAt Go.RowKit
set_option linter.unusedVariables false

theorem gcd_step (x y : Nat) (h : y ≠ 0) : Nat.gcd y (x % y) = Nat.gcd x y := by
  rw [Nat.gcd_comm x y, Nat.gcd_rec y x, Nat.gcd_comm]

theorem quo_wrap (n g : Nat) (hg : 0 < g) (hn : n ≤ 4611686018427387904) : wrap64 ((n : Int) / (g : Int)) = ((n / g : Nat) : Int) := by
  have h : n / g ≤ n := Nat.div_le_self _ _
  have e : (n : Int) / (g : Int) = ((n / g : Nat) : Int) := rfl
  rw [e]
  exact IntWalk.wrap64_in _ ⟨Int.le_trans (by decide) (Int.natCast_nonneg _), by omega⟩
theorem part_end (n d g : Nat) (hg : 0 < g) (hn : n ≤ 4611686018427387904) (hd : d ≤ 4611686018427387904) :
    Ending.returned (Value.agg #[.int .i64 (wrap64 ((n : Int) / (g : Int))), .int .i64 (wrap64 ((d : Int) / (g : Int)))]) = .returned (.agg #[.int .i64 ((n / g : Nat) : Int), .int .i64 ((d / g : Nat) : Int)]) := by
  rw [quo_wrap n g hg hn, quo_wrap d g hg hd]

end Go.Proofs.YtebfndiaiaegmaaGreatDoor.Frac

/-
  THE CONTRACT OF THE REFERENCE'S 'FractionRight': whether a fraction is in lowest terms, and of a small denominator and numerator.
-/
namespace Go.Proofs.YtebfndiaiaegmaaGreatDoor.Frac
open Go.ChangeShapes Go.WideShapes Go.ChangeAt Go.RowKit
set_option linter.unusedVariables false

/-- A fraction that can be added and compared. -/
def right (n d : Int) : Bool := decide (1 ≤ d ∧ d ≤ 1000000000 ∧ 0 ≤ n ∧ n ≤ 1000000000 ∧ Nat.gcd n.toNat d.toNat = 1)

theorem right_no (n d : Int) (h : ¬ (1 ≤ d ∧ d ≤ 1000000000 ∧ 0 ≤ n ∧ n ≤ 1000000000)) : right n d = false := by
  unfold right; simp only [decide_eq_false_iff_not]; intro hh; exact h ⟨hh.1, hh.2.1, hh.2.2.1, hh.2.2.2.1⟩

theorem ret_bool {a b : Bool} (h : a = b) : Ending.returned (.bool a) = .returned (.bool b) := by rw [h]

theorem bcell {W w1 : World} (hb : Below W.heap.size W w1) : (∀ b o, b < W.heap.size → w1.cell? ⟨b, o, none⟩ = W.cell? ⟨b, o, none⟩) ∧ (∀ b o, b < W.heap.size → w1.frozen? ⟨b, o, none⟩ = W.frozen? ⟨b, o, none⟩) :=
  ⟨fun b o h => hb.cell (p := ⟨b, o, none⟩) h, fun b o h => hb.frozen (p := ⟨b, o, none⟩) h⟩

end Go.Proofs.YtebfndiaiaegmaaGreatDoor.Frac

/-
  THE CONTRACTS OF THE REFERENCE'S 'AddOf' and 'ComparedOf'.
-/
namespace Go.Proofs.YtebfndiaiaegmaaGreatDoor.Frac
open Go.ChangeShapes Go.WideShapes Go.ChangeAt Go.RowKit
set_option linter.unusedVariables false

theorem right_out {n d : Int} (h : right n d = true) : ∃ a b : Nat, n = a ∧ d = b ∧ 1 ≤ b ∧ b ≤ 1000000000 ∧ a ≤ 1000000000 := by
  unfold right at h
  have h := of_decide_eq_true h
  exact ⟨n.toNat, d.toNat, by omega, by omega, by omega, by omega, by omega⟩

/-- What AddOf hands back: numerator, denominator, error. -/
def addR (n1 d1 n2 d2 : Int) : Int × Int × Int :=
  if right n1 d1 = true ∧ right n2 d2 = true then
    let num := (n1 * d2 + n2 * d1).toNat
    let den := (d1 * d2).toNat
    let g := Nat.gcd num den
    if 1000000000 < den / g ∨ 1000000000 < num / g then (0, 0, 2) else (((num / g : Nat) : Int), ((den / g : Nat) : Int), 0)
  else (0, 0, 3)

theorem mul_le_big {a b : Nat} (ha : a ≤ 1000000000) (hb : b ≤ 1000000000) : a * b ≤ 1000000000000000000 := Nat.mul_le_mul ha hb

/-- The three numbers as one returned value. -/
def fracRes (r : Int × Int × Int) : Value := .tuple #[.agg #[.int .i64 r.1, .int .i64 r.2.1], .int .i64 r.2.2]

def cmpI (x y : Int) : Int := if x < y then -1 else if y < x then 1 else 0

end Go.Proofs.YtebfndiaiaegmaaGreatDoor.Frac

/-
  THE CONTRACTS OF THE PROGRAM'S PACKAGE exact: divisor, Lowest, Compare.
-/
namespace Go.Proofs.YtebfndiaiaegmaaGreatDoor.Frac
open Go.ChangeShapes Go.WideShapes Go.ChangeAt Go.RowKit
set_option linter.unusedVariables false

set_option maxHeartbeats 1000000 in
theorem divisor_any (n d : Nat) (w : World) (hn : n ≤ 4611686018427387904) (hd : d ≤ 4611686018427387904) :
    Calls Tryz.prog 46 #[.int .i64 n, .int .i64 d] w fun e w' => e = .returned (.int .i64 (Nat.gcd n d)) ∧ ∃ m, w' = w.drewN m := by
  go_enter Tryz.func46, Tryz.ntmps46
  go_wp2
  go_loopw [0, 1] (fun a b wr => ∃ x y m : Nat, a = .int .i64 x ∧ b = .int .i64 y ∧ Hid (wr = w.drewN m) ∧ Hid (Nat.gcd x y = Nat.gcd n d) ∧ x ≤ 4611686018427387904 ∧ y ≤ 4611686018427387904) (fun _ b _ => (intOf b).toNat)
  case atStart => exact ⟨n, d, 0, rfl, rfl, Lib.hid rfl, Lib.hid rfl, hn, hd⟩
  case round =>
    obtain ⟨x, y, m, rfl, rfl, HW, HG, hx, hy⟩ := hrel
    obtain rfl := HW.out
    by_cases hy0 : y = 0
    · subst hy0
      have HE : Hid (x = Nat.gcd n d) := Lib.hid (by have := HG.out; rwa [Nat.gcd_zero_right] at this)
      go_wp2
      go_ret
      exact ⟨by rw [HE.out]; rfl, m, rfl⟩
    · have hyp : (1 : Int) ≤ y := by omega
      have hyb : ((y : Int) == 0) = false := by simp; omega
      have hyd : decide ((y : Int) > 0) = true := by simp; omega
      have hm1 : x % y < y := Nat.mod_lt _ (by omega)
      have HG2 : Hid (Nat.gcd y (x % y) = Nat.gcd n d) := Lib.hid (by rw [gcd_step x y hy0]; exact HG.out)
      go_wp2
      go_quiet (fail)
      go_wp2
      go_roundw
      case rel => exact ⟨y, x % y, _, rfl, by go_num, Lib.hid (by rw [World.drewN_drewN]), HG2, hy, by omega⟩
      case measure => simp [intOf]; omega

set_option maxHeartbeats 1000000 in
theorem low_any (n d : Nat) (w : World) (hn : n ≤ 4611686018427387904) (hd : 1 ≤ d) (hd2 : d ≤ 4611686018427387904) :
    Calls Tryz.prog 32 #[.int .i64 n, .int .i64 d] w fun e w' => e = .returned (.agg #[.int .i64 ((n / Nat.gcd n d : Nat) : Int), .int .i64 ((d / Nat.gcd n d : Nat) : Int)]) ∧ Below w.heap.size w w' := by
  have hg0 : 0 < Nat.gcd n d := Nat.gcd_pos_of_pos_right n hd
  have hgp : (1 : Int) ≤ (Nat.gcd n d : Int) := by omega
  have hgz : ((Nat.gcd n d : Int) == 0) = false := by simp; omega
  go_enter Tryz.func32, Tryz.ntmps32
  go_wp2_with fail
  refine (divisor_any n d _ hn hd2).mono ?_
  rintro e w1 ⟨rfl, m, rfl⟩
  go_wp2_with fail
  go_region
  go_wp2
  go_returns
  refine ⟨part_end n d _ hg0 (by omega) (by omega), ?_⟩
  repeat' (first | (with_reducible exact Below.refl _ _) | (with_reducible refine Below.setCell ?_ ?_ _) | (with_reducible refine Stm.Below.drewN ?_ _) | (with_reducible refine Below.drew ?_) | (with_reducible refine Below.alloc ?_ ?_ _) | go_size)

theorem low_as (n d p q : Nat) (w : World) (hn : n ≤ 4611686018427387904) (hd : 1 ≤ d) (hd2 : d ≤ 4611686018427387904) (hp : Hid (n / Nat.gcd n d = p)) (hq : Hid (d / Nat.gcd n d = q)) :
    Calls Tryz.prog 32 #[.int .i64 n, .int .i64 d] w fun e w' => e = .returned (.agg #[.int .i64 p, .int .i64 q]) ∧ Below w.heap.size w w' := by
  rw [← hp.out, ← hq.out]; exact low_any n d w hn hd hd2

end Go.Proofs.YtebfndiaiaegmaaGreatDoor.Frac
