/-
  THE CONTRACT OF THE REFERENCE'S 'part': a fraction in lowest terms, of a number not below 0 and one above 0.
-/
import Derived.Test.YtnjigaklkalebaaDoorStream
import Derived.Handy
import Derived.RegionTactic
import Derived.ChangeAlike
namespace Go.Proofs.YtnjigaklkalebaaDoor.Frac
open Go.ChangeShapes Go.WideShapes Go.ChangeAt Go.RowKit
set_option linter.unusedVariables false

theorem gcd_step (x y : Nat) (h : y ≠ 0) : Nat.gcd y (x % y) = Nat.gcd x y := by
  rw [Nat.gcd_comm x y, Nat.gcd_rec y x, Nat.gcd_comm]

theorem quo_wrap (n g : Nat) (hg : 0 < g) (hn : n ≤ 4611686018427387904) : wrap64 ((n : Int) / (g : Int)) = ((n / g : Nat) : Int) := by
  have h : n / g ≤ n := Nat.div_le_self _ _
  have e : (n : Int) / (g : Int) = ((n / g : Nat) : Int) := rfl
  rw [e]
  exact IntWalk.wrap64_in _ ⟨Int.le_trans (by decide) (Int.natCast_nonneg _), by omega⟩
theorem part_end (n d g : Nat) (hg : 0 < g) (hn : n ≤ 4611686018427387904) (hd : d ≤ 4611686018427387904) :
    Ending.returned (Value.agg #[.int .i64 (wrap64 ((n : Int) / (g : Int))), .int .i64 (wrap64 ((d : Int) / (g : Int)))]) = .returned (.agg #[.int .i64 ((n / g : Nat) : Int), .int .i64 ((d / g : Nat) : Int)]) := by
  rw [quo_wrap n g hg hn, quo_wrap d g hg hd]

set_option maxHeartbeats 1000000 in
theorem part_any (n d : Nat) (w : World) (hn : n ≤ 4611686018427387904) (hd : 1 ≤ d) (hd2 : d ≤ 4611686018427387904) :
    Calls Tryd.prog 41 #[.int .i64 n, .int .i64 d] w fun e w' => e = .returned (.agg #[.int .i64 ((n / Nat.gcd n d : Nat) : Int), .int .i64 ((d / Nat.gcd n d : Nat) : Int)]) ∧ Below w.heap.size w w' := by
  have hg0 : 0 < Nat.gcd n d := Nat.gcd_pos_of_pos_right n hd
  have hdz : ((d : Int) == 0) = false := by simp; omega
  have hmax : max (n : Int) (-(n : Int)) = n := by omega
  go_enter Tryd.func41, Tryd.ntmps41
  go_wp2
  go_loopw [5, 6] (fun a b wr => ∃ x y m : Nat, a = .int .i64 x ∧ b = .int .i64 y ∧ Hid (wr = (w.alloc (.cells #[.int .i64 0, .int .i64 0] 53)).drewN m) ∧ Hid (Nat.gcd x y = Nat.gcd n d) ∧ x ≤ 4611686018427387904 ∧ y ≤ 4611686018427387904) (fun _ b _ => (intOf b).toNat)
  case atStart => exact ⟨n, d, 0, rfl, rfl, Lib.hid rfl, Lib.hid rfl, hn, hd2⟩
  case round =>
    obtain ⟨x, y, m, rfl, rfl, HW, HG, hx, hy⟩ := hrel
    obtain rfl := HW.out
    by_cases hy0 : y = 0
    · subst hy0
      obtain rfl : x = Nat.gcd n d := by have := HG.out; rwa [Nat.gcd_zero_right] at this
      have hgp : (1 : Int) ≤ (Nat.gcd n d : Int) := by omega
      have hgz : ((Nat.gcd n d : Int) == 0) = false := by simp; omega
      go_wp2
      go_region
      go_wp2
      go_returns
      refine ⟨part_end n d _ hg0 (by omega) (by omega), ?_⟩
      repeat' (first | (with_reducible exact Below.refl _ _) | (with_reducible refine Below.setCell ?_ ?_ _) | (with_reducible refine Stm.Below.drewN ?_ _) | (with_reducible refine Below.drew ?_) | (with_reducible refine Below.alloc ?_ ?_ _) | go_size)
    · have hyb : ((y : Int) != 0) = true := by simp; omega
      have hyp : (1 : Int) ≤ y := by omega
      have hm1 : x % y < y := Nat.mod_lt _ (by omega)
      have HG2 : Hid (Nat.gcd y (x % y) = Nat.gcd n d) := Lib.hid (by rw [gcd_step x y hy0]; exact HG.out)
      go_wp2
      go_quiet (fail)
      go_wp2
      go_roundw
      case rel => exact ⟨y, x % y, _, rfl, by go_num, Lib.hid (by rw [World.drewN_drewN]), HG2, hy, by omega⟩
      case measure => simp [intOf]; omega
end Go.Proofs.YtnjigaklkalebaaDoor.Frac
