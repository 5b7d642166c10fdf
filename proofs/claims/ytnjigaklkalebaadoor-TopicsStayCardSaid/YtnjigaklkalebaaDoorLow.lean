/-
  THE CONTRACTS OF THE PROGRAM'S PACKAGE exact: divisor, Lowest, Compare.
-/
import Derived.Test.YtnjigaklkalebaaDoorAdd
namespace Go.Proofs.YtnjigaklkalebaaDoor.Frac
open Go.ChangeShapes Go.WideShapes Go.ChangeAt Go.RowKit
set_option linter.unusedVariables false

set_option maxHeartbeats 1000000 in
theorem divisor_any (n d : Nat) (w : World) (hn : n ≤ 4611686018427387904) (hd : d ≤ 4611686018427387904) :
    Calls Tryd.prog 45 #[.int .i64 n, .int .i64 d] w fun e w' => e = .returned (.int .i64 (Nat.gcd n d)) ∧ ∃ m, w' = w.drewN m := by
  go_enter Tryd.func45, Tryd.ntmps45
  go_wp2
  go_loopw [0, 1] (fun a b wr => ∃ x y m : Nat, a = .int .i64 x ∧ b = .int .i64 y ∧ Hid (wr = w.drewN m) ∧ Hid (Nat.gcd x y = Nat.gcd n d) ∧ x ≤ 4611686018427387904 ∧ y ≤ 4611686018427387904) (fun _ b _ => (intOf b).toNat)
  case atStart => exact ⟨n, d, 0, rfl, rfl, Lib.hid rfl, Lib.hid rfl, hn, hd⟩
  case round =>
    obtain ⟨x, y, m, rfl, rfl, HW, HG, hx, hy⟩ := hrel
    obtain rfl := HW.out
    by_cases hy0 : y = 0
    · subst hy0
      have HE : Hid (x = Nat.gcd n d) := Lib.hid (by have := HG.out; rwa [Nat.gcd_zero_right] at this)
      have hmx : max (x : Int) (-(x : Int)) = (x : Int) := by omega
      go_wp2
      all_goals
        go_ret
        exact ⟨by rw [← HE.out]; first | rfl | (congr 2; omega), m, rfl⟩
    · have hyp : (1 : Int) ≤ y := by omega
      have hyb : ((y : Int) == 0) = false := by simp; omega
      have hyd : ((y : Int) != 0) = true := by simp; omega
      have hm1 : x % y < y := Nat.mod_lt _ (by omega)
      have HG2 : Hid (Nat.gcd y (x % y) = Nat.gcd n d) := Lib.hid (by rw [gcd_step x y hy0]; exact HG.out)
      go_wp2
      go_quiet (fail)
      go_wp2
      go_roundw
      case rel => exact ⟨y, x % y, _, rfl, by go_num, Lib.hid (by rw [World.drewN_drewN]), HG2, hy, by omega⟩
      case measure => simp [intOf]; omega

set_option maxHeartbeats 1000000 in
theorem low_any (n d : Nat) (w : World) (hn : n ≤ 4611686018427387904) (hd : 1 ≤ d) (hd2 : d ≤ 4611686018427387904) :
    Calls Tryd.prog 34 #[.int .i64 n, .int .i64 d] w fun e w' => e = .returned (.agg #[.int .i64 ((n / Nat.gcd n d : Nat) : Int), .int .i64 ((d / Nat.gcd n d : Nat) : Int)]) ∧ Below w.heap.size w w' := by
  have hg0 : 0 < Nat.gcd n d := Nat.gcd_pos_of_pos_right n hd
  have hgp : (1 : Int) ≤ (Nat.gcd n d : Int) := by omega
  have hgz : ((Nat.gcd n d : Int) == 0) = false := by simp; omega
  go_enter Tryd.func34, Tryd.ntmps34
  go_wp2_with fail
  refine (divisor_any n d _ hn hd2).mono ?_
  rintro e w1 ⟨rfl, m, rfl⟩
  go_wp2_with fail
  go_region
  go_wp2
  go_returns
  refine ⟨part_end n d _ hg0 (by omega) (by omega), ?_⟩
  repeat' (first | (with_reducible exact Below.refl _ _) | (with_reducible refine Below.setCell ?_ ?_ _) | (with_reducible refine Stm.Below.drewN ?_ _) | (with_reducible refine Below.drew ?_) | (with_reducible refine Below.alloc ?_ ?_ _) | go_size)

theorem low_as (n d p q : Nat) (w : World) (hn : n ≤ 4611686018427387904) (hd : 1 ≤ d) (hd2 : d ≤ 4611686018427387904) (hp : Hid (n / Nat.gcd n d = p)) (hq : Hid (d / Nat.gcd n d = q)) :
    Calls Tryd.prog 34 #[.int .i64 n, .int .i64 d] w fun e w' => e = .returned (.agg #[.int .i64 p, .int .i64 q]) ∧ Below w.heap.size w w' := by
  rw [← hp.out, ← hq.out]; exact low_any n d w hn hd hd2

end Go.Proofs.YtnjigaklkalebaaDoor.Frac
