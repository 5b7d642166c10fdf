/-
  SUMS OF PARTS, AS THE PROGRAM ADDS THEM, AND THE MEAN.
-/
import Derived.Test.YtebfndiaiaegmaaGreatDoorGrowM
import Derived.Test.YtebfndiaiaegmaaGreatDoorGFracs
namespace Go.Proofs.YtebfndiaiaegmaaGreatDoor.For
open Go.ChangeShapes Go.WideShapes Go.ChangeAt Go.RowKit Stm Key Frac
set_option linter.unusedVariables false

theorem right_low (S : Nat) (hS : S ≤ 1000000000) : right ((lowN S 252000).1 : Nat) ((lowN S 252000).2 : Nat) = true := by
  have h1 := lowN_le S 252000
  have h2 := lowN_pos S 252000 (by decide)
  have h3 : Nat.gcd (lowN S 252000).1 (lowN S 252000).2 = 1 := by
    unfold lowN
    exact Nat.gcd_div_gcd_div_gcd_of_pos_right (by decide)
  unfold right
  simp only [decide_eq_true_eq, Int.toNat_natCast]
  exact ⟨by omega, by omega, by omega, by omega, h3⟩
theorem add_low (S p : Nat) (h : S + p ≤ 1000000000) : addR ((lowN S 252000).1 : Nat) ((lowN S 252000).2 : Nat) ((lowN p 252000).1 : Nat) ((lowN p 252000).2 : Nat) = ((((lowN (S + p) 252000).1 : Nat) : Int), (((lowN (S + p) 252000).2 : Nat) : Int), (0 : Int)) := by
  have hr1 := right_low S (by omega)
  have hr2 := right_low p (by omega)
  have hl := lowN_le (S + p) 252000
  have ha := lowN_add S p 252000 (by decide)
  unfold addR
  rw [if_pos ⟨hr1, hr2⟩]
  generalize lowN S 252000 = a at *
  generalize lowN p 252000 = b at *
  have e1 : ((a.1 : Int) * (b.2 : Int) + (b.1 : Int) * (a.2 : Int)).toNat = a.1 * b.2 + b.1 * a.2 := by
    rw [← Int.natCast_mul, ← Int.natCast_mul, ← Int.natCast_add, Int.toNat_natCast]
  have e2 : ((a.2 : Int) * (b.2 : Int)).toNat = a.2 * b.2 := by
    rw [← Int.natCast_mul, Int.toNat_natCast]
  rw [e1, e2]
  generalize a.1 * b.2 + b.1 * a.2 = num at *
  generalize a.2 * b.2 = den at *
  have f1 : num / Nat.gcd num den = (lowN (S + p) 252000).1 := by rw [← ha]; rfl
  have f2 : den / Nat.gcd num den = (lowN (S + p) 252000).2 := by rw [← ha]; rfl
  simp only [f1, f2]
  rw [if_neg (by omega)]
/-- Affinity is the mean of its parts. -/
theorem aff_mean {l : List Tp} {s : List Sk} {a : List ByteArray} (hn : 0 < a.length) : (lowN (sumK l s a) 252000).1 * (affN l s a).2 = (affN l s a).1 * a.length * (lowN (sumK l s a) 252000).2 := by
  unfold affN
  have hm : max a.length 1 = a.length := by omega
  rw [hm]
  have hd : 0 < 252000 * a.length := by omega
  obtain ⟨g, hg, e1, e2⟩ := lowN_parts (sumK l s a) 252000 (by decide)
  obtain ⟨k, hk, e3, e4⟩ := lowN_parts (sumK l s a) (252000 * a.length) hd
  generalize lowN (sumK l s a) 252000 = p at *
  generalize lowN (sumK l s a) (252000 * a.length) = q at *
  generalize sumK l s a = S at *
  generalize a.length = n at *
  have : (g * k) * (p.1 * q.2) = (g * k) * (q.1 * n * p.2) := by
    calc (g * k) * (p.1 * q.2) = (g * p.1) * (k * q.2) := by ac_rfl
      _ = S * (252000 * n) := by rw [← e1, ← e4]
      _ = (k * q.1) * ((g * p.2) * n) := by rw [← e3, ← e2]
      _ = (g * k) * (q.1 * n * p.2) := by ac_rfl
  exact Nat.eq_of_mul_eq_mul_left (Nat.mul_pos hg hk) this
theorem topicsk_any (w : World) : Calls Tryz.prog 9 #[] w fun e w' => e = .returned (.bool true) ∧ Below w.heap.size w w' := by
  have e1 : Frac.addR 1 2 1 6 = (2, 3, 0) := by decide +kernel
  have c := Frac.add_ok 1 2 1 6 w
  rw [e1] at c
  have H := Lib.hid c; clear c
  go_enter Tryz.func9, Tryz.ntmps9
  go_wp2_with fail
  refine (H.out).mono ?_
  rintro e w1 ⟨rfl, hb⟩
  unfold Frac.fracRes
  go_wp2_with fail
  go_ret
  exact ⟨rfl, hb.alloc hb.size _⟩
theorem low_zero : lowN 0 252000 = (0, 1) := by decide +kernel
end Go.Proofs.YtebfndiaiaegmaaGreatDoor.For
