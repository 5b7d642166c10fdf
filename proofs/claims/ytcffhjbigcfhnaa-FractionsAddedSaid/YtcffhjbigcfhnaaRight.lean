/-
  THE CONTRACT OF THE REFERENCE'S 'FractionRight': whether a fraction is in lowest terms, and of a small denominator and numerator.
-/
import Derived.Test.YtcffhjbigcfhnaaPart
import Derived.Deep.RegionHeld3
namespace Go.Proofs.Ytcffhjbigcfhnaa.Frac
open Go.ChangeShapes Go.WideShapes Go.ChangeAt Go.RowKit
set_option linter.unusedVariables false

/-- A fraction that can be added and compared. -/
def right (n d : Int) : Bool := decide (1 ≤ d ∧ d ≤ 1000000000 ∧ 0 ≤ n ∧ n ≤ 1000000000 ∧ Nat.gcd n.toNat d.toNat = 1)

theorem right_no (n d : Int) (h : ¬ (1 ≤ d ∧ d ≤ 1000000000 ∧ 0 ≤ n ∧ n ≤ 1000000000)) : right n d = false := by
  unfold right; simp only [decide_eq_false_iff_not]; intro hh; exact h ⟨hh.1, hh.2.1, hh.2.2.1, hh.2.2.2.1⟩

theorem ret_bool {a b : Bool} (h : a = b) : Ending.returned (.bool a) = .returned (.bool b) := by rw [h]

theorem bcell {W w1 : World} (hb : Below W.heap.size W w1) : (∀ b o, b < W.heap.size → w1.cell? ⟨b, o, none⟩ = W.cell? ⟨b, o, none⟩) ∧ (∀ b o, b < W.heap.size → w1.frozen? ⟨b, o, none⟩ = W.frozen? ⟨b, o, none⟩) :=
  ⟨fun b o h => hb.cell (p := ⟨b, o, none⟩) h, fun b o h => hb.frozen (p := ⟨b, o, none⟩) h⟩

theorem part_as (n d p q : Nat) (w : World) (hn : n ≤ 4611686018427387904) (hd : 1 ≤ d) (hd2 : d ≤ 4611686018427387904) (hp : Hid (n / Nat.gcd n d = p)) (hq : Hid (d / Nat.gcd n d = q)) :
    Calls Try.prog 15 #[.int .i64 n, .int .i64 d] w fun e w' => e = .returned (.agg #[.int .i64 p, .int .i64 q]) ∧ Below w.heap.size w w' := by
  rw [← hp.out, ← hq.out]; exact part_any n d w hn hd hd2

set_option maxHeartbeats 1000000 in
/-- In range: what stands is the comparison of two fractions. -/
theorem right_walk (n d p q : Nat) (b : Bool) (w : World) (h1 : 1 ≤ d) (h2 : d ≤ 1000000000) (h4 : n ≤ 1000000000) (hp : Hid (n / Nat.gcd n d = p)) (hq : Hid (d / Nat.gcd n d = q))
    (hb : b = true ∧ p = n ∧ q = d ∨ b = false ∧ p = n ∧ q ≠ d ∨ b = false ∧ p ≠ n) :
    Calls Try.prog 8 #[.agg #[.int .i64 n, .int .i64 d]] w fun e w' => e = .returned (.bool b) ∧ Below w.heap.size w w' := by
  have a1 : decide ((1 : Int) ≤ (d : Int)) = true := by simp; omega
  have a2 : decide ((d : Int) ≤ 1000000000) = true := by simp; omega
  have a3 : decide ((0 : Int) ≤ (n : Int)) = true := by simp
  have a4 : decide ((n : Int) ≤ 1000000000) = true := by simp; omega
  rcases hb with ⟨rfl, rfl, rfl⟩ | ⟨rfl, rfl, hne⟩ | ⟨rfl, hne⟩
  · go_enter Try.func8, Try.ntmps8
    go_wp2
    go_region_held3 (fun v => v.cell? ⟨w.heap.size, 0, none⟩ = some (.int .i64 p) ∧ v.cell? ⟨w.heap.size, 1, none⟩ = some (.int .i64 q) ∧ Below w.heap.size w v ∧ w.heap.size < v.heap.size)
      (first
        | (go_split_ands; exact ⟨(hc _ _ (by assumption)).trans (by assumption), (hc _ _ (by assumption)).trans (by assumption), Below.trans (by assumption) (hb.mono (Nat.le_of_lt (by assumption))), Nat.lt_of_lt_of_le (by assumption) hb.size⟩)
        | (refine ⟨by simp, by simp, ?_, ?_⟩; repeat' (first | (with_reducible exact Below.refl _ _) | (with_reducible refine Below.drew ?_) | (with_reducible refine Below.alloc ?_ ?_ _) | go_size)))
      (first | (go_at_call 15; refine (part_as _ _ _ _ _ (by omega) (by omega) (by omega) hp hq).mono ?_; rintro e w1 ⟨rfl, hb⟩; obtain ⟨hc, hf⟩ := bcell hb))
    go_split_ands
    go_wp2
    go_ret
    exact ⟨rfl, by assumption⟩
  · have e1 : ((q : Int) == (d : Int)) = false := by simp; omega
    go_enter Try.func8, Try.ntmps8
    go_wp2
    go_region_held3 (fun v => v.cell? ⟨w.heap.size, 0, none⟩ = some (.int .i64 p) ∧ v.cell? ⟨w.heap.size, 1, none⟩ = some (.int .i64 d) ∧ Below w.heap.size w v ∧ w.heap.size < v.heap.size)
      (first
        | (go_split_ands; exact ⟨(hc _ _ (by assumption)).trans (by assumption), (hc _ _ (by assumption)).trans (by assumption), Below.trans (by assumption) (hb.mono (Nat.le_of_lt (by assumption))), Nat.lt_of_lt_of_le (by assumption) hb.size⟩)
        | (refine ⟨by simp, by simp, ?_, ?_⟩; repeat' (first | (with_reducible exact Below.refl _ _) | (with_reducible refine Below.drew ?_) | (with_reducible refine Below.alloc ?_ ?_ _) | go_size)))
      (first | (go_at_call 15; refine (part_as _ _ _ _ _ (by omega) (by omega) (by omega) hp hq).mono ?_; rintro e w1 ⟨rfl, hb⟩; obtain ⟨hc, hf⟩ := bcell hb))
    go_split_ands
    go_wp2
    go_ret
    exact ⟨rfl, by assumption⟩
  · have e1 : ((p : Int) == (n : Int)) = false := by simp; omega
    go_enter Try.func8, Try.ntmps8
    go_wp2
    go_region_held3 (fun v => v.cell? ⟨w.heap.size, 0, none⟩ = some (.int .i64 n) ∧ v.cell? ⟨w.heap.size, 1, none⟩ = some (.int .i64 d) ∧ Below w.heap.size w v ∧ w.heap.size < v.heap.size)
      (first
        | (go_split_ands; exact ⟨(hc _ _ (by assumption)).trans (by assumption), (hc _ _ (by assumption)).trans (by assumption), Below.trans (by assumption) (hb.mono (Nat.le_of_lt (by assumption))), Nat.lt_of_lt_of_le (by assumption) hb.size⟩)
        | (refine ⟨by simp, by simp, ?_, ?_⟩; repeat' (first | (with_reducible exact Below.refl _ _) | (with_reducible refine Below.drew ?_) | (with_reducible refine Below.alloc ?_ ?_ _) | go_size)))
      (first | (go_at_call 15; refine (part_as _ _ _ _ _ (by omega) (by omega) (by omega) hp hq).mono ?_; rintro e w1 ⟨rfl, hb⟩; obtain ⟨hc, hf⟩ := bcell hb))
    go_split_ands
    go_wp2
    go_ret
    exact ⟨rfl, by assumption⟩

theorem right_in (n d : Nat) (w : World) (h1 : 1 ≤ d) (h2 : d ≤ 1000000000) (h4 : n ≤ 1000000000) :
    Calls Try.prog 8 #[.agg #[.int .i64 n, .int .i64 d]] w fun e w' => e = .returned (.bool (right n d)) ∧ Below w.heap.size w w' := by
  refine right_walk n d _ _ (right n d) w h1 h2 h4 (Lib.hid rfl) (Lib.hid rfl) ?_
  have hr : right n d = decide (Nat.gcd n d = 1) := by
    unfold right; simp only [Int.toNat_natCast]
    by_cases g : Nat.gcd n d = 1
    · simp [g]; omega
    · simp [g]
  rw [hr]
  by_cases g : Nat.gcd n d = 1
  · left; simp [g]
  · have hg : 0 < Nat.gcd n d := Nat.gcd_pos_of_pos_right n h1
    have hd : d / Nat.gcd n d ≠ d := by
      have : d / Nat.gcd n d < d := Nat.div_lt_self h1 (by omega)
      omega
    by_cases hp : n / Nat.gcd n d = n
    · right; left; exact ⟨by simp [g], hp, hd⟩
    · right; right; exact ⟨by simp [g], hp⟩

set_option maxHeartbeats 1000000 in
/-- FractionRight, of whatever fraction. -/
theorem right_any (n d : Int) (w : World) :
    Calls Try.prog 8 #[.agg #[.int .i64 n, .int .i64 d]] w fun e w' => e = .returned (.bool (right n d)) ∧ Below w.heap.size w w' := by
  by_cases h1 : 1 ≤ d
  · by_cases h2 : d ≤ 1000000000
    · by_cases h3 : 0 ≤ n
      · by_cases h4 : n ≤ 1000000000
        · obtain ⟨n, rfl⟩ := Int.eq_ofNat_of_zero_le h3
          obtain ⟨d, rfl⟩ := Int.eq_ofNat_of_zero_le (show 0 ≤ d by omega)
          exact right_in n d w (by omega) (by omega) (by omega)
        · rw [right_no n d (by omega)]
          have b1 : decide (1 ≤ d) = true := by simpa using h1
          have b2 : decide (d ≤ 1000000000) = true := by simpa using h2
          have b3 : decide (0 ≤ n) = true := by simpa using h3
          have b4 : decide (n ≤ 1000000000) = false := by simpa using h4
          go_enter Try.func8, Try.ntmps8
          go_wp2
          go_quiet (fail)
          go_wp2
          go_ret
          exact ⟨rfl, Stm.Below.drewN ((Below.refl _ _).alloc (Nat.le_refl _) _) _⟩
      · rw [right_no n d (by omega)]
        have b1 : decide (1 ≤ d) = true := by simpa using h1
        have b2 : decide (d ≤ 1000000000) = true := by simpa using h2
        have b3 : decide (0 ≤ n) = false := by simpa using h3
        go_enter Try.func8, Try.ntmps8
        go_wp2
        go_quiet (fail)
        go_wp2
        go_ret
        exact ⟨rfl, Stm.Below.drewN ((Below.refl _ _).alloc (Nat.le_refl _) _) _⟩
    · rw [right_no n d (by omega)]
      have b1 : decide (1 ≤ d) = true := by simpa using h1
      have b2 : decide (d ≤ 1000000000) = false := by simpa using h2
      go_enter Try.func8, Try.ntmps8
      go_wp2
      go_quiet (fail)
      go_wp2
      go_ret
      exact ⟨rfl, Stm.Below.drewN ((Below.refl _ _).alloc (Nat.le_refl _) _) _⟩
  · rw [right_no n d (by omega)]
    have b1 : decide (1 ≤ d) = false := by simpa using h1
    go_enter Try.func8, Try.ntmps8
    go_wp2
    go_quiet (fail)
    go_wp2
    go_ret
    exact ⟨rfl, Stm.Below.drewN ((Below.refl _ _).alloc (Nat.le_refl _) _) _⟩
end Go.Proofs.Ytcffhjbigcfhnaa.Frac
