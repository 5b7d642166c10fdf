/-
  THE CONTRACTS OF THE REFERENCE'S 'AddOf' and 'ComparedOf'.
-/
import Derived.Test.YtcffhjbigcfhnaaRight
namespace Go.Proofs.Ytcffhjbigcfhnaa.Frac
open Go.ChangeShapes Go.WideShapes Go.ChangeAt Go.RowKit
set_option linter.unusedVariables false

theorem right_out {n d : Int} (h : right n d = true) : ∃ a b : Nat, n = a ∧ d = b ∧ 1 ≤ b ∧ b ≤ 1000000000 ∧ a ≤ 1000000000 := by
  unfold right at h
  have h := of_decide_eq_true h
  exact ⟨n.toNat, d.toNat, by omega, by omega, by omega, by omega, by omega⟩

/-- What AddOf hands back: numerator, denominator, error. -/
def addR (n1 d1 n2 d2 : Int) : Int × Int × Int :=
  if right n1 d1 = true ∧ right n2 d2 = true then
    let num := (n1 * d2 + n2 * d1).toNat
    let den := (d1 * d2).toNat
    let g := Nat.gcd num den
    if 1000000000 < den / g ∨ 1000000000 < num / g then (0, 0, 2) else (((num / g : Nat) : Int), ((den / g : Nat) : Int), 0)
  else (0, 0, 3)

theorem mul_le_big {a b : Nat} (ha : a ≤ 1000000000) (hb : b ≤ 1000000000) : a * b ≤ 1000000000000000000 := Nat.mul_le_mul ha hb

/-- The three numbers as one returned value. -/
def fracRes (r : Int × Int × Int) : Value := .tuple #[.agg #[.int .i64 r.1, .int .i64 r.2.1], .int .i64 r.2.2]

theorem right_t (n d : Int) (w : World) (h : right n d = true) :
    Calls Try.prog 8 #[.agg #[.int .i64 n, .int .i64 d]] w fun e w' => e = .returned (.bool true) ∧ Below w.heap.size w w' := by
  have c := right_any n d w; rwa [h] at c
theorem right_f (n d : Int) (w : World) (h : right n d = false) :
    Calls Try.prog 8 #[.agg #[.int .i64 n, .int .i64 d]] w fun e w' => e = .returned (.bool false) ∧ Below w.heap.size w w' := by
  have c := right_any n d w; rwa [h] at c

set_option maxHeartbeats 1000000 in
theorem add_no1 (n1 d1 n2 d2 : Int) (w : World) (h1 : right n1 d1 = false) :
    Calls Try.prog 6 #[.agg #[.int .i64 n1, .int .i64 d1], .agg #[.int .i64 n2, .int .i64 d2]] w fun e w' => e = .returned (fracRes (0, 0, 3)) ∧ Below w.heap.size w w' := by
  have H1 := Lib.hid h1; clear h1
  go_enter Try.func6, Try.ntmps6
  go_wp2_with fail
  refine (right_f _ _ _ H1.out).mono ?_
  rintro e w1 ⟨rfl, hb⟩
  obtain ⟨hc, hf⟩ := bcell hb
  have r0 : w1.cell? ⟨w.heap.size + 1 + 1, 0, none⟩ = some (.int .i64 0) := by rw [hc _ _ (by go_size)]; go_cell
  have r1 : w1.cell? ⟨w.heap.size + 1 + 1, 1, none⟩ = some (.int .i64 0) := by rw [hc _ _ (by go_size)]; go_cell
  have f0 : w1.frozen? ⟨w.heap.size + 1 + 1, 0, none⟩ = false := by rw [hf _ _ (by go_size)]; go_cell
  have f1 : w1.frozen? ⟨w.heap.size + 1 + 1, 1, none⟩ = false := by rw [hf _ _ (by go_size)]; go_cell
  clear hc hf
  go_wp2_with fail
  refine bodyPost_ret (v := fracRes (0, 0, 3)) (by simp [results, Try.results6, go_sem, r0, r1, fracRes]) rfl ⟨rfl, ?_⟩
  refine Below.setCell (Below.setCell (Below.trans ?_ (hb.mono (by simp; omega))) (by simp; omega) _) (by simp; omega) _
  go_grown
set_option maxHeartbeats 1000000 in
theorem add_no2 (n1 d1 n2 d2 : Int) (w : World) (h1 : right n1 d1 = true) (h2 : right n2 d2 = false) :
    Calls Try.prog 6 #[.agg #[.int .i64 n1, .int .i64 d1], .agg #[.int .i64 n2, .int .i64 d2]] w fun e w' => e = .returned (fracRes (0, 0, 3)) ∧ Below w.heap.size w w' := by
  have H1 := Lib.hid h1; clear h1
  have H2 := Lib.hid h2; clear h2
  go_enter Try.func6, Try.ntmps6
  go_wp2_with fail
  refine (right_t _ _ _ H1.out).mono ?_
  rintro e w1 ⟨rfl, hb⟩
  obtain ⟨hc, hf⟩ := bcell hb
  have x0 : w1.cell? ⟨w.heap.size, 0, none⟩ = some (.int .i64 n1) := by rw [hc _ _ (by go_size)]; go_cell
  have x1 : w1.cell? ⟨w.heap.size, 1, none⟩ = some (.int .i64 d1) := by rw [hc _ _ (by go_size)]; go_cell
  have y0 : w1.cell? ⟨w.heap.size + 1, 0, none⟩ = some (.int .i64 n2) := by rw [hc _ _ (by go_size)]; go_cell
  have y1 : w1.cell? ⟨w.heap.size + 1, 1, none⟩ = some (.int .i64 d2) := by rw [hc _ _ (by go_size)]; go_cell
  have r0 : w1.cell? ⟨w.heap.size + 1 + 1, 0, none⟩ = some (.int .i64 0) := by rw [hc _ _ (by go_size)]; go_cell
  have r1 : w1.cell? ⟨w.heap.size + 1 + 1, 1, none⟩ = some (.int .i64 0) := by rw [hc _ _ (by go_size)]; go_cell
  have f0 : w1.frozen? ⟨w.heap.size + 1 + 1, 0, none⟩ = false := by rw [hf _ _ (by go_size)]; go_cell
  have f1 : w1.frozen? ⟨w.heap.size + 1 + 1, 1, none⟩ = false := by rw [hf _ _ (by go_size)]; go_cell
  have z1 : w.heap.size + 1 + 1 < w1.heap.size := by have := hb.size; simp at this; omega
  clear hc hf
  go_wp2_with fail
  refine (right_f _ _ _ H2.out).mono ?_
  rintro e w2 ⟨rfl, hb2⟩
  obtain ⟨hc, hf⟩ := bcell hb2
  have x0b : w2.cell? ⟨w.heap.size, 0, none⟩ = some (.int .i64 n1) := by rw [hc _ _ (by go_size)]; go_cell
  have x1b : w2.cell? ⟨w.heap.size, 1, none⟩ = some (.int .i64 d1) := by rw [hc _ _ (by go_size)]; go_cell
  have y0b : w2.cell? ⟨w.heap.size + 1, 0, none⟩ = some (.int .i64 n2) := by rw [hc _ _ (by go_size)]; go_cell
  have y1b : w2.cell? ⟨w.heap.size + 1, 1, none⟩ = some (.int .i64 d2) := by rw [hc _ _ (by go_size)]; go_cell
  have r0b : w2.cell? ⟨w.heap.size + 1 + 1, 0, none⟩ = some (.int .i64 0) := by rw [hc _ _ (by go_size)]; go_cell
  have r1b : w2.cell? ⟨w.heap.size + 1 + 1, 1, none⟩ = some (.int .i64 0) := by rw [hc _ _ (by go_size)]; go_cell
  have f0b : w2.frozen? ⟨w.heap.size + 1 + 1, 0, none⟩ = false := by rw [hf _ _ (by go_size)]; go_cell
  have f1b : w2.frozen? ⟨w.heap.size + 1 + 1, 1, none⟩ = false := by rw [hf _ _ (by go_size)]; go_cell
  clear hc hf
  go_wp2_with fail
  refine bodyPost_ret (v := fracRes (0, 0, 3)) (by simp [results, Try.results6, go_sem, r0b, r1b, fracRes]) rfl ⟨rfl, ?_⟩
  refine Below.setCell (Below.setCell (Below.trans (Below.trans ?_ (hb.mono (by simp; omega))) (hb2.mono (by omega))) (by simp; omega) _) (by simp; omega) _
  go_grown

set_option maxHeartbeats 2000000 in
theorem add_yes (n1 d1 n2 d2 p q : Nat) (w : World) (h1 : right n1 d1 = true) (h2 : right n2 d2 = true) (b1 : 1 ≤ d1 ∧ d1 ≤ 1000000000 ∧ n1 ≤ 1000000000) (b2 : 1 ≤ d2 ∧ d2 ≤ 1000000000 ∧ n2 ≤ 1000000000)
    (m1 : n1 * d2 ≤ 1000000000000000000) (m2 : n2 * d1 ≤ 1000000000000000000) (m3 : d1 * d2 ≤ 1000000000000000000) (m4 : 1 ≤ d1 * d2)
    (hp : Hid ((n1 * d2 + n2 * d1) / Nat.gcd (n1 * d2 + n2 * d1) (d1 * d2) = p)) (hq : Hid ((d1 * d2) / Nat.gcd (n1 * d2 + n2 * d1) (d1 * d2) = q))
    (r : Int × Int × Int) (hr : Hid ((if 1000000000 < q ∨ 1000000000 < p then (0, 0, 2) else ((p : Int), (q : Int), (0 : Int))) = r)) :
    Calls Try.prog 6 #[.agg #[.int .i64 n1, .int .i64 d1], .agg #[.int .i64 n2, .int .i64 d2]] w fun e w' =>
      e = .returned (fracRes r) ∧ Below w.heap.size w w' := by
  have H1 := Lib.hid h1; clear h1
  have H2 := Lib.hid h2; clear h2
  have k1 : (n1 : Int) * (d2 : Int) ≤ 1000000000000000000 := by omega
  have k2 : (n2 : Int) * (d1 : Int) ≤ 1000000000000000000 := by omega
  have k3 : (d1 : Int) * (d2 : Int) ≤ 1000000000000000000 := by omega
  have l1 : (0 : Int) ≤ (n1 : Int) * (d2 : Int) := Int.mul_nonneg (Int.natCast_nonneg _) (Int.natCast_nonneg _)
  have l2 : (0 : Int) ≤ (n2 : Int) * (d1 : Int) := Int.mul_nonneg (Int.natCast_nonneg _) (Int.natCast_nonneg _)
  have l3 : (0 : Int) ≤ (d1 : Int) * (d2 : Int) := Int.mul_nonneg (Int.natCast_nonneg _) (Int.natCast_nonneg _)
  go_enter Try.func6, Try.ntmps6
  go_wp2_with fail
  refine (right_t _ _ _ H1.out).mono ?_
  rintro e w1 ⟨rfl, hb⟩
  obtain ⟨hc, hf⟩ := bcell hb
  have x0 : w1.cell? ⟨w.heap.size, 0, none⟩ = some (.int .i64 n1) := by rw [hc _ _ (by go_size)]; go_cell
  have x1 : w1.cell? ⟨w.heap.size, 1, none⟩ = some (.int .i64 d1) := by rw [hc _ _ (by go_size)]; go_cell
  have y0 : w1.cell? ⟨w.heap.size + 1, 0, none⟩ = some (.int .i64 n2) := by rw [hc _ _ (by go_size)]; go_cell
  have y1 : w1.cell? ⟨w.heap.size + 1, 1, none⟩ = some (.int .i64 d2) := by rw [hc _ _ (by go_size)]; go_cell
  have r0 : w1.cell? ⟨w.heap.size + 1 + 1, 0, none⟩ = some (.int .i64 0) := by rw [hc _ _ (by go_size)]; go_cell
  have r1 : w1.cell? ⟨w.heap.size + 1 + 1, 1, none⟩ = some (.int .i64 0) := by rw [hc _ _ (by go_size)]; go_cell
  have f0 : w1.frozen? ⟨w.heap.size + 1 + 1, 0, none⟩ = false := by rw [hf _ _ (by go_size)]; go_cell
  have f1 : w1.frozen? ⟨w.heap.size + 1 + 1, 1, none⟩ = false := by rw [hf _ _ (by go_size)]; go_cell
  have z1 : w.heap.size + 1 + 1 < w1.heap.size := by have := hb.size; simp at this; omega
  clear hc hf
  go_wp2_with fail
  refine (right_t _ _ _ H2.out).mono ?_
  rintro e w2 ⟨rfl, hb2⟩
  obtain ⟨hc, hf⟩ := bcell hb2
  have x0b : w2.cell? ⟨w.heap.size, 0, none⟩ = some (.int .i64 n1) := by rw [hc _ _ (by go_size)]; go_cell
  have x1b : w2.cell? ⟨w.heap.size, 1, none⟩ = some (.int .i64 d1) := by rw [hc _ _ (by go_size)]; go_cell
  have y0b : w2.cell? ⟨w.heap.size + 1, 0, none⟩ = some (.int .i64 n2) := by rw [hc _ _ (by go_size)]; go_cell
  have y1b : w2.cell? ⟨w.heap.size + 1, 1, none⟩ = some (.int .i64 d2) := by rw [hc _ _ (by go_size)]; go_cell
  have r0b : w2.cell? ⟨w.heap.size + 1 + 1, 0, none⟩ = some (.int .i64 0) := by rw [hc _ _ (by go_size)]; go_cell
  have r1b : w2.cell? ⟨w.heap.size + 1 + 1, 1, none⟩ = some (.int .i64 0) := by rw [hc _ _ (by go_size)]; go_cell
  have f0b : w2.frozen? ⟨w.heap.size + 1 + 1, 0, none⟩ = false := by rw [hf _ _ (by go_size)]; go_cell
  have f1b : w2.frozen? ⟨w.heap.size + 1 + 1, 1, none⟩ = false := by rw [hf _ _ (by go_size)]; go_cell
  have z2 : w.heap.size + 1 + 1 < w2.heap.size := by have := hb2.size; omega
  clear hc hf r0 r1 f0 f1 x0 x1 y0 y1
  go_wp2_with fail
  rw [show (n1 : Int) * (d2 : Int) + (n2 : Int) * (d1 : Int) = ((n1 * d2 + n2 * d1 : Nat) : Int) from by push_cast; rfl, show (d1 : Int) * (d2 : Int) = ((d1 * d2 : Nat) : Int) from by push_cast; rfl]
  refine (part_as _ _ p q _ (by omega) m4 (by omega) hp hq).mono ?_
  rintro e w3 ⟨rfl, hb3⟩
  obtain ⟨hc, hf⟩ := bcell hb3
  have x0c : w3.cell? ⟨w.heap.size, 0, none⟩ = some (.int .i64 n1) := by rw [hc _ _ (by go_size)]; go_cell
  have x1c : w3.cell? ⟨w.heap.size, 1, none⟩ = some (.int .i64 d1) := by rw [hc _ _ (by go_size)]; go_cell
  have y0c : w3.cell? ⟨w.heap.size + 1, 0, none⟩ = some (.int .i64 n2) := by rw [hc _ _ (by go_size)]; go_cell
  have y1c : w3.cell? ⟨w.heap.size + 1, 1, none⟩ = some (.int .i64 d2) := by rw [hc _ _ (by go_size)]; go_cell
  have r0c : w3.cell? ⟨w.heap.size + 1 + 1, 0, none⟩ = some (.int .i64 0) := by rw [hc _ _ (by go_size)]; go_cell
  have r1c : w3.cell? ⟨w.heap.size + 1 + 1, 1, none⟩ = some (.int .i64 0) := by rw [hc _ _ (by go_size)]; go_cell
  have f0c : w3.frozen? ⟨w.heap.size + 1 + 1, 0, none⟩ = false := by rw [hf _ _ (by go_size)]; go_cell
  have f1c : w3.frozen? ⟨w.heap.size + 1 + 1, 1, none⟩ = false := by rw [hf _ _ (by go_size)]; go_cell
  have z3 : w.heap.size + 1 + 1 < w3.heap.size := by have := hb3.size; omega
  clear hc hf r0b r1b f0b f1b x0b x1b y0b y1b k1 k2 k3 l1 l2 l3
  have HB : Below w.heap.size w w3 := Below.trans (Below.trans (Below.trans (by go_grown) (hb.mono (by simp; omega))) (hb2.mono (by omega))) (hb3.mono (by omega))
  clear hb hb2 hb3
  by_cases cq : 1000000000 < q
  · have e1 : decide ((1000000000 : Int) < (q : Int)) = true := by simp; omega
    go_wp2_with fail
    refine bodyPost_ret (v := fracRes (0, 0, 2)) (by simp only [results, Try.results6, fracRes]; go_simp) rfl ⟨by rw [← hr.out, if_pos (Or.inl cq)], ?_⟩
    repeat' (first | (with_reducible assumption) | (with_reducible exact Below.refl _ _) | (with_reducible refine Below.setCell ?_ ?_ _) | (with_reducible refine Stm.Below.drewN ?_ _) | (with_reducible refine Below.drew ?_) | (with_reducible refine Below.alloc ?_ ?_ _) | go_size | (simp; omega))
  · have e1 : decide ((1000000000 : Int) < (q : Int)) = false := by simp; omega
    by_cases cp : 1000000000 < p
    · have e2 : decide ((1000000000 : Int) < (p : Int)) = true := by simp; omega
      go_wp2_with fail
      refine bodyPost_ret (v := fracRes (0, 0, 2)) (by simp only [results, Try.results6, fracRes]; go_simp) rfl ⟨by rw [← hr.out, if_pos (Or.inr cp)], ?_⟩
      repeat' (first | (with_reducible assumption) | (with_reducible exact Below.refl _ _) | (with_reducible refine Below.setCell ?_ ?_ _) | (with_reducible refine Stm.Below.drewN ?_ _) | (with_reducible refine Below.drew ?_) | (with_reducible refine Below.alloc ?_ ?_ _) | go_size | (simp; omega))
    · have e2 : decide ((1000000000 : Int) < (p : Int)) = false := by simp; omega
      go_wp2_with fail
      refine bodyPost_ret (v := fracRes (p, q, 0)) (by simp only [results, Try.results6, fracRes]; go_simp) rfl ⟨by rw [← hr.out, if_neg (by omega)], ?_⟩
      repeat' (first | (with_reducible assumption) | (with_reducible exact Below.refl _ _) | (with_reducible refine Below.setCell ?_ ?_ _) | (with_reducible refine Stm.Below.drewN ?_ _) | (with_reducible refine Below.drew ?_) | (with_reducible refine Below.alloc ?_ ?_ _) | go_size | (simp; omega))

/-- AddOf, of whatever fractions. -/
theorem add_any (n1 d1 n2 d2 : Int) (w : World) :
    Calls Try.prog 6 #[.agg #[.int .i64 n1, .int .i64 d1], .agg #[.int .i64 n2, .int .i64 d2]] w fun e w' => e = .returned (fracRes (addR n1 d1 n2 d2)) ∧ Below w.heap.size w w' := by
  by_cases h1 : right n1 d1 = true
  · by_cases h2 : right n2 d2 = true
    · obtain ⟨a, b, rfl, rfl, g1, g2, g3⟩ := right_out h1
      obtain ⟨c, d, rfl, rfl, g4, g5, g6⟩ := right_out h2
      refine add_yes a b c d _ _ w h1 h2 ⟨g1, g2, g3⟩ ⟨g4, g5, g6⟩ (mul_le_big g3 g5) (mul_le_big g6 g2) (mul_le_big g2 g5) (Nat.mul_pos g1 g4) (Lib.hid rfl) (Lib.hid rfl) _ (Lib.hid ?_)
      have e1 : ((a : Int) * d + c * b).toNat = a * d + c * b := by
        rw [show (a : Int) * d + c * b = ((a * d + c * b : Nat) : Int) from by push_cast; rfl, Int.toNat_natCast]
      have e2 : ((b : Int) * d).toNat = b * d := by
        rw [show (b : Int) * d = ((b * d : Nat) : Int) from by push_cast; rfl, Int.toNat_natCast]
      simp only [addR, h1, h2, and_self, if_true, e1, e2]
    · have h2 : right n2 d2 = false := by simpa using h2
      have e : addR n1 d1 n2 d2 = (0, 0, 3) := by unfold addR; rw [if_neg (by rw [h2]; simp)]
      rw [e]; exact add_no2 n1 d1 n2 d2 w h1 h2
  · have h1 : right n1 d1 = false := by simpa using h1
    have e : addR n1 d1 n2 d2 = (0, 0, 3) := by unfold addR; rw [if_neg (by rw [h1]; simp)]
    rw [e]; exact add_no1 n1 d1 n2 d2 w h1

theorem cmp_nan (x : Int) (w : World) : Calls Try.prog 22 #[.int .i64 x] w fun e w' => e = .returned (.bool false) ∧ w' = w := by
  go_enter Try.func22, Try.ntmps22
  go_wp2
  go_ret
  exact ⟨rfl, rfl⟩

def cmpI (x y : Int) : Int := if x < y then -1 else if y < x then 1 else 0

set_option maxHeartbeats 400000 in
theorem cmp_any (x y : Int) (w : World) : Calls Try.prog 20 #[.int .i64 x, .int .i64 y] w fun e w' => e = .returned (.int .i64 (cmpI x y)) ∧ w' = w := by
  by_cases h : x < y
  · have H := Lib.hid (show cmpI x y = -1 from by unfold cmpI; rw [if_pos h])
    go_enter Try.func20, Try.ntmps20
    go_wp2_with (go_at_call 22; refine (cmp_nan _ _).mono ?_; rintro e w' ⟨rfl, rfl⟩)
    go_ret
    exact ⟨Stm.ret_int H.out.symm, rfl⟩
  · by_cases h2 : y < x
    · have H := Lib.hid (show cmpI x y = 1 from by unfold cmpI; rw [if_neg h, if_pos h2])
      go_enter Try.func20, Try.ntmps20
      go_wp2_with (go_at_call 22; refine (cmp_nan _ _).mono ?_; rintro e w' ⟨rfl, rfl⟩)
      go_ret
      exact ⟨Stm.ret_int H.out.symm, rfl⟩
    · have H := Lib.hid (show cmpI x y = 0 from by unfold cmpI; rw [if_neg h, if_neg h2])
      go_enter Try.func20, Try.ntmps20
      go_wp2_with (go_at_call 22; refine (cmp_nan _ _).mono ?_; rintro e w' ⟨rfl, rfl⟩)
      go_ret
      exact ⟨Stm.ret_int H.out.symm, rfl⟩

set_option maxHeartbeats 400000 in
theorem cmpf_any (n1 d1 n2 d2 : Int) (w : World) (h1 : -4611686018427387904 ≤ n1 * d2) (h2 : n1 * d2 ≤ 4611686018427387904) (h3 : -4611686018427387904 ≤ n2 * d1) (h4 : n2 * d1 ≤ 4611686018427387904) :
    Calls Try.prog 17 #[.agg #[.int .i64 n1, .int .i64 d1], .agg #[.int .i64 n2, .int .i64 d2]] w fun e w' => e = .returned (.int .i64 (cmpI (n1 * d2) (n2 * d1))) ∧ Below w.heap.size w w' := by
  go_enter Try.func17, Try.ntmps17
  go_wp2_with (go_at_call 20; refine (cmp_any _ _ _).mono ?_; rintro e w' ⟨rfl, rfl⟩)
  go_ret
  exact ⟨rfl, by go_grown⟩

set_option maxHeartbeats 400000 in
theorem compared_any (n1 d1 n2 d2 : Int) (w : World) (h1 : -4611686018427387904 ≤ n1 * d2) (h2 : n1 * d2 ≤ 4611686018427387904) (h3 : -4611686018427387904 ≤ n2 * d1) (h4 : n2 * d1 ≤ 4611686018427387904) :
    Calls Try.prog 10 #[.agg #[.int .i64 n1, .int .i64 d1], .agg #[.int .i64 n2, .int .i64 d2]] w fun e w' => e = .returned (.int .i64 (cmpI (n1 * d2) (n2 * d1))) ∧ Below w.heap.size w w' := by
  go_enter Try.func10, Try.ntmps10
  go_wp2_with (go_at_call 17; refine (cmpf_any _ _ _ _ _ h1 h2 h3 h4).mono ?_; rintro e w' ⟨rfl, hb⟩)
  go_ret
  exact ⟨rfl, Below.trans (by go_grown) (hb.mono (by simp; omega))⟩

end Go.Proofs.Ytcffhjbigcfhnaa.Frac
