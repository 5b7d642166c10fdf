/-
  THE CONTRACTS OF THE PROGRAM'S Add AND Compare: what the reference's are.
-/
import Derived.Test.YtnjigaklkalebaaDoorFracs
import Derived.Test.YtnjigaklkalebaaDoorFractionGen
namespace Go.Proofs.YtnjigaklkalebaaDoor.Frac
open Go.ChangeShapes Go.WideShapes Go.ChangeAt Go.RowKit
set_option linter.unusedVariables false

theorem fl_new {w : World} {b : Nat} (n1 d1 n2 d2 : Int) (t : TypeId) (h : b = w.heap.size) : FL (w.alloc (.cells #[.int .i64 n1, .int .i64 d1, .int .i64 n2, .int .i64 d2] t)) b [(n1, d1), (n2, d2)] := by
  subst h
  have hb := heap_alloc_new w (.cells #[.int .i64 n1, .int .i64 d1, .int .i64 n2, .int .i64 d2] t)
  generalize w.alloc _ = W at *
  generalize w.heap.size = b at *
  refine ⟨lt_of_block hb, fun i hi => ?_⟩
  have hi' : i = 0 ∨ i = 1 := by simp at hi; omega
  rcases hi' with rfl | rfl
  · exact ⟨by simp [World.cell?, hb], by simp [World.cell?, hb]⟩
  · exact ⟨by simp [World.cell?, hb], by simp [World.cell?, hb]⟩
theorem rights2 (n1 d1 n2 d2 : Int) : rightsE [(n1, d1), (n2, d2)] = if right n1 d1 = true ∧ right n2 d2 = true then 0 else 3 := by
  show (if right n1 d1 = true then (if right n2 d2 = true then (0 : Int) else 3) else 3) = _
  cases right n1 d1 <;> cases right n2 d2 <;> rfl
theorem fl_new1 {w : World} {b : Nat} (n1 d1 : Int) (t : TypeId) (h : b = w.heap.size) : FL (w.alloc (.cells #[.int .i64 n1, .int .i64 d1] t)) b [(n1, d1)] := by
  subst h
  have hb := heap_alloc_new w (.cells #[.int .i64 n1, .int .i64 d1] t)
  generalize w.alloc _ = W at *
  generalize w.heap.size = b at *
  refine ⟨lt_of_block hb, fun i hi => ?_⟩
  obtain rfl : i = 0 := by simp at hi; omega
  exact ⟨by simp [World.cell?, hb], by simp [World.cell?, hb]⟩

set_option maxHeartbeats 2000000 in
theorem add_no (n1 d1 n2 d2 : Int) (w : World) (h : ¬ (right n1 d1 = true ∧ right n2 d2 = true)) :
    Calls Tryd.prog 20 #[.agg #[.int .i64 n1, .int .i64 d1], .agg #[.int .i64 n2, .int .i64 d2]] w fun e w' => e = .returned (fracRes (0, 0, 3)) ∧ Below w.heap.size w w' := by
  have H := Lib.hid (show rightsE [(n1, d1), (n2, d2)] = 3 by rw [rights2, if_neg h])
  clear h
  go_enter Tryd.func20, Tryd.ntmps20
  go_wp2_with fail
  refine (fracs_walk _ 2 _ [(n1, d1), (n2, d2)] _ rfl (by omega) (fl_new n1 d1 n2 d2 _ (by simp)) 3 H).mono ?_
  rintro e w1 ⟨rfl, hb⟩
  obtain ⟨hc, hf⟩ := bcell hb
  have r0 : w1.cell? ⟨w.heap.size + 1 + 1, 0, none⟩ = some (.int .i64 0) := by rw [hc _ _ (by go_size)]; go_cell
  have r1 : w1.cell? ⟨w.heap.size + 1 + 1, 1, none⟩ = some (.int .i64 0) := by rw [hc _ _ (by go_size)]; go_cell
  have f0 : w1.frozen? ⟨w.heap.size + 1 + 1, 0, none⟩ = false := by rw [hf _ _ (by go_size)]; go_cell
  have f1 : w1.frozen? ⟨w.heap.size + 1 + 1, 1, none⟩ = false := by rw [hf _ _ (by go_size)]; go_cell
  have z1 : w.heap.size + 1 + 1 < w1.heap.size := by have := hb.size; simp at this; omega
  clear hc hf
  go_wp2_with fail
  refine bodyPost_ret (v := fracRes (0, 0, 3)) (by simp [results, Tryd.results20, go_sem, r0, r1, fracRes]) rfl ⟨rfl, ?_⟩
  refine Below.setCell (Below.setCell (Below.trans ?_ (hb.mono (by simp; omega))) (by simp; omega) _) (by simp; omega) _
  go_grown

set_option maxHeartbeats 2000000 in
theorem add_go (n1 d1 n2 d2 p q : Nat) (w : World) (h1 : right n1 d1 = true) (h2 : right n2 d2 = true) (b1 : 1 ≤ d1 ∧ d1 ≤ 1000000000 ∧ n1 ≤ 1000000000) (b2 : 1 ≤ d2 ∧ d2 ≤ 1000000000 ∧ n2 ≤ 1000000000)
    (m1 : n1 * d2 ≤ 1000000000000000000) (m2 : n2 * d1 ≤ 1000000000000000000) (m3 : d1 * d2 ≤ 1000000000000000000) (m4 : 1 ≤ d1 * d2)
    (hp : Hid ((n1 * d2 + n2 * d1) / Nat.gcd (n1 * d2 + n2 * d1) (d1 * d2) = p)) (hq : Hid ((d1 * d2) / Nat.gcd (n1 * d2 + n2 * d1) (d1 * d2) = q))
    (r : Int × Int × Int) (hr : Hid ((if 1000000000 < q ∨ 1000000000 < p then (0, 0, 2) else ((p : Int), (q : Int), (0 : Int))) = r)) :
    Calls Tryd.prog 20 #[.agg #[.int .i64 n1, .int .i64 d1], .agg #[.int .i64 n2, .int .i64 d2]] w fun e w' =>
      e = .returned (fracRes r) ∧ Below w.heap.size w w' := by
  have H := Lib.hid (show rightsE [((n1 : Int), (d1 : Int)), ((n2 : Int), (d2 : Int))] = 0 by rw [rights2, if_pos ⟨h1, h2⟩])
  clear h1 h2
  have k1 : (n1 : Int) * (d2 : Int) ≤ 1000000000000000000 := by omega
  have k2 : (n2 : Int) * (d1 : Int) ≤ 1000000000000000000 := by omega
  have k3 : (d1 : Int) * (d2 : Int) ≤ 1000000000000000000 := by omega
  have l1 : (0 : Int) ≤ (n1 : Int) * (d2 : Int) := Int.mul_nonneg (Int.natCast_nonneg _) (Int.natCast_nonneg _)
  have l2 : (0 : Int) ≤ (n2 : Int) * (d1 : Int) := Int.mul_nonneg (Int.natCast_nonneg _) (Int.natCast_nonneg _)
  have l3 : (0 : Int) ≤ (d1 : Int) * (d2 : Int) := Int.mul_nonneg (Int.natCast_nonneg _) (Int.natCast_nonneg _)
  go_enter Tryd.func20, Tryd.ntmps20
  go_wp2_with fail
  refine (fracs_walk _ 2 _ [((n1 : Int), (d1 : Int)), ((n2 : Int), (d2 : Int))] _ rfl (by omega) (fl_new _ _ _ _ _ (by simp)) 0 H).mono ?_
  rintro e w1 ⟨rfl, hb⟩
  obtain ⟨hc, hf⟩ := bcell hb
  have x0 : w1.cell? ⟨w.heap.size, 0, none⟩ = some (.int .i64 n1) := by rw [hc _ _ (by go_size)]; go_cell
  have x1 : w1.cell? ⟨w.heap.size, 1, none⟩ = some (.int .i64 d1) := by rw [hc _ _ (by go_size)]; go_cell
  have y0 : w1.cell? ⟨w.heap.size + 1, 0, none⟩ = some (.int .i64 n2) := by rw [hc _ _ (by go_size)]; go_cell
  have y1 : w1.cell? ⟨w.heap.size + 1, 1, none⟩ = some (.int .i64 d2) := by rw [hc _ _ (by go_size)]; go_cell
  have r0 : w1.cell? ⟨w.heap.size + 1 + 1, 0, none⟩ = some (.int .i64 0) := by rw [hc _ _ (by go_size)]; go_cell
  have r1 : w1.cell? ⟨w.heap.size + 1 + 1, 1, none⟩ = some (.int .i64 0) := by rw [hc _ _ (by go_size)]; go_cell
  have f0 : w1.frozen? ⟨w.heap.size + 1 + 1, 0, none⟩ = false := by rw [hf _ _ (by go_size)]; go_cell
  have f1 : w1.frozen? ⟨w.heap.size + 1 + 1, 1, none⟩ = false := by rw [hf _ _ (by go_size)]; go_cell
  have z1 : w.heap.size + 1 + 1 + 1 < w1.heap.size := by have := hb.size; simp at this; omega
  have HB1 := Lib.hid (show Below w.heap.size w w1 from Below.trans (by go_grown) (hb.mono (by simp; omega)))
  clear hc hf hb H
  go_wp2_with fail
  rw [show (n1 : Int) * (d2 : Int) + (n2 : Int) * (d1 : Int) = ((n1 * d2 + n2 * d1 : Nat) : Int) from by push_cast; rfl, show (d1 : Int) * (d2 : Int) = ((d1 * d2 : Nat) : Int) from by push_cast; rfl]
  refine (low_as _ _ p q _ (by omega) m4 (by omega) hp hq).mono ?_
  rintro e w2 ⟨rfl, hb2⟩
  obtain ⟨hc, hf⟩ := bcell hb2
  have r0b : w2.cell? ⟨w.heap.size + 1 + 1, 0, none⟩ = some (.int .i64 0) := by rw [hc _ _ (by go_size)]; go_cell
  have r1b : w2.cell? ⟨w.heap.size + 1 + 1, 1, none⟩ = some (.int .i64 0) := by rw [hc _ _ (by go_size)]; go_cell
  have f0b : w2.frozen? ⟨w.heap.size + 1 + 1, 0, none⟩ = false := by rw [hf _ _ (by go_size)]; go_cell
  have f1b : w2.frozen? ⟨w.heap.size + 1 + 1, 1, none⟩ = false := by rw [hf _ _ (by go_size)]; go_cell
  have z2 : w.heap.size + 1 + 1 < w2.heap.size := by have := hb2.size; omega
  have HB2 := HB1.out.trans (hb2.mono (by omega))
  clear hc hf hb2 r0 r1 f0 f1 x0 x1 y0 y1 k1 k2 k3 l1 l2 l3
  by_cases cp : 1000000000 < p
  · have e1 : decide ((p : Int) > 1000000000) = true := by simp; omega
    go_wp2_with fail
    refine bodyPost_ret (v := fracRes (0, 0, 2)) (by simp only [results, Tryd.results20, fracRes]; go_simp) rfl ⟨by rw [← hr.out, if_pos (Or.inr cp)], ?_⟩
    repeat' (first | (with_reducible assumption) | (with_reducible exact Below.refl _ _) | (with_reducible refine Below.setCell ?_ ?_ _) | (with_reducible refine Stm.Below.drewN ?_ _) | (with_reducible refine Below.drew ?_) | (with_reducible refine Below.alloc ?_ ?_ _) | go_size | (simp; omega))
  · have e1 : decide ((p : Int) > 1000000000) = false := by simp; omega
    by_cases cq : 1000000000 < q
    · have e2 : decide ((q : Int) > 1000000000) = true := by simp; omega
      go_wp2_with fail
      refine bodyPost_ret (v := fracRes (0, 0, 2)) (by simp only [results, Tryd.results20, fracRes]; go_simp) rfl ⟨by rw [← hr.out, if_pos (Or.inl cq)], ?_⟩
      repeat' (first | (with_reducible assumption) | (with_reducible exact Below.refl _ _) | (with_reducible refine Below.setCell ?_ ?_ _) | (with_reducible refine Stm.Below.drewN ?_ _) | (with_reducible refine Below.drew ?_) | (with_reducible refine Below.alloc ?_ ?_ _) | go_size | (simp; omega))
    · have e2 : decide ((q : Int) > 1000000000) = false := by simp; omega
      go_wp2_with fail
      refine bodyPost_ret (v := fracRes (p, q, 0)) (by simp only [results, Tryd.results20, fracRes]; go_simp) rfl ⟨by rw [← hr.out, if_neg (by omega)], ?_⟩
      repeat' (first | (with_reducible assumption) | (with_reducible exact Below.refl _ _) | (with_reducible refine Below.setCell ?_ ?_ _) | (with_reducible refine Stm.Below.drewN ?_ _) | (with_reducible refine Below.drew ?_) | (with_reducible refine Below.alloc ?_ ?_ _) | go_size | (simp; omega))

/-- Add, of whatever fractions: what the reference's AddOf hands back. -/
theorem add_ok (n1 d1 n2 d2 : Int) (w : World) :
    Calls Tryd.prog 20 #[.agg #[.int .i64 n1, .int .i64 d1], .agg #[.int .i64 n2, .int .i64 d2]] w fun e w' => e = .returned (fracRes (addR n1 d1 n2 d2)) ∧ Below w.heap.size w w' := by
  by_cases h : right n1 d1 = true ∧ right n2 d2 = true
  · obtain ⟨h1, h2⟩ := h
    obtain ⟨a, b, rfl, rfl, g1, g2, g3⟩ := right_out h1
    obtain ⟨c, d, rfl, rfl, g4, g5, g6⟩ := right_out h2
    refine add_go a b c d _ _ w h1 h2 ⟨g1, g2, g3⟩ ⟨g4, g5, g6⟩ (mul_le_big g3 g5) (mul_le_big g6 g2) (mul_le_big g2 g5) (Nat.mul_pos g1 g4) (Lib.hid rfl) (Lib.hid rfl) _ (Lib.hid ?_)
    have e1 : ((a : Int) * d + c * b).toNat = a * d + c * b := by
      rw [show (a : Int) * d + c * b = ((a * d + c * b : Nat) : Int) from by push_cast; rfl, Int.toNat_natCast]
    have e2 : ((b : Int) * d).toNat = b * d := by
      rw [show (b : Int) * d = ((b * d : Nat) : Int) from by push_cast; rfl, Int.toNat_natCast]
    simp only [addR, h1, h2, and_self, if_true, e1, e2]
  · have e : addR n1 d1 n2 d2 = (0, 0, 3) := by unfold addR; rw [if_neg h]
    rw [e]; exact add_no n1 d1 n2 d2 w h

/-- The comparison's number and error. -/
def cmpR (n1 d1 n2 d2 : Int) : Int × Int := if right n1 d1 = true ∧ right n2 d2 = true then (cmpI (n1 * d2) (n2 * d1), 0) else (0, 3)

end Go.Proofs.YtnjigaklkalebaaDoor.Frac
