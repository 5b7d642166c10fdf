/-
  THE WALK OF THE LAW FractionsAdded, over the contracts of the program's Add and Compare.
-/
import Derived.Test.YtcffhjbigcfhnaaLaw
import Derived.Test.YtcffhjbigcfhnaaFractionGen
import Derived.Test.YtcffhjbigcfhnaaAddOk
namespace Go.Proofs.Ytcffhjbigcfhnaa.Frac
open Go.ChangeShapes Go.WideShapes Go.ChangeAt Go.RowKit Stm
set_option linter.unusedVariables false

/-- What the program's Add does. -/
def AddOk : Prop := ∀ (n1 d1 n2 d2 : Int) (w : World), Calls Try.prog 5 #[.agg #[.int .i64 n1, .int .i64 d1], .agg #[.int .i64 n2, .int .i64 d2]] w fun e w' =>
  e = .returned (fracRes (addR n1 d1 n2 d2)) ∧ Below w.heap.size w w'
/-- What the program's Compare does. -/
def CompareOk : Prop := ∀ (n1 d1 n2 d2 : Int) (w : World), Calls Try.prog 7 #[.agg #[.int .i64 n1, .int .i64 d1], .agg #[.int .i64 n2, .int .i64 d2]] w fun e w' =>
  e = .returned (.tuple #[.int .i64 (cmpR n1 d1 n2 d2).1, .int .i64 (cmpR n1 d1 n2 d2).2]) ∧ Below w.heap.size w w'

theorem topics_any (hA : AddOk) (w : World) : Calls Try.prog 9 #[] w fun e w' => e = .returned (.bool true) ∧ Below w.heap.size w w' := by
  have e1 : addR 1 2 1 6 = (2, 3, 0) := by decide +kernel
  have c := hA 1 2 1 6 w
  rw [e1] at c
  have H := Lib.hid c; clear c
  go_enter Try.func9, Try.ntmps9
  go_wp2_with fail
  refine (H.out).mono ?_
  rintro e w1 ⟨rfl, hb⟩
  unfold fracRes
  go_wp2_with fail
  go_ret
  exact ⟨rfl, hb.alloc hb.size _⟩

theorem cmpR_yes {n1 d1 n2 d2 : Int} (h1 : right n1 d1 = true) (h2 : right n2 d2 = true) : cmpR n1 d1 n2 d2 = (cmpI (n1 * d2) (n2 * d1), 0) := by
  unfold cmpR; rw [if_pos ⟨h1, h2⟩]
theorem cmpR_no1 {n1 d1 n2 d2 : Int} (h1 : right n1 d1 = false) : cmpR n1 d1 n2 d2 = (0, 3) := by
  unfold cmpR; rw [if_neg (by rw [h1]; simp)]
theorem cmpR_no2 {n1 d1 n2 d2 : Int} (h1 : right n2 d2 = false) : cmpR n1 d1 n2 d2 = (0, 3) := by
  unfold cmpR; rw [if_neg (by rw [h1]; simp)]
theorem right_mul {n1 d1 n2 d2 : Int} (h1 : right n1 d1 = true) (h2 : right n2 d2 = true) : 0 ≤ n1 * d2 ∧ n1 * d2 ≤ 1000000000000000000 := by
  obtain ⟨a, b, rfl, rfl, g1, g2, g3⟩ := right_out h1
  obtain ⟨c, d, rfl, rfl, g4, g5, g6⟩ := right_out h2
  have h := mul_le_big g3 g5
  exact ⟨Int.mul_nonneg (Int.natCast_nonneg _) (Int.natCast_nonneg _), by omega⟩

set_option maxHeartbeats 2000000 in
theorem law_any (hA : AddOk) (hC : CompareOk) (a0 : Option Addr) (len0 cap0 : Nat) (z0 : List Int) (w : World) (w0 : IsRow .i64 w a0 len0 cap0 z0) :
    Calls Try.prog 3 #[.slice a0 len0 cap0] w fun e w' => e = .returned (.bool true) ∧ Below w.heap.size w w' := by
  have hs0 := strm_new w0
  clear w0
  go_enter Try.func3, Try.ntmps3
  go_wp2_with fail
  refine (fraction_any _ _ _ hs0 (by omega)).mono ?_
  rintro e w1 ⟨n1, d1, p1, p2, p3, p4, rfl, g1, s1⟩
  go_wp2_with fail
  refine (fraction_any _ _ _ s1 (by omega)).mono ?_
  rintro e w2 ⟨n2, d2, p5, p6, p7, p8, rfl, g2, s2⟩
  have hb2 : Below w.heap.size w w2 := ((Below.refl _ _).alloc (Nat.le_refl _) _).trans ((g1.toBelow (Nat.le_refl _) (by simp)).trans (g2.toBelow (Nat.le_refl _) (by have := g1.size; simp at this; omega)))
  clear hs0 g1 s1 g2 s2
  obtain ⟨p, q, er, hr⟩ : ∃ p q er, addR n1 d1 n2 d2 = (p, q, er) := ⟨_, _, _, rfl⟩
  have A1 := fun w => hA n1 d1 n2 d2 w
  have A2 := fun w => add_any n1 d1 n2 d2 w
  rw [hr] at A1 A2
  simp only [fracRes] at A1 A2
  have HA1 := Lib.hid A1; have HA2 := Lib.hid A2
  clear A1 A2 hr
  by_cases r1 : right n1 d1 = true
  · by_cases r2 : right n2 d2 = true
    · have C1 := fun w => hC n1 d1 n2 d2 w
      obtain ⟨m1, m2⟩ := right_mul r1 r2
      obtain ⟨m3, m4⟩ := right_mul r2 r1
      have C2 := fun w => compared_any n1 d1 n2 d2 w (by omega) (by omega) (by omega) (by omega)
      rw [cmpR_yes r1 r2] at C1
      simp only [] at C1
      obtain ⟨c, hc⟩ : ∃ c, cmpI (n1 * d2) (n2 * d1) = c := ⟨_, rfl⟩
      rw [hc] at C1 C2
      have HC1 := Lib.hid C1; have HC2 := Lib.hid C2
      have R1 := Lib.hid r1; have R2 := Lib.hid r2
      clear C1 C2 hc m1 m2 m3 m4 r1 r2
      go_wp2_with fail
      refine (HA1.out _).mono ?_
      rintro e w3 ⟨rfl, hb3⟩
      have A3 := ((Cells2.new w2 n1 d1 27).alloc _).below hb3
      have B3 : Cells2 (w2.heap.size + 1) n2 d2 w3 := by simpa using (Cells2.new (w2.alloc _) n2 d2 27).below hb3
      have z3 : w.heap.size ≤ w3.heap.size := by have h1 := hb2.size; have h2 := hb3.size; simp at h2; omega
      have hb := (hb2.trans (Below.alloc (Below.alloc (Below.refl _ _) hb2.size _) (by simp; have := hb2.size; omega) _)).trans (hb3.mono (by have := hb2.size; simp; omega))
      clear hb2 hb3 HA1
      have HB3 := Lib.hid hb; clear hb
      obtain ⟨a0', a1', a2', a3', a4'⟩ := A3
      obtain ⟨b0', b1', b2', b3', b4'⟩ := B3
      have A3 : Hid (Cells2 w2.heap.size n1 d1 w3) := Lib.hid ⟨a0', a1', a2', a3', a4'⟩
      have B3 : Hid (Cells2 (w2.heap.size + 1) n2 d2 w3) := Lib.hid ⟨b0', b1', b2', b3', b4'⟩
      go_wp2_with fail
      refine (HA2.out _).mono ?_
      rintro e w4 ⟨rfl, hb4⟩
      have A4 := (A3.out.alloc _).below hb4
      have B4 := (B3.out.alloc _).below hb4
      have X4 := (Cells2.new w3 p q 27).below hb4
      have HB4 := Lib.hid ((HB3.out.alloc z3 _).trans (hb4.mono (by simp; omega)))
      have z4 : w.heap.size ≤ w4.heap.size := HB4.out.size
      clear a0' a1' a2' a3' a4' b0' b1' b2' b3' b4' A3 B3 HB3 hb4 HA2 z3
      obtain ⟨a0', a1', a2', a3', a4'⟩ := A4
      obtain ⟨b0', b1', b2', b3', b4'⟩ := B4
      obtain ⟨x0', x1', x2', x3', x4'⟩ := X4
      have A4 : Hid (Cells2 w2.heap.size n1 d1 w4) := Lib.hid ⟨a0', a1', a2', a3', a4'⟩
      have B4 : Hid (Cells2 (w2.heap.size + 1) n2 d2 w4) := Lib.hid ⟨b0', b1', b2', b3', b4'⟩
      have Y4 : Hid (Cells2 w4.heap.size p q (w4.alloc (.cells #[.int .i64 p, .int .i64 q] 27))) := Lib.hid (Cells2.new w4 p q _)
      go_wp2_with fail
      refine (HC1.out _).mono ?_
      rintro e w5 ⟨rfl, hb5⟩
      have A5 := (A4.out.alloc _).below hb5
      have B5 := (B4.out.alloc _).below hb5
      have HB5 := Lib.hid ((HB4.out.alloc z4 _).trans (hb5.mono (by simp; omega)))
      have z5 : w.heap.size ≤ w5.heap.size := HB5.out.size
      clear a0' a1' a2' a3' a4' b0' b1' b2' b3' b4' x0' x1' x2' x3' x4' A4 B4 Y4 HB4 hb5 HC1 z4
      obtain ⟨a0', a1', a2', a3', a4'⟩ := A5
      obtain ⟨b0', b1', b2', b3', b4'⟩ := B5
      have A5 : Hid (Cells2 w2.heap.size n1 d1 w5) := Lib.hid ⟨a0', a1', a2', a3', a4'⟩
      have B5 : Hid (Cells2 (w2.heap.size + 1) n2 d2 w5) := Lib.hid ⟨b0', b1', b2', b3', b4'⟩
      go_wp2_with fail
      refine (right_t _ _ _ R1.out).mono ?_
      rintro e w6 ⟨rfl, hb6⟩
      have A6 := A5.out.below hb6
      have B6 := B5.out.below hb6
      have HB6 := Lib.hid (HB5.out.trans (hb6.mono z5))
      have z6 : w.heap.size ≤ w6.heap.size := HB6.out.size
      clear a0' a1' a2' a3' a4' b0' b1' b2' b3' b4' A5 B5 HB5 hb6 z5
      obtain ⟨a0', a1', a2', a3', a4'⟩ := A6
      obtain ⟨b0', b1', b2', b3', b4'⟩ := B6
      have A6 : Hid (Cells2 w2.heap.size n1 d1 w6) := Lib.hid ⟨a0', a1', a2', a3', a4'⟩
      have B6 : Hid (Cells2 (w2.heap.size + 1) n2 d2 w6) := Lib.hid ⟨b0', b1', b2', b3', b4'⟩
      go_wp2_with fail
      refine (right_t _ _ _ R2.out).mono ?_
      rintro e w7 ⟨rfl, hb7⟩
      have A7 := A6.out.below hb7
      have B7 := B6.out.below hb7
      have HB7 := Lib.hid (HB6.out.trans (hb7.mono z6))
      have z7 : w.heap.size ≤ w7.heap.size := HB7.out.size
      clear a0' a1' a2' a3' a4' b0' b1' b2' b3' b4' A6 B6 HB6 hb7 z6
      obtain ⟨a0', a1', a2', a3', a4'⟩ := A7
      obtain ⟨b0', b1', b2', b3', b4'⟩ := B7
      have A7 : Hid (Cells2 w2.heap.size n1 d1 w7) := Lib.hid ⟨a0', a1', a2', a3', a4'⟩
      have B7 : Hid (Cells2 (w2.heap.size + 1) n2 d2 w7) := Lib.hid ⟨b0', b1', b2', b3', b4'⟩
      go_wp2_with fail
      refine (topics_any hA _).mono ?_
      rintro e w8 ⟨rfl, hb8⟩
      have A8 := A7.out.below hb8
      have B8 := B7.out.below hb8
      have HB8 := Lib.hid (HB7.out.trans (hb8.mono z7))
      have z8 : w.heap.size ≤ w8.heap.size := HB8.out.size
      clear a0' a1' a2' a3' a4' b0' b1' b2' b3' b4' A7 B7 HB7 hb8 z7
      obtain ⟨a0', a1', a2', a3', a4'⟩ := A8
      obtain ⟨b0', b1', b2', b3', b4'⟩ := B8
      have A8 : Hid (Cells2 w2.heap.size n1 d1 w8) := Lib.hid ⟨a0', a1', a2', a3', a4'⟩
      have B8 : Hid (Cells2 (w2.heap.size + 1) n2 d2 w8) := Lib.hid ⟨b0', b1', b2', b3', b4'⟩
      go_wp2_with fail
      refine (HC2.out _).mono ?_
      rintro e w9 ⟨rfl, hb9⟩
      have A9 := A8.out.below hb9
      have B9 := B8.out.below hb9
      have HB9 := Lib.hid (HB8.out.trans (hb9.mono z8))
      have z9 : w.heap.size ≤ w9.heap.size := HB9.out.size
      clear a0' a1' a2' a3' a4' b0' b1' b2' b3' b4' A8 B8 HB8 hb9 z8
      obtain ⟨a0', a1', a2', a3', a4'⟩ := A9
      obtain ⟨b0', b1', b2', b3', b4'⟩ := B9
      have A9 : Hid (Cells2 w2.heap.size n1 d1 w9) := Lib.hid ⟨a0', a1', a2', a3', a4'⟩
      have B9 : Hid (Cells2 (w2.heap.size + 1) n2 d2 w9) := Lib.hid ⟨b0', b1', b2', b3', b4'⟩
      go_wp2_with fail
      go_ret
      exact ⟨rfl, HB9.out⟩
    · have r2 : right n2 d2 = false := by simpa using r2
      have C1 := fun w => hC n1 d1 n2 d2 w
      rw [cmpR_no2 r2] at C1
      simp only [] at C1
      have HC1 := Lib.hid C1
      have R1 := Lib.hid r1; have R2 := Lib.hid r2
      clear C1 r1 r2
      go_wp2_with fail
      refine (HA1.out _).mono ?_
      rintro e w3 ⟨rfl, hb3⟩
      have A3 := ((Cells2.new w2 n1 d1 27).alloc _).below hb3
      have B3 : Cells2 (w2.heap.size + 1) n2 d2 w3 := by simpa using (Cells2.new (w2.alloc _) n2 d2 27).below hb3
      have z3 : w.heap.size ≤ w3.heap.size := by have h1 := hb2.size; have h2 := hb3.size; simp at h2; omega
      have hb := (hb2.trans (Below.alloc (Below.alloc (Below.refl _ _) hb2.size _) (by simp; have := hb2.size; omega) _)).trans (hb3.mono (by have := hb2.size; simp; omega))
      clear hb2 hb3 HA1
      have HB3 := Lib.hid hb; clear hb
      obtain ⟨a0', a1', a2', a3', a4'⟩ := A3
      obtain ⟨b0', b1', b2', b3', b4'⟩ := B3
      have A3 : Hid (Cells2 w2.heap.size n1 d1 w3) := Lib.hid ⟨a0', a1', a2', a3', a4'⟩
      have B3 : Hid (Cells2 (w2.heap.size + 1) n2 d2 w3) := Lib.hid ⟨b0', b1', b2', b3', b4'⟩
      go_wp2_with fail
      refine (HA2.out _).mono ?_
      rintro e w4 ⟨rfl, hb4⟩
      have A4 := (A3.out.alloc _).below hb4
      have B4 := (B3.out.alloc _).below hb4
      have X4 := (Cells2.new w3 p q 27).below hb4
      have HB4 := Lib.hid ((HB3.out.alloc z3 _).trans (hb4.mono (by simp; omega)))
      have z4 : w.heap.size ≤ w4.heap.size := HB4.out.size
      clear a0' a1' a2' a3' a4' b0' b1' b2' b3' b4' A3 B3 HB3 hb4 HA2 z3
      obtain ⟨a0', a1', a2', a3', a4'⟩ := A4
      obtain ⟨b0', b1', b2', b3', b4'⟩ := B4
      obtain ⟨x0', x1', x2', x3', x4'⟩ := X4
      have A4 : Hid (Cells2 w2.heap.size n1 d1 w4) := Lib.hid ⟨a0', a1', a2', a3', a4'⟩
      have B4 : Hid (Cells2 (w2.heap.size + 1) n2 d2 w4) := Lib.hid ⟨b0', b1', b2', b3', b4'⟩
      have Y4 : Hid (Cells2 w4.heap.size p q (w4.alloc (.cells #[.int .i64 p, .int .i64 q] 27))) := Lib.hid (Cells2.new w4 p q _)
      go_wp2_with fail
      refine (HC1.out _).mono ?_
      rintro e w5 ⟨rfl, hb5⟩
      have A5 := (A4.out.alloc _).below hb5
      have B5 := (B4.out.alloc _).below hb5
      have HB5 := Lib.hid ((HB4.out.alloc z4 _).trans (hb5.mono (by simp; omega)))
      have z5 : w.heap.size ≤ w5.heap.size := HB5.out.size
      clear a0' a1' a2' a3' a4' b0' b1' b2' b3' b4' x0' x1' x2' x3' x4' A4 B4 Y4 HB4 hb5 HC1 z4
      obtain ⟨a0', a1', a2', a3', a4'⟩ := A5
      obtain ⟨b0', b1', b2', b3', b4'⟩ := B5
      have A5 : Hid (Cells2 w2.heap.size n1 d1 w5) := Lib.hid ⟨a0', a1', a2', a3', a4'⟩
      have B5 : Hid (Cells2 (w2.heap.size + 1) n2 d2 w5) := Lib.hid ⟨b0', b1', b2', b3', b4'⟩
      go_wp2_with fail
      refine (right_t _ _ _ R1.out).mono ?_
      rintro e w6 ⟨rfl, hb6⟩
      have A6 := A5.out.below hb6
      have B6 := B5.out.below hb6
      have HB6 := Lib.hid (HB5.out.trans (hb6.mono z5))
      have z6 : w.heap.size ≤ w6.heap.size := HB6.out.size
      clear a0' a1' a2' a3' a4' b0' b1' b2' b3' b4' A5 B5 HB5 hb6 z5
      obtain ⟨a0', a1', a2', a3', a4'⟩ := A6
      obtain ⟨b0', b1', b2', b3', b4'⟩ := B6
      have A6 : Hid (Cells2 w2.heap.size n1 d1 w6) := Lib.hid ⟨a0', a1', a2', a3', a4'⟩
      have B6 : Hid (Cells2 (w2.heap.size + 1) n2 d2 w6) := Lib.hid ⟨b0', b1', b2', b3', b4'⟩
      go_wp2_with fail
      refine (right_f _ _ _ R2.out).mono ?_
      rintro e w7 ⟨rfl, hb7⟩
      have A7 := A6.out.below hb7
      have B7 := B6.out.below hb7
      have HB7 := Lib.hid (HB6.out.trans (hb7.mono z6))
      have z7 : w.heap.size ≤ w7.heap.size := HB7.out.size
      clear a0' a1' a2' a3' a4' b0' b1' b2' b3' b4' A6 B6 HB6 hb7 z6
      obtain ⟨a0', a1', a2', a3', a4'⟩ := A7
      obtain ⟨b0', b1', b2', b3', b4'⟩ := B7
      have A7 : Hid (Cells2 w2.heap.size n1 d1 w7) := Lib.hid ⟨a0', a1', a2', a3', a4'⟩
      have B7 : Hid (Cells2 (w2.heap.size + 1) n2 d2 w7) := Lib.hid ⟨b0', b1', b2', b3', b4'⟩
      go_wp2_with fail
      refine (topics_any hA _).mono ?_
      rintro e w8 ⟨rfl, hb8⟩
      have A8 := A7.out.below hb8
      have B8 := B7.out.below hb8
      have HB8 := Lib.hid (HB7.out.trans (hb8.mono z7))
      have z8 : w.heap.size ≤ w8.heap.size := HB8.out.size
      clear a0' a1' a2' a3' a4' b0' b1' b2' b3' b4' A7 B7 HB7 hb8 z7
      obtain ⟨a0', a1', a2', a3', a4'⟩ := A8
      obtain ⟨b0', b1', b2', b3', b4'⟩ := B8
      have A8 : Hid (Cells2 w2.heap.size n1 d1 w8) := Lib.hid ⟨a0', a1', a2', a3', a4'⟩
      have B8 : Hid (Cells2 (w2.heap.size + 1) n2 d2 w8) := Lib.hid ⟨b0', b1', b2', b3', b4'⟩
      go_wp2_with fail
      go_ret
      exact ⟨rfl, HB8.out⟩
  · have r1 : right n1 d1 = false := by simpa using r1
    have C1 := fun w => hC n1 d1 n2 d2 w
    rw [cmpR_no1 r1] at C1
    simp only [] at C1
    have HC1 := Lib.hid C1
    have R1 := Lib.hid r1
    clear C1 r1
    go_wp2_with fail
    refine (HA1.out _).mono ?_
    rintro e w3 ⟨rfl, hb3⟩
    have A3 := ((Cells2.new w2 n1 d1 27).alloc _).below hb3
    have B3 : Cells2 (w2.heap.size + 1) n2 d2 w3 := by simpa using (Cells2.new (w2.alloc _) n2 d2 27).below hb3
    have z3 : w.heap.size ≤ w3.heap.size := by have h1 := hb2.size; have h2 := hb3.size; simp at h2; omega
    have hb := (hb2.trans (Below.alloc (Below.alloc (Below.refl _ _) hb2.size _) (by simp; have := hb2.size; omega) _)).trans (hb3.mono (by have := hb2.size; simp; omega))
    clear hb2 hb3 HA1
    have HB3 := Lib.hid hb; clear hb
    obtain ⟨a0', a1', a2', a3', a4'⟩ := A3
    obtain ⟨b0', b1', b2', b3', b4'⟩ := B3
    have A3 : Hid (Cells2 w2.heap.size n1 d1 w3) := Lib.hid ⟨a0', a1', a2', a3', a4'⟩
    have B3 : Hid (Cells2 (w2.heap.size + 1) n2 d2 w3) := Lib.hid ⟨b0', b1', b2', b3', b4'⟩
    go_wp2_with fail
    refine (HA2.out _).mono ?_
    rintro e w4 ⟨rfl, hb4⟩
    have A4 := (A3.out.alloc _).below hb4
    have B4 := (B3.out.alloc _).below hb4
    have X4 := (Cells2.new w3 p q 27).below hb4
    have HB4 := Lib.hid ((HB3.out.alloc z3 _).trans (hb4.mono (by simp; omega)))
    have z4 : w.heap.size ≤ w4.heap.size := HB4.out.size
    clear a0' a1' a2' a3' a4' b0' b1' b2' b3' b4' A3 B3 HB3 hb4 HA2 z3
    obtain ⟨a0', a1', a2', a3', a4'⟩ := A4
    obtain ⟨b0', b1', b2', b3', b4'⟩ := B4
    obtain ⟨x0', x1', x2', x3', x4'⟩ := X4
    have A4 : Hid (Cells2 w2.heap.size n1 d1 w4) := Lib.hid ⟨a0', a1', a2', a3', a4'⟩
    have B4 : Hid (Cells2 (w2.heap.size + 1) n2 d2 w4) := Lib.hid ⟨b0', b1', b2', b3', b4'⟩
    have Y4 : Hid (Cells2 w4.heap.size p q (w4.alloc (.cells #[.int .i64 p, .int .i64 q] 27))) := Lib.hid (Cells2.new w4 p q _)
    go_wp2_with fail
    refine (HC1.out _).mono ?_
    rintro e w5 ⟨rfl, hb5⟩
    have A5 := (A4.out.alloc _).below hb5
    have B5 := (B4.out.alloc _).below hb5
    have HB5 := Lib.hid ((HB4.out.alloc z4 _).trans (hb5.mono (by simp; omega)))
    have z5 : w.heap.size ≤ w5.heap.size := HB5.out.size
    clear a0' a1' a2' a3' a4' b0' b1' b2' b3' b4' x0' x1' x2' x3' x4' A4 B4 Y4 HB4 hb5 HC1 z4
    obtain ⟨a0', a1', a2', a3', a4'⟩ := A5
    obtain ⟨b0', b1', b2', b3', b4'⟩ := B5
    have A5 : Hid (Cells2 w2.heap.size n1 d1 w5) := Lib.hid ⟨a0', a1', a2', a3', a4'⟩
    have B5 : Hid (Cells2 (w2.heap.size + 1) n2 d2 w5) := Lib.hid ⟨b0', b1', b2', b3', b4'⟩
    go_wp2_with fail
    refine (right_f _ _ _ R1.out).mono ?_
    rintro e w6 ⟨rfl, hb6⟩
    have A6 := A5.out.below hb6
    have B6 := B5.out.below hb6
    have HB6 := Lib.hid (HB5.out.trans (hb6.mono z5))
    have z6 : w.heap.size ≤ w6.heap.size := HB6.out.size
    clear a0' a1' a2' a3' a4' b0' b1' b2' b3' b4' A5 B5 HB5 hb6 z5
    obtain ⟨a0', a1', a2', a3', a4'⟩ := A6
    obtain ⟨b0', b1', b2', b3', b4'⟩ := B6
    have A6 : Hid (Cells2 w2.heap.size n1 d1 w6) := Lib.hid ⟨a0', a1', a2', a3', a4'⟩
    have B6 : Hid (Cells2 (w2.heap.size + 1) n2 d2 w6) := Lib.hid ⟨b0', b1', b2', b3', b4'⟩
    go_wp2_with fail
    refine (topics_any hA _).mono ?_
    rintro e w7 ⟨rfl, hb7⟩
    have A7 := A6.out.below hb7
    have B7 := B6.out.below hb7
    have HB7 := Lib.hid (HB6.out.trans (hb7.mono z6))
    have z7 : w.heap.size ≤ w7.heap.size := HB7.out.size
    clear a0' a1' a2' a3' a4' b0' b1' b2' b3' b4' A6 B6 HB6 hb7 z6
    obtain ⟨a0', a1', a2', a3', a4'⟩ := A7
    obtain ⟨b0', b1', b2', b3', b4'⟩ := B7
    have A7 : Hid (Cells2 w2.heap.size n1 d1 w7) := Lib.hid ⟨a0', a1', a2', a3', a4'⟩
    have B7 : Hid (Cells2 (w2.heap.size + 1) n2 d2 w7) := Lib.hid ⟨b0', b1', b2', b3', b4'⟩
    go_wp2_with fail
    go_ret
    exact ⟨rfl, HB7.out⟩

end Go.Proofs.Ytcffhjbigcfhnaa.Frac
