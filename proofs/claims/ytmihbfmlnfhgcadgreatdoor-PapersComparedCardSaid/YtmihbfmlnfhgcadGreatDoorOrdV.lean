/-
  THE ORDER OF PAPERS: exact.Whole, discuss.value, discuss.reaches.
-/
import Derived.Test.YtmihbfmlnfhgcadGreatDoorFcmp
namespace Go.Proofs.YtmihbfmlnfhgcadGreatDoor.Cal
open Go.Shelf
open Go.ChangeShapes Go.WideShapes Go.ChangeAt Go.RowKit Stm Key
set_option linter.unusedVariables false

theorem whole_any (z : Int) (w : World) : Calls Tryz.prog 63 #[.int .i64 z] w fun e w' => e = .returned (.agg #[.int .i64 z, .int .i64 1]) ∧ Below w.heap.size w w' := by
  go_enter Tryz.func63, Tryz.ntmps63
  go_wp2_with fail
  exact bodyPost_ret (v := .agg #[.int .i64 z, .int .i64 1]) (by simp only [results, Tryz.results63]; go_simp) rfl ⟨rfl, by repeat' (first | (with_reducible exact Below.refl _ _) | (with_reducible refine Below.setCell ?_ ?_ _) | (with_reducible refine Below.alloc ?_ ?_ _) | go_size)⟩
theorem blk_fracV {w : World} {B : Nat} (h : Blk w B 71 #[.int .i64 0, .int .i64 0]) : w.frozen? ⟨B, 0, none⟩ = false ∧ w.frozen? ⟨B, 1, none⟩ = false ∧ w.cell? ⟨B, 0, none⟩ = some (.int .i64 0) ∧ w.cell? ⟨B, 1, none⟩ = some (.int .i64 0) :=
  ⟨h.frozen 0, h.frozen 1, h.cell 0 _ rfl, h.cell 1 _ rfl⟩
theorem reaches_any (a b z : Int) (w : World) (ha : -1000000 ≤ a) (ha2 : a ≤ 1000000) (hb : -1000000 ≤ z * b) (hb2 : z * b ≤ 1000000) : Calls Tryz.prog 45 #[.agg #[.int .i64 a, .int .i64 b], .int .i64 z] w fun e w' => e = .returned (.bool (decide (z * b ≤ 10 * a))) ∧ Below w.heap.size w w' := by
  have HW1 : IntKind.i64.wrap (10 * a) = 10 * a := IntWalk.i64_in _ (by omega)
  have HW2 : IntKind.i64.wrap (z * b) = z * b := IntWalk.i64_in _ (by omega)
  go_enter Tryz.func45, Tryz.ntmps45
  go_wp2_with fail
  go_ret
  exact ⟨by simp, by go_grown⟩
set_option maxRecDepth 100000 in
set_option maxHeartbeats 4000000 in
theorem value_walk (k : Int) (A : Option Addr) (m c : Nat) (s : List Int) (w : World) (hs : s.length = m) (hm : m ≤ 256) (hI : IL w A s) (v : Int × Int) (hv : frP k s = v) :
    Calls Tryz.prog 47 #[.int .i64 k, .slice A m c] w fun e w' => e = .returned (.agg #[.int .i64 v.1, .int .i64 v.2]) ∧ Below w.heap.size w w' := by
  have X0 := Lib.hid (Blk.new w 71 #[.int .i64 0, .int .i64 0])
  have B0 := Lib.hid ((Below.refl w.heap.size w).alloc (Nat.le_refl _) (.cells #[.int .i64 0, .int .i64 0] 71))
  have I0 := Lib.hid (hI.below B0.out)
  have HS := Lib.hid hs
  have HV := Lib.hid hv
  have FIN : Hid (∀ (W W' : World) (a b : Int), Below w.heap.size w W → Below W.heap.size W W' → Below w.heap.size w ((W'.setCell ⟨w.heap.size, 0, none⟩ (.int .i64 a)).setCell ⟨w.heap.size, 1, none⟩ (.int .i64 b))) := Lib.hid (fun W W' a b h h2 => ((h.trans (h2.mono h.size)).setCell (p := ⟨w.heap.size, 0, none⟩) (Nat.le_refl _) _).setCell (p := ⟨w.heap.size, 1, none⟩) (Nat.le_refl _) _)
  clear hI hs hv
  go_enter Tryz.func47, Tryz.ntmps47
  go_upto_region 1 with fail
  generalize hwa : w.alloc (.cells #[.int .i64 0, .int .i64 0] 71) = wa at *
  clear hwa
  have hlw := X0.out.lt
  by_cases h4 : k = 4
  · subst h4
    have HE := Lib.hid (show ((m : Int), (1 : Int)) = v by rw [← HV.out, ← HS.out]; rfl)
    go_wp2_with fail
    refine (whole_any m wa).mono ?_; rintro e w1 ⟨rfl, hb1⟩
    have X1 := X0.out.below hb1 X0.out.lt
    obtain ⟨f0, f1, q0, q1⟩ := blk_fracV X1
    have HB1 := Lib.hid hb1
    clear hb1 X1
    go_wp2_with fail
    exact bodyPost_ret (v := .agg #[.int .i64 m, .int .i64 1]) (by simp only [results, Tryz.results47]; go_simp) rfl ⟨by rw [← HE.out], FIN.out _ _ _ _ B0.out HB1.out⟩
  have e4 : (k == 4) = false := by simpa using h4
  by_cases h0 : m = 0
  · subst h0
    have HE := Lib.hid (show ((-1 : Int), (1 : Int)) = v by rw [← HV.out]; unfold frP; rw [if_neg h4, if_pos HS.out])
    clear h4
    go_wp2_with fail
    refine (whole_any (-1) wa).mono ?_; rintro e w1 ⟨rfl, hb1⟩
    have X1 := X0.out.below hb1 X0.out.lt
    obtain ⟨f0, f1, q0, q1⟩ := blk_fracV X1
    have HB1 := Lib.hid hb1
    clear hb1 X1
    go_wp2_with fail
    exact bodyPost_ret (v := .agg #[.int .i64 (-1), .int .i64 1]) (by simp only [results, Tryz.results47]; go_simp) rfl ⟨by rw [← HE.out], FIN.out _ _ _ _ B0.out HB1.out⟩
  have e0 : ((m : Int) == 0) = false := by simp; omega
  have HV2 := Lib.hid (show (if k = 1 then lowZ (sumI s) (m : Int) else if k = 2 then (s[0]?.getD 0, 1) else if k = 3 then (s[m - 1]?.getD 0, 1) else (s[(m - 1) / 2]?.getD 0, 1)) = v by
    rw [← HV.out]; unfold frP; rw [if_neg h4, if_neg (show ¬ s.length = 0 by rw [HS.out]; exact h0), HS.out])
  obtain ⟨b, hA, hbl, hcl⟩ := I0.out.2 (by rw [HS.out]; omega)
  subst hA
  have HCL := Lib.hid hcl
  have hm0 : 0 < m := by omega
  clear hcl h4 h0
  by_cases h1 : k = 1
  · subst h1
    have HE := Lib.hid (show lowZ (sumI s) (m : Int) = v by have := HV2.out; rwa [if_pos rfl] at this)
    have HM := Lib.hid (mean_walk (some ⟨b, 0, none⟩) m c s wa HS.out (by omega) hm0 I0.out)
    obtain ⟨u, hu⟩ : ∃ u, lowZ (sumI s) (m : Int) = u := ⟨_, rfl⟩
    rw [hu] at HM HE
    clear hu
    go_wp2_with fail
    refine (HM.out).mono ?_; rintro e w1 ⟨rfl, hb1⟩
    have X1 := X0.out.below hb1 X0.out.lt
    obtain ⟨f0, f1, q0, q1⟩ := blk_fracV X1
    have HB1 := Lib.hid hb1
    clear hb1 X1 HM
    go_wp2_with fail
    exact bodyPost_ret (v := .agg #[.int .i64 u.1, .int .i64 u.2]) (by simp only [results, Tryz.results47]; go_simp) rfl ⟨by rw [← HE.out], FIN.out _ _ _ _ B0.out HB1.out⟩
  have e1 : (k == 1) = false := by simpa using h1
  by_cases h2 : k = 2
  · subst h2
    have hl : 0 < s.length := by rw [HS.out]; exact hm0
    have c0 := HCL.out 0 hl
    have HE := Lib.hid (show (s[0], (1 : Int)) = v by have := HV2.out; rw [if_neg (by decide), if_pos rfl] at this; simpa [hl] using this)
    generalize s[0] = z at *
    have a1 : (0 : Int) < (m : Int) := by omega
    clear h1
    go_wp2_with fail
    refine (whole_any z wa).mono ?_; rintro e w1 ⟨rfl, hb1⟩
    have X1 := X0.out.below hb1 X0.out.lt
    obtain ⟨f0, f1, q0, q1⟩ := blk_fracV X1
    have HB1 := Lib.hid hb1
    clear hb1 X1 c0
    go_wp2_with fail
    exact bodyPost_ret (v := .agg #[.int .i64 z, .int .i64 1]) (by simp only [results, Tryz.results47]; go_simp) rfl ⟨by rw [← HE.out], FIN.out _ _ _ _ B0.out HB1.out⟩
  have e2 : (k == 2) = false := by simpa using h2
  by_cases h3 : k = 3
  · subst h3
    have hl : m - 1 < s.length := by rw [HS.out]; omega
    have c0 := HCL.out (m - 1) hl
    have HE := Lib.hid (show (s[m - 1], (1 : Int)) = v by have := HV2.out; rw [if_neg (by decide), if_neg (by decide), if_pos rfl] at this; rw [List.getElem?_eq_getElem hl] at this; exact this)
    generalize s[m - 1] = z at *
    obtain ⟨j, rfl⟩ : ∃ j, m = j + 1 := ⟨m - 1, by omega⟩
    have c1 : wa.cell? ⟨b, j, none⟩ = some (.int .i64 z) := c0
    have hw : IntKind.i64.wrap (((j + 1 : Nat) : Int) - 1) = (j : Int) := by rw [IntWalk.i64_in _ (by omega)]; omega
    have a0 : (0 : Int) ≤ (j : Int) := by omega
    clear c0 h1 h2
    go_wp2_with fail
    refine (whole_any z wa).mono ?_; rintro e w1 ⟨rfl, hb1⟩
    have X1 := X0.out.below hb1 X0.out.lt
    obtain ⟨f0, f1, q0, q1⟩ := blk_fracV X1
    have HB1 := Lib.hid hb1
    clear hb1 X1 c1
    go_wp2_with fail
    exact bodyPost_ret (v := .agg #[.int .i64 z, .int .i64 1]) (by simp only [results, Tryz.results47]; go_simp) rfl ⟨by rw [← HE.out], FIN.out _ _ _ _ B0.out HB1.out⟩
  have e3 : (k == 3) = false := by simpa using h3
  have hl : (m - 1) / 2 < s.length := by rw [HS.out]; omega
  have c0 := HCL.out ((m - 1) / 2) hl
  have HE := Lib.hid (show (s[(m - 1) / 2], (1 : Int)) = v by have := HV2.out; rw [if_neg h1, if_neg h2, if_neg h3] at this; rw [List.getElem?_eq_getElem hl] at this; exact this)
  generalize s[(m - 1) / 2] = z at *
  have hw : IntKind.i64.wrap ((m : Int) - 1) = ((m - 1 : Nat) : Int) := by rw [IntWalk.i64_in _ (by omega)]; omega
  clear h1 h2 h3
  obtain ⟨j, hj⟩ : ∃ j, m - 1 = j := ⟨_, rfl⟩
  rw [hj] at c0 hw
  have hjm : j < m := by omega
  have hjm2 : j / 2 < m := by omega
  have a0 : (0 : Int) ≤ (j : Int) / 2 := by omega
  clear hj hl
  go_wp2_with fail
  refine (whole_any z wa).mono ?_; rintro e w1 ⟨rfl, hb1⟩
  have X1 := X0.out.below hb1 X0.out.lt
  obtain ⟨f0, f1, q0, q1⟩ := blk_fracV X1
  have HB1 := Lib.hid hb1
  clear hb1 X1 c0
  go_wp2_with fail
  exact bodyPost_ret (v := .agg #[.int .i64 z, .int .i64 1]) (by simp only [results, Tryz.results47]; go_simp) rfl ⟨by rw [← HE.out], FIN.out _ _ _ _ B0.out HB1.out⟩
end Go.Proofs.YtmihbfmlnfhgcadGreatDoor.Cal
