/-
  THE WALK OF THE LAW SheetChecks, over its contracts.
-/
import Derived.Test.YthglfcfnejjpjaaGreatDoorLaw
import Derived.Test.YthglfcfnejjpjaaGreatDoorAnsGen
import Derived.Test.YthglfcfnejjpjaaGreatDoorSheetU
import Derived.Test.YthglfcfnejjpjaaGreatDoorEqual
import Derived.Test.YthglfcfnejjpjaaGreatDoorAsk2
namespace Go.Proofs.YthglfcfnejjpjaaGreatDoor.Rev
open Go.ChangeShapes Go.WideShapes Go.ChangeAt Go.RowKit Stm Key
set_option linter.unusedVariables false

theorem ne_self (r : Int) : (r != r) = false := by simp

set_option maxRecDepth 100000 in
set_option maxHeartbeats 8000000 in
theorem law_sheets (a0 : Option Addr) (len0 cap0 : Nat) (z0 : List Int) (w : World) (w0 : IsRow .i64 w a0 len0 cap0 z0) (hg : gTop2 ≤ w.heap.size) (hT : Tab2 w) :
    Calls Tryz.prog 3 #[.slice a0 len0 cap0] w fun e w' => e = .returned (.bool true) ∧ Below w.heap.size w w' := by
  have hs0 := strm_new w0
  have g0 : Below w.heap.size w (w.alloc (.cells #[.slice a0 len0 cap0, .int .i64 0] 25)) := (Below.refl _ _).alloc (Nat.le_refl _) _
  clear w0
  have HT := Lib.hid hT
  clear hT
  go_enter Tryz.func3, Tryz.ntmps3
  go_wp2_with fail
  refine (sheet_any _ 0 _ hs0 (by omega)).mono ?_
  rintro e w1 ⟨A, n, c, qs, rfl, hl, hn5, hnc, hq, hgr, hs1⟩
  have G1 := Lib.hid (g0.trans (hgr.toBelow (Nat.le_refl _) (by simp)))
  have S1 := Lib.hid hs1
  have Q1 := Lib.hid hq
  have HL := Lib.hid hl
  clear hgr hs0 g0 hs1 hq hl
  go_wp2_with fail
  refine (answers_any _ 13 A n c qs _ S1.out (by omega) HL.out hn5 Q1.out).mono ?_
  rintro e w2 ⟨A1, n1, c1, la, rfl, hl1, hn1, hnc1, ha, hat, hgr, hs2⟩
  have G2 := Lib.hid (G1.out.trans (hgr.toBelow (Nat.le_refl _) G1.out.size))
  have S2 := Lib.hid hs2
  have Q2 := Lib.hid (Q1.out.gr hgr)
  have L1 := Lib.hid hl1
  have A2' := Lib.hid ha
  have AT := Lib.hid hat
  clear hgr hs2 hl1 ha hat Q1 S1
  go_wp2_with fail
  refine (answers_any _ 34 A n c qs _ S2.out (by omega) HL.out hn5 Q2.out).mono ?_
  rintro e w3 ⟨A2, n2, c2, lb, rfl, hl2, hn2, hnc2, hb, hbt, hgr, hs3⟩
  have G3 := Lib.hid (G2.out.trans (hgr.toBelow (Nat.le_refl _) G2.out.size))
  have Q3 := Lib.hid (Q2.out.gr hgr)
  have L2 := Lib.hid hl2
  have A3 := Lib.hid (A2'.out.gr (by rw [L1.out]; exact AT.out) hgr)
  have B3 := Lib.hid hb
  clear hgr hs3 hl2 hb hbt Q2 S2 A2' AT G1 G2
  have HW := Lib.hid (fun (W : World) (hW : Below w3.heap.size w3 W) => show QL w.heap.size W A qs ∧ AL W A1 la ∧ AL W A2 lb ∧ Tab2 W ∧ gTop2 ≤ W.heap.size ∧ Below w.heap.size w W from
    ⟨Q3.out.below hW, A3.out.below hW, B3.out.below hW, HT.out.below (((G3.out.mono hg).trans (hW.mono (Nat.le_trans hg G3.out.size)))), Nat.le_trans hg (Nat.le_trans G3.out.size hW.size), G3.out.trans (hW.mono G3.out.size)⟩)
  have gg : gTop ≤ gTop2 := by unfold gTop2; omega
  have HMI := Lib.hid (fun (W : World) (hW : Below w3.heap.size w3 W) => missingp_walk w.heap.size A n c qs A1 n1 c1 la W HL.out (by omega) hnc (HW.out W hW).1 (HW.out W hW).2.1 L1.out (by omega) (HW.out W hW).2.2.2.1.1 (Nat.le_trans gg (HW.out W hW).2.2.2.2.1))
  have HDI := Lib.hid (fun (W : World) (hW : Below w3.heap.size w3 W) => differp_walk w.heap.size A n c qs A1 n1 c1 la A2 n2 c2 lb W HL.out (by omega) hnc (HW.out W hW).1 (HW.out W hW).2.1 L1.out (by omega) (HW.out W hW).2.2.1 L2.out (by omega) (HW.out W hW).2.2.2.1.1 (Nat.le_trans gg (HW.out W hW).2.2.2.2.1))
  have HSF := Lib.hid (fun (W : World) (hW : Below w3.heap.size w3 W) => sheetfault_walk w.heap.size A n c qs W HL.out (by omega) hnc (HW.out W hW).1 _ (Lib.hid rfl))
  have HCS := Lib.hid (fun (W : World) (hW : Below w3.heap.size w3 W) => checksheet_walk w.heap.size A n c qs W HL.out (by omega) hnc (HW.out W hW).1 _ (Lib.hid rfl))
  have HAA := Lib.hid (fun (h0 : sheetE qs = 0) (W : World) (hW : Below w3.heap.size w3 W) => answersR_walk w.heap.size A n c qs A1 n1 c1 la W h0 HL.out (HW.out W hW).1 (HW.out W hW).2.1 L1.out (by omega) (HW.out W hW).2.2.2.1.1 (Nat.le_trans gg (HW.out W hW).2.2.2.2.1) _ (Lib.hid rfl))
  have HAB := Lib.hid (fun (h0 : sheetE qs = 0) (W : World) (hW : Below w3.heap.size w3 W) => answersR_walk w.heap.size A n c qs A2 n2 c2 lb W h0 HL.out (HW.out W hW).1 (HW.out W hW).2.2.1 L2.out (by omega) (HW.out W hW).2.2.2.1.1 (Nat.le_trans gg (HW.out W hW).2.2.2.2.1) _ (Lib.hid rfl))
  have HMO := Lib.hid (fun (h0 : sheetE qs = 0) (W : World) (hW : Below w3.heap.size w3 W) => missingof_walk w.heap.size A n c qs A1 n1 c1 la W h0 HL.out (HW.out W hW).1 (HW.out W hW).2.1 L1.out (by omega))
  have HDO := Lib.hid (fun (h0 : sheetE qs = 0) (W : World) (hW : Below w3.heap.size w3 W) => differof_walk w.heap.size A n c qs A1 n1 c1 la A2 n2 c2 lb W h0 HL.out (HW.out W hW).1 (HW.out W hW).2.1 L1.out (by omega) (HW.out W hW).2.2.1 L2.out (by omega))
  have HAS := Lib.hid (fun (W : World) (hW : Below w3.heap.size w3 W) => asked_true W (HW.out W hW).2.2.2.1 (HW.out W hW).2.2.2.2.1)
  have HBW := Lib.hid (fun (W : World) (hW : Below w3.heap.size w3 W) => (HW.out W hW).2.2.2.2.2)
  have hm30 : (missS qs la).length ≤ 1000 := Nat.le_trans (by unfold missS; rw [List.length_map]; exact List.length_filter_le _ _) (by have := HL.out; omega)
  have hd30 : (diffS qs la lb).length ≤ 1000 := Nat.le_trans (by unfold diffS; rw [List.length_map]; exact List.length_filter_le _ _) (by have := HL.out; omega)
  have HFA : Hid (oneE qs la = if sheetE qs = 0 then ansFault qs la else sheetE qs) := Lib.hid rfl
  have HFB : Hid (twoE qs la lb = if oneE qs la = 0 then ansFault qs lb else oneE qs la) := Lib.hid rfl
  clear HW HT hg gg
  generalize twoE qs la lb = f2 at *
  generalize oneE qs la = f1 at *
  generalize ansFault qs la = xa at *
  generalize ansFault qs lb = xb at *
  generalize sheetE qs = r at *
  have MS : Hid ((qs.filter fun q => q.nd && (toQ la q.k).isNone).map (·.k) = missS qs la) := Lib.hid rfl
  have DS : Hid ((qs.filter fun q => differs la lb q.k).map (·.k) = diffS qs la lb) := Lib.hid rfl
  rw [MS.out] at HMO
  rw [DS.out] at HDO
  generalize missS qs la = ms at *
  generalize diffS qs la lb = ds at *
  clear MS DS Q3 A3 B3 HL L1 L2
  go_wp2_with fail
  refine (HMI.out _ (Below.refl _ _)).mono ?_
  rintro e w4 ⟨A4, n4, c4, rfl, hm0, hm1, hb4⟩
  have B4 := Lib.hid hb4
  have M0 := Lib.hid hm0
  have M1 := Lib.hid hm1
  clear hb4 hm0 hm1
  go_wp2_with fail
  refine (HDI.out _ B4.out).mono ?_
  rintro e w5 ⟨A5, n5, c5, rfl, hm0, hm1, hb5⟩
  have B5 := Lib.hid (B4.out.trans (hb5.mono B4.out.size))
  have M4 := Lib.hid (fun h => (M0.out h).2.below hb5)
  have D0 := Lib.hid hm0
  have D1 := Lib.hid hm1
  clear hb5 hm0 hm1
  go_wp2_with fail
  refine (HSF.out _ B5.out).mono ?_; rintro e w6 ⟨rfl, hb⟩
  have B6 := Lib.hid (B5.out.trans (hb.mono B5.out.size))
  have B56 := Lib.hid hb
  clear hb
  go_wp2_with fail
  refine (HCS.out _ B6.out).mono ?_; rintro e w7 ⟨rfl, hb⟩
  have B7 := Lib.hid (B6.out.trans (hb.mono B6.out.size))
  have B57 := Lib.hid (B56.out.trans (hb.mono B56.out.size))
  clear hb B56
  have rr := ne_self r
  by_cases hr : r = 0
  · subst hr
    have HX : Hid (f1 = xa) := Lib.hid (by have := HFA.out; rwa [if_pos rfl] at this)
    obtain rfl := HX.out
    clear HX HFA rr
    go_wp2_with fail
    refine (HAA.out (by simp) _ B7.out).mono ?_; rintro e w8 ⟨rfl, hb⟩
    have B8 := Lib.hid (B7.out.trans (hb.mono B7.out.size))
    have B58 := Lib.hid (B57.out.trans (hb.mono B57.out.size))
    clear hb B57
    have ff := ne_self f1
    by_cases hf : f1 = 0
    · subst hf
      have HX : Hid (f2 = xb) := Lib.hid (by have := HFB.out; rwa [if_pos rfl] at this)
      obtain rfl := HX.out
      clear HX HFB ff
      go_wp2_with fail
      refine (HAB.out (by simp) _ B8.out).mono ?_; rintro e w9 ⟨rfl, hb⟩
      have B9 := Lib.hid (B8.out.trans (hb.mono B8.out.size))
      have B59 := Lib.hid (B58.out.trans (hb.mono B58.out.size))
      obtain ⟨hn4, _⟩ := M0.out (by simp)
      have hsl4 := M4.out (by simp)
      have N4 := Lib.hid hn4.symm
      have hn4b : n4 ≤ 1000 := by omega
      have SL9 := Lib.hid (hsl4.below B59.out)
      clear hb B58 hn4 hsl4
      by_cases hf : f2 = 0
      · subst hf
        obtain ⟨hn5', hsl5⟩ := D0.out (by simp)
        have N5 := Lib.hid hn5'.symm
        have hn5b : n5 ≤ 1000 := by omega
        have SM9 := Lib.hid (hsl5.below B59.out)
        clear hn5' hsl5
        go_wp2_with fail
        refine (HMO.out (by simp) _ B9.out).mono ?_; rintro e w10 ⟨A6, m6, c6, rfl, hm, hs, hb⟩
        obtain rfl : n4 = m6 := by rw [hm]; exact N4.out.symm
        have B10 := Lib.hid (B9.out.trans (hb.mono B9.out.size))
        have HE1 := Lib.hid (For.equal_any A4 A6 c4 c6 ms w10 n4 N4.out hn4b (SL9.out.below hb) hs)
        have SM10 := Lib.hid (SM9.out.below hb)
        clear hb hs hm
        go_wp2_with fail
        refine (HE1.out).mono ?_; rintro e w11 ⟨rfl, hb⟩
        have B11 := Lib.hid (B10.out.trans (hb.mono B10.out.size))
        have SM11 := Lib.hid (SM10.out.below hb)
        clear hb
        go_wp2_with fail
        refine (HDO.out (by simp) _ B11.out).mono ?_; rintro e w12 ⟨A7, m7, c7, rfl, hm, hs, hb⟩
        obtain rfl : n5 = m7 := by rw [hm]; exact N5.out.symm
        have B12 := Lib.hid (B11.out.trans (hb.mono B11.out.size))
        have HE2 := Lib.hid (For.equal_any A5 A7 c5 c7 ds w12 n5 N5.out hn5b (SM11.out.below hb) hs)
        clear hb hs hm
        go_wp2_with fail
        refine (HE2.out).mono ?_; rintro e w13 ⟨rfl, hb⟩
        have B13 := Lib.hid (B12.out.trans (hb.mono B12.out.size))
        clear hb
        go_wp2_with fail
        refine (HAS.out _ B13.out).mono ?_; rintro e w14 ⟨rfl, hb⟩
        have B14 := Lib.hid (HBW.out _ (B13.out.trans (hb.mono B13.out.size)))
        clear hb
        go_wp2_with fail
        go_ret; exact ⟨rfl, B14.out⟩
      · have ff := ne_self f2
        have fb : (f2 != 0) = true := by rw [bne_iff_ne]; exact hf
        obtain rfl := D1.out hf
        clear D1
        go_wp2_with fail
        refine (HMO.out (by simp) _ B9.out).mono ?_; rintro e w10 ⟨A6, m6, c6, rfl, hm, hs, hb⟩
        obtain rfl : n4 = m6 := by rw [hm]; exact N4.out.symm
        have B10 := Lib.hid (B9.out.trans (hb.mono B9.out.size))
        have HE1 := Lib.hid (For.equal_any A4 A6 c4 c6 ms w10 n4 N4.out hn4b (SL9.out.below hb) hs)
        clear hb hs hm
        go_wp2_with fail
        refine (HE1.out).mono ?_; rintro e w11 ⟨rfl, hb⟩
        have B11 := Lib.hid (B10.out.trans (hb.mono B10.out.size))
        clear hb
        go_wp2_with fail
        refine (HAS.out _ B11.out).mono ?_; rintro e w14 ⟨rfl, hb⟩
        have B14 := Lib.hid (HBW.out _ (B11.out.trans (hb.mono B11.out.size)))
        clear hb
        go_wp2_with fail
        go_ret; exact ⟨rfl, B14.out⟩
    · have fb : (f1 != 0) = true := by rw [bne_iff_ne]; exact hf
      have fe : (f1 == 0) = false := by rw [beq_eq_false_iff_ne]; exact hf
      have HX : Hid (f2 = f1) := Lib.hid (by have := HFB.out; rwa [if_neg hf] at this)
      obtain rfl := HX.out
      clear HX HFB
      obtain rfl := D1.out hf
      obtain rfl := M1.out hf
      clear D1 M1
      go_wp2_with fail
      refine (HAS.out _ B8.out).mono ?_; rintro e w14 ⟨rfl, hb⟩
      have B14 := Lib.hid (HBW.out _ (B8.out.trans (hb.mono B8.out.size)))
      clear hb
      go_wp2_with fail
      go_ret; exact ⟨rfl, B14.out⟩
  · have rb : (r != 0) = true := by rw [bne_iff_ne]; exact hr
    have re : (r == 0) = false := by rw [beq_eq_false_iff_ne]; exact hr
    have HX : Hid (f1 = r) := Lib.hid (by have := HFA.out; rwa [if_neg hr] at this)
    obtain rfl := HX.out
    have HY : Hid (f2 = f1) := Lib.hid (by have := HFB.out; rwa [if_neg hr] at this)
    obtain rfl := HY.out
    clear HX HY HFB HFA
    obtain rfl := D1.out hr
    obtain rfl := M1.out hr
    clear D1 M1
    go_wp2_with fail
    refine (HAS.out _ B7.out).mono ?_; rintro e w14 ⟨rfl, hb⟩
    have B14 := Lib.hid (HBW.out _ (B7.out.trans (hb.mono B7.out.size)))
    clear hb
    go_wp2_with fail
    go_ret; exact ⟨rfl, B14.out⟩
end Go.Proofs.YthglfcfnejjpjaaGreatDoor.Rev
