/-
  THE LAW MarkMeans.
-/
import Derived.Test.YtmihbfmlnfhgcabGreatDoorMarks10
import Derived.Test.YtmihbfmlnfhgcabGreatDoorLaw
import Derived.Test.YtmihbfmlnfhgcabGreatDoorDisL
import Derived.Test.YtmihbfmlnfhgcabGreatDoorDisF
import Derived.Test.YtmihbfmlnfhgcabGreatDoorDisT
import Derived.Deep.RegionHeld3
namespace Go.Proofs.YtmihbfmlnfhgcabGreatDoor.Cal
open Go.Shelf
open Go.ChangeShapes Go.WideShapes Go.ChangeAt Go.RowKit Stm Key
set_option linter.unusedVariables false

set_option maxRecDepth 100000 in
set_option maxHeartbeats 8000000 in
theorem law_markmeans (a0 : Option Addr) (len0 cap0 : Nat) (z0 : List Int) (w : World) (w0 : IsRow .i64 w a0 len0 cap0 z0) :
    Calls Tryz.prog 3 #[.slice a0 len0 cap0] w fun e w' => e = .returned (.bool true) ∧ Below w.heap.size w w' := by
  have SA := Lib.hid (strm_new w0)
  have G0 := Lib.hid (show Below w.heap.size w (w.alloc (.cells #[.slice a0 len0 cap0, .int .i64 0] 25)) from (Below.refl _ _).alloc (Nat.le_refl _) _)
  clear w0
  go_enter Tryz.func3, Tryz.ntmps3
  go_wp2_with fail
  refine (marks10_any w.heap.size 0 _ SA.out (by omega)).mono ?_
  rintro e w1 ⟨A, n, c, l, rfl, hl, hn, hnc, hml, hat, hgr, hs⟩
  have G1 := Lib.hid (G0.out.trans (hgr.toBelow (Nat.le_refl _) (by simp)))
  have HL := Lib.hid hl
  have M1 := Lib.hid hml
  have HA := Lib.hid hat
  have S1 := Lib.hid hs
  have hz1 := G1.out.size
  have hB1 := hs.lt
  clear hgr hs hl hml hat SA G0
  go_wp2_with fail
  refine (pick_any w.heap.size (0 + 60) _ _ [0, 0, 1, 2, 3, 4] _ _ _ (S1.out.keep (by go_grown)) (by omega) (by simp; omega) (new_at (by simp)) (by simp) (by simp)).mono ?_
  rintro e w2 ⟨r, hr, rfl, ho, hs⟩
  obtain ⟨r, rfl⟩ : ∃ z : Nat, r = z := ⟨r.toNat, by simp only [List.mem_cons, List.mem_nil_iff, or_false] at hr; omega⟩
  have hr5 : r < 5 := by simp only [List.mem_cons, List.mem_nil_iff, or_false] at hr; omega
  have r0 : (0 : Int) ≤ (r : Int) := by omega
  have r1 : (r : Int) < 5 := by omega
  have K := ((Blk.new w1 9 #[.string ⟨#[112, 97]⟩, .string ⟨#[112, 98]⟩, .string ⟨#[112, 99]⟩, .string ⟨#[]⟩, .string ⟨#[65]⟩]).alloc (.cells #[.int .i64 0, .int .i64 0, .int .i64 1, .int .i64 2, .int .i64 3, .int .i64 4] 3)).only ho (show w1.heap.size ≠ w.heap.size by omega)
  have Q := (((Gr.refl w.heap.size w1).alloc (.cells #[.string ⟨#[112, 97]⟩, .string ⟨#[112, 98]⟩, .string ⟨#[112, 99]⟩, .string ⟨#[]⟩, .string ⟨#[65]⟩] 9)).alloc (.cells #[.int .i64 0, .int .i64 0, .int .i64 1, .int .i64 2, .int .i64 3, .int .i64 4] 3)).trans (Gr.only ho)
  have hkl := K.lt
  have x0 := ch_blk (zs := [⟨#[112, 97]⟩, ⟨#[112, 98]⟩, ⟨#[112, 99]⟩, ⟨#[]⟩, ⟨#[65]⟩]) K r (by simpa using hr5)
  have hp : ([⟨#[112, 97]⟩, ⟨#[112, 98]⟩, ⟨#[112, 99]⟩, ⟨#[]⟩, ⟨#[65]⟩] : List ByteArray)[r].size ≤ 1000 := le_all (m := 1000) (by decide +kernel) _ (List.getElem_mem _)
  generalize ([⟨#[112, 97]⟩, ⟨#[112, 98]⟩, ⟨#[112, 99]⟩, ⟨#[]⟩, ⟨#[65]⟩] : List ByteArray)[r] = p at *
  have G2 := Lib.hid (G1.out.trans (Q.toBelow (Nat.le_refl _) hz1))
  have M2 := Lib.hid (M1.out.gr (by rw [HL.out]; exact HA.out) Q)
  have hz2 := G2.out.size
  clear hr ho hs K Q M1 S1 HA G1 hz1 hnc
  obtain ⟨f, hf⟩ : ∃ f, fstE [chkO ⟨#[]⟩ ⟨#[]⟩ l, kfE p] = f := ⟨_, rfl⟩
  obtain ⟨v, hv⟩ : ∃ v, dMean l p = v := ⟨_, rfl⟩
  obtain ⟨⟨m0, m1⟩, me⟩ := v
  have HF := Lib.hid (show f ≠ 0 → ((m0, m1), me) = ((0, 0), f) from fun h => by rw [← hv]; exact mean_fault hf h)
  have HG := Lib.hid (show f = 0 → ((m0, m1), me) = ((mean2 l p).1, if (!(mean2 l p).2) = true then 8 else 0) ∧ chkO ⟨#[]⟩ ⟨#[]⟩ l = 0 from fun h => by rw [← hv]; exact mean_right (hf.trans h))
  have HME := Lib.hid (dmean_walk A n c l p w2 HL.out hn M2.out hp _ hv)
  obtain ⟨q, hq⟩ : ∃ q, chkO ⟨#[]⟩ ⟨#[]⟩ l = q := ⟨_, rfl⟩
  obtain ⟨kq, hkq⟩ : ∃ kq, kfE p = kq := ⟨_, rfl⟩
  rw [hq, hkq] at hf
  have HFE := Lib.hid hf
  have HQ := Lib.hid hq
  have HQR := Lib.hid (show refO none l = q by rw [marks_sameO, hq])
  have HKQ := Lib.hid (show (if keyL p.data.toList = true then 0 else 5 : Int) = kq from hkq)
  clear hf hv hq hkq
  go_wp2_with fail
  refine (HME.out).mono ?_; rintro e w3 ⟨rfl, hb⟩
  have G3 := Lib.hid (G2.out.trans (hb.mono hz2))
  have M3 := Lib.hid (M2.out.below hb)
  have hz3 := G3.out.size
  clear hb HME G2 M2 hz2 x0 hkl
  have G4 := Lib.hid (G3.out.alloc hz3 (.cells #[.int .i64 m0, .int .i64 m1] 31))
  have M4 := Lib.hid (M3.out.below ((Below.refl _ w3).alloc (Nat.le_refl _) (.cells #[.int .i64 m0, .int .i64 m1] 31)))
  have X4 := Lib.hid (Blk.new w3 31 #[.int .i64 m0, .int .i64 m1])
  have hz4 := G4.out.size
  clear G3 M3
  go_wp2_with fail
  refine (marksfault2_walk A n c l _ HL.out (by omega) M4.out q HQR).mono ?_; rintro e w5 ⟨rfl, hb⟩
  have G5 := Lib.hid (G4.out.trans (hb.mono hz4))
  have M5 := Lib.hid (M4.out.below hb)
  have X5 := Lib.hid (X4.out.below hb X4.out.lt)
  have hz5 := G5.out.size
  clear hb G4 M4 X4 hz4
  have ern : (q != q) = false := by simp
  go_wp2_with fail
  refine (checkmarksO_walk A n c l w5 HL.out (by omega) M5.out q HQ).mono ?_; rintro e w6 ⟨rfl, hb⟩
  have G6 := Lib.hid (G5.out.trans (hb.mono hz5))
  have M6 := Lib.hid (M5.out.below hb)
  have X6 := Lib.hid (X5.out.below hb X5.out.lt)
  have hz6 := G6.out.size
  clear hb G5 M5 X5 hz5
  have h36 : w3.heap.size < w6.heap.size := X6.out.lt
  have G7 := Lib.hid (G6.out.alloc hz6 (.cells #[.int .i64 0, .int .i64 0] 31))
  have hb := (Below.refl _ w6).alloc (Nat.le_refl _) (.cells #[.int .i64 0, .int .i64 0] 31)
  have M7 := Lib.hid (M6.out.below hb)
  have X7 := Lib.hid (X6.out.below hb X6.out.lt)
  have Y7 := Lib.hid (Blk.new w6 31 #[.int .i64 0, .int .i64 0])
  have hz7 := G7.out.size
  clear hb G6 M6 X6
  go_wp2_with fail
  refine (keyfault_any p _ (by omega) kq HKQ.out).mono ?_; rintro e w8 ⟨rfl, hb⟩
  have G8 := Lib.hid (G7.out.trans (hb.mono hz7))
  have M8 := Lib.hid (M7.out.below hb)
  have X8 := Lib.hid (X7.out.below hb X7.out.lt)
  have Y8 := Lib.hid (Y7.out.below hb Y7.out.lt)
  have hz8 := G8.out.size
  clear hb G7 M7 X7 Y7 hz7
  have hb := (Below.refl _ w8).alloc (Nat.le_refl _) (.cells #[.int .i64 q, .int .i64 kq] 32)
  have Z9 := Blk.new w8 32 #[.int .i64 q, .int .i64 kq]
  have G9 := Lib.hid (G8.out.trans (hb.mono hz8))
  have M9 := Lib.hid (M8.out.below hb)
  have X9 := Lib.hid (X8.out.below hb X8.out.lt)
  have Y9 := Lib.hid (Y8.out.below hb Y8.out.lt)
  have hz9 := G9.out.size
  have HER := Lib.hid (errs_any w8.heap.size 2 2 [q, kq] (w8.alloc (.cells #[.int .i64 q, .int .i64 kq] 32)) rfl (by omega) (fun i hi => by
    have hi2 : i < 2 := hi
    rcases (by omega : i = 0 ∨ i = 1) with rfl | rfl
    · exact Z9.cell 0 _ rfl
    · exact Z9.cell 1 _ rfl) f HFE)
  clear hb Z9 G8 M8 X8 Y8
  go_wp2_with fail
  refine (HER.out).mono ?_; rintro e wa ⟨rfl, hwa⟩
  rw [← hwa] at G9 M9 X9 Y9 hz9
  clear hwa HER
  have x0 := X9.out.cell 0 _ rfl
  have x1 := X9.out.cell 1 _ rfl
  by_cases hf0 : f = 0
  rotate_left
  · have hm := HF.out hf0
    have hm0 : m0 = 0 := congrArg (fun v : (Int × Int) × Int => v.1.1) hm
    have hm1 : m1 = 0 := congrArg (fun v : (Int × Int) × Int => v.1.2) hm
    have hme : me = f := congrArg (fun v : (Int × Int) × Int => v.2) hm
    subst hm0 hm1 hme
    have y0 := Y9.out.cell 0 _ rfl
    have y1 := Y9.out.cell 1 _ rfl
    have e1 : (me == 0) = false := by simpa using hf0
    have e2 : (me == me) = true := by simp
    clear hm hf0 HF HG
    go_wp2_with fail
    refine (talked_true _).mono ?_; rintro e wb ⟨rfl, hb⟩
    have GZ := Lib.hid (G9.out.trans (hb.mono hz9))
    clear hb
    go_wp2_with fail
    go_ret
    exact ⟨rfl, GZ.out⟩
  · obtain ⟨hm, hq0⟩ := HG.out hf0
    have hsc : ∀ x ∈ l, 0 ≤ x.s ∧ x.s ≤ 10 := fun x hx => (chkO_scores l _ _ hq0 x hx).2
    obtain ⟨v, hv⟩ : ∃ v, mean2 l p = v := ⟨_, rfl⟩
    obtain ⟨⟨n0, n1⟩, is⟩ := v
    rw [hv] at hm
    obtain ⟨fk, hfk⟩ : ∃ fk, (if (!is) = true then 8 else 0 : Int) = fk := ⟨_, rfl⟩
    rw [hfk] at hm
    have hm0 : m0 = n0 := congrArg (fun v : (Int × Int) × Int => v.1.1) hm
    have hm1 : m1 = n1 := congrArg (fun v : (Int × Int) × Int => v.1.2) hm
    have hme : me = fk := congrArg (fun v : (Int × Int) × Int => v.2) hm
    subst hm0 hm1 hme hf0
    have HM2 := Lib.hid (meanof2_walk A n c l p wa HL.out hn M9.out hsc _ hv)
    have HFK := Lib.hid hfk
    clear hm hq0 hsc hv hfk HF HG x0 x1
    go_wp2_with fail
    refine (HM2.out).mono ?_; rintro e wb ⟨rfl, hb⟩
    have GB := Lib.hid (G9.out.trans (hb.mono hz9))
    have XB := Lib.hid (X9.out.below hb X9.out.lt)
    have YB := Lib.hid (Y9.out.below hb Y9.out.lt)
    have hzB := GB.out.size
    clear hb G9 M9 X9 Y9 hz9 HM2
    have hb := (Below.refl _ wb).alloc (Nat.le_refl _) (.cells #[.int .i64 m0, .int .i64 m1] 31)
    have GC := Lib.hid (GB.out.alloc hzB (.cells #[.int .i64 m0, .int .i64 m1] 31))
    have XC := Lib.hid (XB.out.below hb XB.out.lt)
    have YC := Lib.hid (YB.out.below hb YB.out.lt)
    have ZC := Lib.hid (Blk.new wb 31 #[.int .i64 m0, .int .i64 m1])
    have hzC := GC.out.size
    clear hb GB XB YB
    go_upto_region 12 with fail
    generalize hwc : wb.alloc (.cells #[.int .i64 m0, .int .i64 m1] 31) = wc at *
    clear hwc
    have q0 := ZC.out.cell 0 _ rfl
    have q1 := ZC.out.cell 1 _ rfl
    have x0 := XC.out.cell 0 _ rfl
    have x1 := XC.out.cell 1 _ rfl
    have y0 := YC.out.cell 0 _ rfl
    have y1 := YC.out.cell 1 _ rfl
    have f0 := YC.out.frozen 0
    have f1 := YC.out.frozen 1
    have l0 := ZC.out.lt
    have l1 := XC.out.lt
    have l2 := YC.out.lt
    go_region_law ((first
      | (go_simp; go_at_call 12
         refine (when_any _ _ _ _ HFK.out).mono ?_
         rintro e wz ⟨rfl, rfl⟩)))
    all_goals
      have e2 : (me == me) = true := by simp
      have GF := Lib.hid (((GC.out.setCell (p := ⟨w6.heap.size, 0, none⟩) hz6 (.int .i64 m0)).setCell (p := ⟨w6.heap.size, 1, none⟩) hz6 (.int .i64 m1)).drew)
      have hzF := GF.out.size
      have XF := Lib.hid (show Blk (((wc.setCell ⟨w6.heap.size, 0, none⟩ (.int .i64 m0)).setCell ⟨w6.heap.size, 1, none⟩ (.int .i64 m1)).drew) w3.heap.size 31 #[.int .i64 m0, .int .i64 m1] from ((XC.out.far (p := ⟨w6.heap.size, 0, none⟩) (Nat.ne_of_lt h36) _).far (p := ⟨w6.heap.size, 1, none⟩) (Nat.ne_of_lt h36) _))
      have YF := Lib.hid (show Blk (((wc.setCell ⟨w6.heap.size, 0, none⟩ (.int .i64 m0)).setCell ⟨w6.heap.size, 1, none⟩ (.int .i64 m1)).drew) w6.heap.size 31 #[.int .i64 m0, .int .i64 m1] from ((YC.out.set_ 0 _).set_ 1 _))
      clear GC XC YC ZC q0 q1 l0 x0 x1 y0 y1 f0 f1
      generalize (((wc.setCell ⟨w6.heap.size, 0, none⟩ (.int .i64 m0)).setCell ⟨w6.heap.size, 1, none⟩ (.int .i64 m1)).drew) = wf at *
      have x0 := XF.out.cell 0 _ rfl
      have x1 := XF.out.cell 1 _ rfl
      have y0 := YF.out.cell 0 _ rfl
      have y1 := YF.out.cell 1 _ rfl
      go_wp2_with fail
      refine (talked_true _).mono ?_; rintro e wd ⟨rfl, hb⟩
      have GZ := Lib.hid (GF.out.trans (hb.mono hzF))
      clear hb GF
      go_wp2_with fail
      go_ret
      exact ⟨rfl, GZ.out⟩
end Go.Proofs.YtmihbfmlnfhgcabGreatDoor.Cal
