/-
  THE LAW MarksAgree.
-/
import Derived.Test.YthhiefpickpiaaaGreatDoorMarksAny
import Derived.Test.YthhiefpickpiaaaGreatDoorLaw
import Derived.Test.YthhiefpickpiaaaGreatDoorCalF
import Derived.Test.YthhiefpickpiaaaGreatDoorCalA
import Derived.Test.YthhiefpickpiaaaGreatDoorCalEq
import Derived.Test.YthhiefpickpiaaaGreatDoorKapR
import Derived.Test.YthhiefpickpiaaaGreatDoorKapO
import Derived.Deep.RegionHeld3
namespace Go.Proofs.YthhiefpickpiaaaGreatDoor.Cal
open Go.Shelf
open Go.ChangeShapes Go.WideShapes Go.ChangeAt Go.RowKit Stm Key
set_option linter.unusedVariables false

set_option maxRecDepth 100000 in
set_option maxHeartbeats 8000000 in
theorem law_marksagree (a0 : Option Addr) (len0 cap0 : Nat) (z0 : List Int) (w : World) (w0 : IsRow .i64 w a0 len0 cap0 z0) :
    Calls Tryz.prog 3 #[.slice a0 len0 cap0] w fun e w' => e = .returned (.bool true) ∧ Below w.heap.size w w' := by
  have SA := Lib.hid (strm_new w0)
  have G0 := Lib.hid (show Below w.heap.size w (w.alloc (.cells #[.slice a0 len0 cap0, .int .i64 0] 25)) from (Below.refl _ _).alloc (Nat.le_refl _) _)
  clear w0
  go_enter Tryz.func3, Tryz.ntmps3
  go_wp2_with fail
  refine (anymarks_any w.heap.size 0 _ SA.out (by omega)).mono ?_
  rintro e w1 ⟨A, n, c, l, rfl, hl, hn, hnc, hml, hat, hgr, hs⟩
  have G1 := Lib.hid (G0.out.trans (hgr.toBelow (Nat.le_refl _) (by simp)))
  have HL := Lib.hid hl
  have M1 := Lib.hid hml
  have HA := Lib.hid hat
  have S1 := Lib.hid hs
  have hz1 := G1.out.size
  clear hgr hs hl hml hat SA G0
  go_wp2_with fail
  refine (markperson_any w.heap.size (0 + 602) _ S1.out (by omega)).mono ?_
  rintro e w2 ⟨sa, hsa, rfl, hgr, hs⟩
  have G2 := Lib.hid (G1.out.trans (hgr.toBelow (Nat.le_refl _) hz1))
  have M2 := Lib.hid (M1.out.gr (by rw [HL.out]; exact HA.out) hgr)
  have S2 := Lib.hid hs
  have hz2 := G2.out.size
  clear hgr hs M1 S1 G1 hz1
  go_wp2_with fail
  refine (markperson_any w.heap.size (0 + 602 + 1) _ S2.out (by omega)).mono ?_
  rintro e w3 ⟨sb, hsb, rfl, hgr, hs⟩
  have G3 := Lib.hid (G2.out.trans (hgr.toBelow (Nat.le_refl _) hz2))
  have M3 := Lib.hid (M2.out.gr (by rw [HL.out]; exact HA.out) hgr)
  have hz3 := G3.out.size
  clear hgr hs M2 S2 G2 hz2 HA
  obtain ⟨r, hr⟩ : ∃ r, chkE ⟨#[]⟩ ⟨#[]⟩ 0 l = r := ⟨_, rfl⟩
  have HR := Lib.hid hr
  have HRE := Lib.hid (show refE [] none l = r by rw [marks_same, hr])
  clear hr
  go_wp2_with fail
  refine (agreement_walk A n c l w3 HL.out hn M3.out r HR).mono ?_; rintro e w4 ⟨hb, hor⟩
  have G4 := Lib.hid (G3.out.trans (hb.mono hz3))
  have M4 := Lib.hid (M3.out.below hb)
  have hz4 := G4.out.size
  clear hb G3 M3 hz3
  rcases hor with ⟨hr0, rfl⟩ | ⟨rfl, rfl⟩
  · have e1 : (r != 0) = true := by simpa using hr0
    have e2 : (r == r) = true := by simp
    have G5 := Lib.hid (G4.out.alloc hz4 (.cells #[.int .i64 0, .int .i64 0] 30))
    have M5 := Lib.hid (M4.out.below ((Below.refl _ w4).alloc (Nat.le_refl _) (.cells #[.int .i64 0, .int .i64 0] 30)))
    have hz5 := G5.out.size
    clear G4 M4 hz4
    go_wp2_with fail
    refine (kappa_walk A n c l sa sb _ HL.out hn M5.out r HR).mono ?_; rintro e w6 ⟨hb, hor⟩
    rcases hor with ⟨_, rfl⟩ | ⟨h0, _⟩
    rotate_left; exact absurd h0 hr0
    have HR0 := Lib.hid hr0
    have G6 := Lib.hid (G5.out.trans (hb.mono hz5))
    have M6 := Lib.hid (M5.out.below hb)
    have hz6 := G6.out.size
    clear hb G5 M5 hz5 hr0
    have G7 := Lib.hid (G6.out.alloc hz6 (.cells #[.int .i64 0, .int .i64 0] 30))
    have M7 := Lib.hid (M6.out.below ((Below.refl _ w6).alloc (Nat.le_refl _) (.cells #[.int .i64 0, .int .i64 0] 30)))
    have hz7 := G7.out.size
    clear G6 M6 hz6
    go_wp2_with fail
    refine (marksfault_walk A n c l _ HL.out (by omega) M7.out r HRE).mono ?_; rintro e w8 ⟨rfl, hb⟩
    have G8 := Lib.hid (G7.out.trans (hb.mono hz7))
    have hz8 := G8.out.size
    clear hb G7 M7 hz7
    go_wp2_with fail
    refine (scores1_true _).mono ?_; rintro e w9 ⟨rfl, hb⟩
    have G9 := Lib.hid (G8.out.trans (hb.mono hz8))
    clear hb G8
    go_wp2_with fail
    go_ret
    exact ⟨rfl, G9.out⟩
  · have hsc : ∀ x ∈ l, 0 ≤ x.s ∧ x.s ≤ 10 := fun x hx => (chk_scores l _ _ _ HR.out x hx).2
    have HKO := Lib.hid (fun W (h : ML W A l) => kappaof_walk A n c l sa sb W HL.out hn h hsc)
    have HAO := Lib.hid (fun W (h : ML W A l) => agreementof_walk A n c l W HL.out hn h HR)
    have HKW := Lib.hid (fun W (h : ML W A l) => kappa_walk A n c l sa sb W HL.out hn h 0 HR)
    obtain ⟨v, hv⟩ : ∃ v, agR (scP l) (papersL l).length = v := ⟨_, rfl⟩
    rw [hv] at HAO ⊢
    obtain ⟨x0, x1⟩ := v
    obtain ⟨kp, hkp⟩ : ∃ kp, kap l sa sb = kp := ⟨_, rfl⟩
    obtain ⟨⟨y0, y1⟩, kf⟩ := kp
    have HKP := Lib.hid hkp
    have G5 := Lib.hid (G4.out.alloc hz4 (.cells #[.int .i64 x0, .int .i64 x1] 30))
    have hb := (Below.refl _ w4).alloc (Nat.le_refl _) (.cells #[.int .i64 x0, .int .i64 x1] 30)
    have M5 := Lib.hid (M4.out.below hb)
    have BX5 := Lib.hid (Blk.new w4 30 #[.int .i64 x0, .int .i64 x1])
    have hz5 := G5.out.size
    clear hb hsc hv hkp G4 M4 hz4
    go_wp2_with fail
    refine (HKW.out _ M5.out).mono ?_; rintro e w6 ⟨hb, hor⟩
    rcases hor with ⟨h0, _⟩ | ⟨_, rfl⟩
    exact absurd rfl h0
    rw [HKP.out]
    have G6 := Lib.hid (G5.out.trans (hb.mono hz5))
    have M6 := Lib.hid (M5.out.below hb)
    have BX6 := Lib.hid (BX5.out.below hb BX5.out.lt)
    have hz6 := G6.out.size
    clear hb G5 M5 BX5 hz5
    have hb := (Below.refl _ w6).alloc (Nat.le_refl _) (.cells #[.int .i64 y0, .int .i64 y1] 30)
    have G7 := Lib.hid (G6.out.alloc hz6 (.cells #[.int .i64 y0, .int .i64 y1] 30))
    have M7 := Lib.hid (M6.out.below hb)
    have BX7 := Lib.hid (BX6.out.below hb BX6.out.lt)
    have BY7 := Lib.hid (Blk.new w6 30 #[.int .i64 y0, .int .i64 y1])
    have hz7 := G7.out.size
    clear hb G6 M6 BX6 hz6
    go_wp2_with fail
    refine (marksfault_walk A n c l _ HL.out (by omega) M7.out 0 HRE).mono ?_; rintro e w8 ⟨rfl, hb⟩
    have G8 := Lib.hid (G7.out.trans (hb.mono hz7))
    have M8 := Lib.hid (M7.out.below hb)
    have BX8 := Lib.hid (BX7.out.below hb BX7.out.lt)
    have BY8 := Lib.hid (BY7.out.below hb BY7.out.lt)
    have hz8 := G8.out.size
    clear hb G7 M7 BX7 BY7 hz7
    go_wp2_with fail
    refine (HKO.out _ M8.out).mono ?_; rintro e w9 ⟨rfl, hb⟩
    rw [HKP.out]
    have G9 := Lib.hid (G8.out.trans (hb.mono hz8))
    have M9 := Lib.hid (M8.out.below hb)
    have BX9 := Lib.hid (BX8.out.below hb BX8.out.lt)
    have BY9 := Lib.hid (BY8.out.below hb BY8.out.lt)
    have hz9 := G9.out.size
    clear hb G8 M8 BX8 BY8 hz8
    have hb := (Below.refl _ w9).alloc (Nat.le_refl _) (.cells #[.int .i64 y0, .int .i64 y1] 30)
    have GT := Lib.hid (G9.out.alloc hz9 (.cells #[.int .i64 y0, .int .i64 y1] 30))
    have MT := Lib.hid (M9.out.below hb)
    have BXT := Lib.hid (BX9.out.below hb BX9.out.lt)
    have BYT := Lib.hid (BY9.out.below hb BY9.out.lt)
    have BZT := Lib.hid (Blk.new w9 30 #[.int .i64 y0, .int .i64 y1])
    have hzT := GT.out.size
    clear hb G9 M9 BX9 BY9 hz9
    go_upto_region 9 with fail
    generalize hwq : (w9.alloc (.cells #[.int .i64 y0, .int .i64 y1] 30)) = wq at *
    obtain ⟨C, hC⟩ : ∃ C, wq.heap.size = C := ⟨_, rfl⟩
    have hTB : ∀ v, Below C wq v → Below wq.heap.size wq v := fun v h => by rw [hC]; exact h
    have HAG := Lib.hid (show ∀ v, Below C wq v → Calls Tryz.prog 11 #[.slice A n c] v fun e w' => e = .returned (.agg #[.int .i64 x0, .int .i64 x1]) ∧ Below v.heap.size v w' from fun v h => HAO.out v (MT.out.below (hTB v h)))
    have HST := Lib.hid (fun (v : World) => scores1_true v)
    have HCA := Lib.hid (show ∀ v, Below C wq v → Blk v w4.heap.size 30 #[.int .i64 x0, .int .i64 x1] ∧ Blk v w6.heap.size 30 #[.int .i64 y0, .int .i64 y1] ∧ Blk v w9.heap.size 30 #[.int .i64 y0, .int .i64 y1] ∧ Below w.heap.size w v from fun v h =>
      ⟨BXT.out.below (hTB v h) BXT.out.lt, BYT.out.below (hTB v h) BYT.out.lt, BZT.out.below (hTB v h) BZT.out.lt, GT.out.trans ((hTB v h).mono hzT)⟩)
    have HB0 := Lib.hid (show Below C wq wq from Below.refl _ _)
    have HSZ := Lib.hid (show C ≤ wq.heap.size from Nat.le_of_eq hC.symm)
    have e4 : (kf == kf) = true := by simp
    clear HAO HKO HKW HKP hTB hC hwq BXT BYT BZT MT GT hzT HR HRE HL
    go_region_held3 (fun v => v.cell? ⟨w4.heap.size, 0, none⟩ = some (.int .i64 x0) ∧ v.cell? ⟨w4.heap.size, 1, none⟩ = some (.int .i64 x1) ∧ v.cell? ⟨w6.heap.size, 0, none⟩ = some (.int .i64 y0) ∧ v.cell? ⟨w6.heap.size, 1, none⟩ = some (.int .i64 y1) ∧ v.cell? ⟨w9.heap.size, 0, none⟩ = some (.int .i64 y0) ∧ v.cell? ⟨w9.heap.size, 1, none⟩ = some (.int .i64 y1) ∧ Below C wq v ∧ C ≤ v.heap.size)
      (first
        | (go_split_ands; have hv := Below.trans (by assumption) (hb.mono (by assumption)); obtain ⟨k0, k1, k2, _⟩ := HCA.out _ hv; exact ⟨k0.cell 0 _ rfl, k0.cell 1 _ rfl, k1.cell 0 _ rfl, k1.cell 1 _ rfl, k2.cell 0 _ rfl, k2.cell 1 _ rfl, hv, Nat.le_trans (by assumption) hb.size⟩)
        | (obtain ⟨k0, k1, k2, _⟩ := HCA.out _ HB0.out.drew; exact ⟨k0.cell 0 _ rfl, k0.cell 1 _ rfl, k1.cell 0 _ rfl, k1.cell 1 _ rfl, k2.cell 0 _ rfl, k2.cell 1 _ rfl, HB0.out.drew, by have := HSZ.out; simpa using this⟩))
      (first
        | (go_at_call 9; refine (HST.out _).mono ?_; rintro e wz ⟨rfl, hb⟩)
        | (go_at_call 11; go_split_ands; refine (HAG.out _ (by assumption)).mono ?_; rintro e wz ⟨rfl, hb⟩))
    go_split_ands
    go_wp2_with fail
    go_ret
    exact ⟨rfl, (HCA.out _ (by assumption)).2.2.2⟩
end Go.Proofs.YthhiefpickpiaaaGreatDoor.Cal
