/-
  THE CONTRACT OF THE REFERENCE's CHECK OF A PAPER: PaperFault: the same function of the paper as CheckPaper's.
-/
import Derived.Test.YtjlbohbkhfhkpaaGreatDoorPaper
import Derived.Test.YtjlbohbkhfhkpaaGreatDoorGArrive
namespace Go.Proofs.YtjlbohbkhfhkpaaGreatDoor.Key
open Go.ChangeShapes Go.WideShapes Go.ChangeAt Go.RowKit
set_option linter.unusedVariables false

set_option maxHeartbeats 8000000 in
theorem paperR_walk (p t ti : ByteArray) (A B : Option Addr) (na ca nb cb : Nat) (au tp : List ByteArray) (w : World) (h1 : p.size ≤ 1000) (h2 : t.size ≤ 1000) (h3 : ti.size ≤ 1000) (hau : au.length = na) (htp : tp.length = nb) (hna : na ≤ 1000) (hnb : nb ≤ 1000) (hca : na ≤ ca) (hcb : nb ≤ cb) (hA : SL w A au) (hB : SL w B tp) (hg : gTop ≤ w.heap.size) (hT : Tabs w) (r : Int) (hr : Hid (paperE p t ti au tp = r)) :
    Calls Tryz.prog 61 #[.agg #[.string p, .string t, .string ti, .slice A na ca, .slice B nb cb]] w fun e w' => e = .returned (.int .i64 r) ∧ Below w.heap.size w w' := by
  have hb0 : Below w.heap.size w (w.alloc (.cells #[.string p, .string t, .string ti, .slice A na ca, .slice B nb cb] 56)) := (Below.refl _ _).alloc (Nat.le_refl _) _
  have HBK := Lib.hid (Blk.new w 56 #[.string p, .string t, .string ti, .slice A na ca, .slice B nb cb])
  have HB0 := Lib.hid hb0
  have HSA := Lib.hid hA
  have HSB := Lib.hid hB
  have HAU := Lib.hid hau
  have HTP := Lib.hid htp
  have HG := Lib.hid hg
  have HT := Lib.hid hT
  obtain ⟨kp, hkp⟩ : ∃ b, keyL p.data.toList = b := ⟨_, rfl⟩
  obtain ⟨kt, hkt⟩ : ∃ b, keyL t.data.toList = b := ⟨_, rfl⟩
  obtain ⟨z1, hz1⟩ : ∃ b, decide ((ti.size : Int) > 200) = b := ⟨_, rfl⟩
  obtain ⟨z2, hz2⟩ : ∃ b, ti.toList.isEmpty = b := ⟨_, rfl⟩
  obtain ⟨z3, hz3⟩ : ∃ b, plainL ti.data.toList = b := ⟨_, rfl⟩
  obtain ⟨z4, hz4⟩ : ∃ b, ((na : Int) == 0) = b := ⟨_, rfl⟩
  obtain ⟨z5, hz5⟩ : ∃ b, decide ((na : Int) > 20) = b := ⟨_, rfl⟩
  obtain ⟨z6, hz6⟩ : ∃ b, decide ((nb : Int) > 100) = b := ⟨_, rfl⟩
  obtain ⟨ca0, hca0⟩ : ∃ b, checkAuthorsE au = b := ⟨_, rfl⟩
  have HR := hr.out
  unfold paperE at HR
  rw [hkp, hkt, hz1, hz2, hz3, hca0] at HR
  have HRR := Lib.hid HR
  have HP := Lib.hid hkp; have HKT := Lib.hid hkt; have HCA := Lib.hid hca0; have HZ3 := Lib.hid hz3
  clear hr HR hkp hkt hz3 hca0 hA hB hau htp hT hb0 hg
  cases kp
  · go_enter Tryz.func61, Tryz.ntmps61
    go_wp2_with fail
    refine (keyOf_any _ _ (by omega)).mono ?_; rintro e w1 ⟨rfl, hb1⟩; rw [HP.out]
    have HB1 := Lib.hid (HB0.out.trans (hb1.mono HB0.out.size)); clear hb1
    go_wp2_with fail
    go_ret; exact ⟨ret_int (by rw [← HRR.out]; rfl), HB1.out⟩
  go_enter Tryz.func61, Tryz.ntmps61
  go_wp2_with fail
  refine (keyOf_any _ _ (by omega)).mono ?_; rintro e w1 ⟨rfl, hb1⟩; rw [HP.out]
  have HB1 := Lib.hid (HB0.out.trans (hb1.mono HB0.out.size))
  have HK1 := Lib.hid (HBK.out.below hb1 HBK.out.lt)
  have c1 := HK1.out.cell 1 (.string t) rfl
  clear hb1
  go_wp2_with fail
  refine (keyOf_any _ _ (by omega)).mono ?_; rintro e w2 ⟨rfl, hb2⟩; rw [HKT.out]
  have HB2 := Lib.hid (HB1.out.trans (hb2.mono HB1.out.size))
  have HK2 := Lib.hid (HK1.out.below hb2 HK1.out.lt)
  have c2 := HK2.out.cell 2 (.string ti) rfl
  have c3 := HK2.out.cell 3 (.slice A na ca) rfl
  have c4 := HK2.out.cell 4 (.slice B nb cb) rfl
  clear hb2 c1
  cases kt
  · go_wp2_with fail
    go_ret; exact ⟨ret_int (by rw [← HRR.out]; rfl), HB2.out⟩
  cases z1
  case true =>
    go_wp2_with fail
    go_ret; exact ⟨ret_int (by rw [← HRR.out]; rfl), HB2.out⟩
  cases z2
  case true =>
    go_wp2_with fail
    go_ret; exact ⟨ret_int (by rw [← HRR.out]; rfl), HB2.out⟩
  go_wp2_with fail
  refine (plainOf_any ti w2 (by omega) (Nat.le_trans HG.out HB2.out.size) (HT.out.below (HB2.out.mono HG.out))).mono ?_; rintro e w3 ⟨rfl, hb3⟩; rw [HZ3.out]
  have HB3 := Lib.hid (HB2.out.trans (hb3.mono HB2.out.size))
  have HK3 := Lib.hid (HK2.out.below hb3 HK2.out.lt)
  clear hb3 c2 c3 c4
  have c3 := HK3.out.cell 3 (.slice A na ca) rfl
  have c4 := HK3.out.cell 4 (.slice B nb cb) rfl
  cases z3
  · go_wp2_with fail
    go_ret; exact ⟨ret_int (by rw [← HRR.out]; rfl), HB3.out⟩
  have HFIN : Hid ((if ca0 = 0 then (if 100 < nb then 2 else risingE ⟨#[]⟩ tp) else ca0) = r) := Lib.hid (by have := HRR.out; rw [HTP.out] at this; simpa using this)
  clear HRR
  cases z4
  case true =>
    have n0 : na = 0 := by rw [beq_iff_eq] at hz4; omega
    have HE : Hid (8 = r) := Lib.hid (by have h := HCA.out; unfold checkAuthorsE at h; rw [HAU.out, if_pos n0] at h; have h2 := HFIN.out; rw [← h] at h2; simpa using h2)
    go_wp2_with fail
    go_ret; exact ⟨ret_int HE.out, HB3.out⟩
  have n0 : na ≠ 0 := by rw [beq_eq_false_iff_ne] at hz4; omega
  cases z5
  case true =>
    have n20 : 20 < na := by have := of_decide_eq_true hz5; omega
    have HE : Hid (2 = r) := Lib.hid (by have h := HCA.out; unfold checkAuthorsE at h; rw [HAU.out, if_neg n0, if_pos n20] at h; have h2 := HFIN.out; rw [← h] at h2; simpa using h2)
    go_wp2_with fail
    go_ret; exact ⟨ret_int HE.out, HB3.out⟩
  have n20 : ¬ 20 < na := by have := of_decide_eq_false hz5; omega
  have HCC : Hid (authorsE au 0 au = ca0) := Lib.hid (by have h := HCA.out; unfold checkAuthorsE at h; rw [HAU.out, if_neg n0, if_neg n20] at h; exact h)
  clear HCA
  go_wp2_with fail
  clear c3 c4
  go_loopw [44] (fun i wr => ∃ k : Nat, k ≤ na ∧ i = .int .i64 k ∧ Hid (authorsE au k (au.drop k) = ca0) ∧ Hid (Below w.heap.size w wr) ∧ Hid (Blk wr w.heap.size 56 #[.string p, .string t, .string ti, .slice A na ca, .slice B nb cb])) (fun i _ => na - (intOf i).toNat)
  case atStart => exact ⟨0, Nat.zero_le _, rfl, HCC, HB3, HK3⟩
  case round =>
    obtain ⟨k, hk, rfl, HK, HBW, HBL⟩ := hrel
    by_cases hlt : k < na
    · obtain ⟨hsz, hcells⟩ := HSA.out
      obtain ⟨b, hAe, hbl, hc⟩ := hcells (by have := HAU.out; omega)
      have hkl : k < au.length := by have := HAU.out; omega
      have hzz := hsz au[k] (List.getElem_mem hkl)
      have c1 : wr.cell? ⟨b, k, none⟩ = some (.string au[k]) := (HBW.out.cell (p := ⟨b, k, none⟩) hbl).trans (hc k hkl)
      have HC : Hid (∀ W, Below w.heap.size w W → ∀ (i : Nat) (h : i < au.length), W.cell? ⟨b, i, none⟩ = some (.string au[i])) := Lib.hid fun W hW i h => (hW.cell (p := ⟨b, i, none⟩) hbl).trans (hc i h)
      have HQ2 := HK.out
      rw [drop_step au k hkl] at HQ2
      unfold authorsE at HQ2
      generalize au[k] = x at *
      subst hAe
      clear hsz hcells hc HK
      obtain ⟨kp, hkp⟩ : ∃ b, keyL x.data.toList = b := ⟨_, rfl⟩
      obtain ⟨hp, hhp⟩ : ∃ b, hasS (au.take k) x = b := ⟨_, rfl⟩
      rw [hkp, hhp] at HQ2
      have HKP := Lib.hid hkp
      have HHP := Lib.hid hhp
      have HKK := Lib.hid HQ2
      clear HQ2 hkp hhp
      go_wp2_with fail
      refine (keyOf_any _ _ (by omega)).mono ?_; rintro e w4 ⟨rfl, hb4⟩; rw [HKP.out]
      have HB4 := Lib.hid (HBW.out.trans (hb4.mono HBW.out.size))
      have HK4 := Lib.hid (HBL.out.below hb4 HBL.out.lt)
      clear hb4 c1
      have c3 := HK4.out.cell 3 (.slice (some ⟨b, 0, none⟩) na ca) rfl
      cases kp
      · have HE : Hid (5 = r) := Lib.hid (by have h := HKK.out; have h2 := HFIN.out; simp at h; rw [← h] at h2; simpa using h2)
        go_wp2_with fail
        go_ret; exact ⟨ret_int HE.out, HB4.out⟩
      go_wp2_with fail
      refine (has_any b k _ au x _ (by omega) (by omega) (HC.out _ HB4.out)).mono ?_; rintro e w5 ⟨rfl, rfl⟩; rw [HHP.out]
      clear HHP c3
      cases hp
      · have HQ3 : Hid (authorsE au (k + 1) (au.drop (k + 1)) = ca0) := Lib.hid (by have := HKK.out; simpa using this)
        clear HKK
        go_wp2_with fail
        go_roundw
        case rel => exact ⟨k + 1, by omega, by go_num, HQ3, HB4, HK4⟩
        case measure => simp [intOf]; omega
      · have HE : Hid (6 = r) := Lib.hid (by have h := HKK.out; have h2 := HFIN.out; simp at h; rw [← h] at h2; simpa using h2)
        go_wp2_with fail
        go_ret; exact ⟨ret_int HE.out, HB4.out⟩
    · have HE : Hid ((if 100 < nb then 2 else risingE ⟨#[]⟩ tp) = r) := Lib.hid (by have h := HK.out; rw [List.drop_of_length_le (by have := HAU.out; omega)] at h; have h2 := HFIN.out; rw [← h] at h2; simpa [authorsE] using h2)
      clear HK HFIN
      have c4 := HBL.out.cell 4 (.slice B nb cb) rfl
      cases z6
      · have n100 : ¬ 100 < nb := by have := of_decide_eq_false hz6; omega
        have HE2 : Hid (risingE ⟨#[]⟩ tp = r) := Lib.hid (by have := HE.out; rwa [if_neg n100] at this)
        go_wp2_with fail
        refine (risingR_walk B nb cb tp _ HTP.out (by omega) hcb (HSB.out.below HBW.out) r HE2).mono ?_; rintro e w6 ⟨rfl, hb6⟩
        have HB6 := Lib.hid (HBW.out.trans (hb6.mono HBW.out.size)); clear hb6
        go_wp2_with fail
        go_ret; exact ⟨rfl, HB6.out⟩
      · have n100 : 100 < nb := by have := of_decide_eq_true hz6; omega
        have HE2 : Hid (2 = r) := Lib.hid (by have := HE.out; rwa [if_pos n100] at this)
        go_wp2_with fail
        go_ret; exact ⟨ret_int HE2.out, HBW.out⟩
end Go.Proofs.YtjlbohbkhfhkpaaGreatDoor.Key
