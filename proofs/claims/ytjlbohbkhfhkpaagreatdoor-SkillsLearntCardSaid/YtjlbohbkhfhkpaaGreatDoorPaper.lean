/-
  THE CONTRACT OF A PAPER's CHECK: submit.CheckPaper: one function of the paper.
-/
import Derived.Test.YtjlbohbkhfhkpaaGreatDoorGLists
import Derived.Test.YtjlbohbkhfhkpaaGreatDoorGArrive
namespace Go.Proofs.YtjlbohbkhfhkpaaGreatDoor.Key
open Go.ChangeShapes Go.WideShapes Go.ChangeAt Go.RowKit
set_option linter.unusedVariables false

def paperE (p t ti : ByteArray) (au tp : List ByteArray) : Int :=
  if keyL p.data.toList then
    if keyL t.data.toList then
      if decide ((ti.size : Int) > 200) then 2
      else if ti.toList.isEmpty then 3
      else if plainL ti.data.toList then
        if checkAuthorsE au = 0 then (if 100 < tp.length then 2 else risingE ⟨#[]⟩ tp) else checkAuthorsE au
      else 3
    else 5
  else 5

set_option maxHeartbeats 8000000 in
theorem paper_walk (p t ti : ByteArray) (A B : Option Addr) (na ca nb cb : Nat) (au tp : List ByteArray) (w : World) (h1 : p.size ≤ 1000) (h2 : t.size ≤ 1000) (h3 : ti.size ≤ 1000) (hau : au.length = na) (htp : tp.length = nb) (hna : na ≤ 1000) (hnb : nb ≤ 1000) (hca : na ≤ ca) (hcb : nb ≤ cb) (hA : SL w A au) (hB : SL w B tp) (hg : gTop ≤ w.heap.size) (hT : Tabs w) (r : Int) (hr : Hid (paperE p t ti au tp = r)) :
    Calls Tryz.prog 55 #[.agg #[.string p, .string t, .string ti, .slice A na ca, .slice B nb cb]] w fun e w' => e = .returned (.int .i64 r) ∧ Below w.heap.size w w' := by
  have hb0 : Below w.heap.size w (w.alloc (.cells #[.string p, .string t, .string ti, .slice A na ca, .slice B nb cb] 56)) := (Below.refl _ _).alloc (Nat.le_refl _) _
  have hz0 : w.heap.size ≤ (w.alloc (.cells #[.string p, .string t, .string ti, .slice A na ca, .slice B nb cb] 56)).heap.size := hb0.size
  have HX := Lib.hid (plain_any ti (w.alloc (.cells #[.string p, .string t, .string ti, .slice A na ca, .slice B nb cb] 56)) (by omega) (Nat.le_trans hg hz0) (hT.below (hb0.mono hg)))
  have HBK := Lib.hid (Blk.new w 56 #[.string p, .string t, .string ti, .slice A na ca, .slice B nb cb])
  have HB0 := Lib.hid hb0
  have HSA := Lib.hid hA
  have HSB := Lib.hid hB
  have HAU := Lib.hid hau
  have HTP := Lib.hid htp
  obtain ⟨kp, hkp⟩ : ∃ b, keyL p.data.toList = b := ⟨_, rfl⟩
  obtain ⟨kt, hkt⟩ : ∃ b, keyL t.data.toList = b := ⟨_, rfl⟩
  obtain ⟨z1, hz1⟩ : ∃ b, decide ((ti.size : Int) > 200) = b := ⟨_, rfl⟩
  obtain ⟨z2, hz2⟩ : ∃ b, ti.toList.isEmpty = b := ⟨_, rfl⟩
  obtain ⟨z3, hz3⟩ : ∃ b, plainL ti.data.toList = b := ⟨_, rfl⟩
  obtain ⟨ca0, hca0⟩ : ∃ b, checkAuthorsE au = b := ⟨_, rfl⟩
  have HR := hr.out
  unfold paperE at HR
  rw [hkp, hkt, hz1, hz2, hz3, hca0] at HR
  rw [hz3] at HX
  have HRR := Lib.hid HR
  have HP := Lib.hid hkp; have HKT := Lib.hid hkt; have HCA := Lib.hid hca0
  clear hr HR hkp hkt hz3 hca0 hA hB hau htp hT hb0 hg hz0
  cases kp
  · go_enter Tryz.func55, Tryz.ntmps55
    go_wp2_with fail
    refine (key_any _ _ (by omega)).mono ?_; rintro e w1 ⟨rfl, rfl⟩; rw [HP.out]
    go_wp2_with fail
    go_ret; exact ⟨ret_int (by rw [← HRR.out]; rfl), HB0.out⟩
  cases kt
  · go_enter Tryz.func55, Tryz.ntmps55
    go_wp2_with fail
    refine (key_any _ _ (by omega)).mono ?_; rintro e w1 ⟨rfl, rfl⟩; rw [HP.out]
    go_wp2_with fail
    refine (key_any _ _ (by omega)).mono ?_; rintro e w1 ⟨rfl, rfl⟩; rw [HKT.out]
    go_wp2_with fail
    go_ret; exact ⟨ret_int (by rw [← HRR.out]; rfl), HB0.out⟩
  cases z1
  case true =>
    go_enter Tryz.func55, Tryz.ntmps55
    go_wp2_with fail
    refine (key_any _ _ (by omega)).mono ?_; rintro e w1 ⟨rfl, rfl⟩; rw [HP.out]
    go_wp2_with fail
    refine (key_any _ _ (by omega)).mono ?_; rintro e w1 ⟨rfl, rfl⟩; rw [HKT.out]
    go_wp2_with fail
    go_ret; exact ⟨ret_int (by rw [← HRR.out]; rfl), HB0.out⟩
  cases z2
  case true =>
    go_enter Tryz.func55, Tryz.ntmps55
    go_wp2_with fail
    refine (key_any _ _ (by omega)).mono ?_; rintro e w1 ⟨rfl, rfl⟩; rw [HP.out]
    go_wp2_with fail
    refine (key_any _ _ (by omega)).mono ?_; rintro e w1 ⟨rfl, rfl⟩; rw [HKT.out]
    go_wp2_with fail
    go_ret; exact ⟨ret_int (by rw [← HRR.out]; rfl), HB0.out⟩
  cases z3
  · go_enter Tryz.func55, Tryz.ntmps55
    go_wp2_with fail
    refine (key_any _ _ (by omega)).mono ?_; rintro e w1 ⟨rfl, rfl⟩; rw [HP.out]
    go_wp2_with fail
    refine (key_any _ _ (by omega)).mono ?_; rintro e w1 ⟨rfl, rfl⟩; rw [HKT.out]
    go_wp2_with fail
    refine HX.out.mono ?_; rintro e w1 ⟨rfl, hb1⟩
    have HB1 := Lib.hid (HB0.out.trans (hb1.mono HB0.out.size))
    clear hb1
    go_wp2_with fail
    go_ret; exact ⟨ret_int (by rw [← HRR.out]; rfl), HB1.out⟩
  · go_enter Tryz.func55, Tryz.ntmps55
    go_wp2_with fail
    refine (key_any _ _ (by omega)).mono ?_; rintro e w1 ⟨rfl, rfl⟩; rw [HP.out]
    go_wp2_with fail
    refine (key_any _ _ (by omega)).mono ?_; rintro e w1 ⟨rfl, rfl⟩; rw [HKT.out]
    go_wp2_with fail
    refine HX.out.mono ?_; rintro e w1 ⟨rfl, hb1⟩
    have HB1 := Lib.hid (HB0.out.trans (hb1.mono HB0.out.size))
    have HK1 := Lib.hid (HBK.out.below hb1 HBK.out.lt)
    have c3 := HK1.out.cell 3 (.slice A na ca) rfl
    have c4 := HK1.out.cell 4 (.slice B nb cb) rfl
    clear hb1
    go_wp2_with fail
    refine (authors_walk A na ca au w1 HAU.out (by omega) hca (HSA.out.below HB1.out) ca0 HCA).mono ?_; rintro e w2 ⟨rfl, rfl⟩
    by_cases h0 : ca0 = 0
    · subst h0
      have HE : Hid ((if 100 < nb then 2 else risingE ⟨#[]⟩ tp) = r) := Lib.hid (by have := HRR.out; rw [HTP.out] at this; simpa using this)
      go_wp2_with fail
      refine (rising_walk B nb cb tp 100 _ HTP.out (by omega) (by omega) (HSB.out.below HB1.out) r HE).mono ?_; rintro e w2 ⟨rfl, rfl⟩
      go_wp2_with fail
      go_ret; exact ⟨rfl, HB1.out⟩
    · have HE : Hid (ca0 = r) := Lib.hid (by have := HRR.out; rw [if_neg h0] at this; simpa using this)
      have hne : (ca0 != 0) = true := by rw [bne_iff_ne]; exact h0
      go_wp2_with fail
      go_ret; exact ⟨ret_int HE.out, HB1.out⟩
end Go.Proofs.YtjlbohbkhfhkpaaGreatDoor.Key
