/-
  THE CONTRACTS OF ONE ARRIVAL's CHECK: submit.CheckArrival and the reference's ArrivalFault: one function of the arrival.
-/
import Derived.Test.YtglmdgjbfnoidabDoorRefTexts
import Derived.Test.YtglmdgjbfnoidabDoorRefKeys
import Derived.Test.YtglmdgjbfnoidabDoorBlk
namespace Go.Proofs.YtglmdgjbfnoidabDoor.Key
open Go.ChangeShapes Go.WideShapes Go.ChangeAt Go.RowKit
set_option linter.unusedVariables false

/-- What is wrong with an arrival. -/
def arriveE (p : ByteArray) (at_ k : Int) (rs tx : ByteArray) : Int :=
  if keyL p.data.toList then
    if momentI at_ then
      if kindI k then
        if !rs.toList.isEmpty && !keyL rs.data.toList then 5
        else if bodyE tx = 0 then (if (k == 3) && (!tx.toList.isEmpty || !rs.toList.isEmpty) then 3 else 0) else bodyE tx
      else 4
    else 1
  else 5

theorem bodyE_cases (s : ByteArray) : bodyE s = 0 ∨ bodyE s = 2 ∨ bodyE s = 3 := by
  unfold bodyE; split
  · exact Or.inr (Or.inl rfl)
  · split
    · exact Or.inl rfl
    · exact Or.inr (Or.inr rfl)

set_option maxHeartbeats 4000000 in
theorem arrive_walk (p : ByteArray) (a k : Int) (rs tx : ByteArray) (w : World) (h1 : p.size ≤ 9223372036854775807) (h2 : rs.size ≤ 9223372036854775807) (h3 : tx.size ≤ 9223372036854775807) (hg : gTop ≤ w.heap.size) (hT : Tabs w) (r : Int) (hr : Hid (arriveE p a k rs tx = r)) :
    Calls Tryd.prog 10 #[.agg #[.string p, .int .i64 a, .int .i64 k, .string rs, .string tx]] w fun e w' => e = .returned (.int .i64 r) ∧ Below w.heap.size w w' := by
  have hb0 : Below w.heap.size w (w.alloc (.cells #[.string p, .int .i64 a, .int .i64 k, .string rs, .string tx] 31)) := (Below.refl _ _).alloc (Nat.le_refl _) _
  have HX := Lib.hid (checkText_any tx (w.alloc (.cells #[.string p, .int .i64 a, .int .i64 k, .string rs, .string tx] 31)) h3 (hT.below (hb0.mono hg)))
  have HA := Lib.hid (Blk.new w 31 #[.string p, .int .i64 a, .int .i64 k, .string rs, .string tx])
  have HB0 := Lib.hid hb0
  clear hT hb0
  obtain ⟨kp, hkp⟩ : ∃ b, keyL p.data.toList = b := ⟨_, rfl⟩
  obtain ⟨m, hm⟩ : ∃ b, momentI a = b := ⟨_, rfl⟩
  obtain ⟨kk, hkk⟩ : ∃ b, kindI k = b := ⟨_, rfl⟩
  obtain ⟨kr, hkr⟩ : ∃ b, keyL rs.data.toList = b := ⟨_, rfl⟩
  obtain ⟨be, hbe⟩ : ∃ b, bodyE tx = b := ⟨_, rfl⟩
  have hbc := bodyE_cases tx
  have HR := hr.out
  unfold arriveE at HR
  rw [hkp, hm, hkk, hkr, hbe] at HR
  rw [hbe] at hbc HX
  have HRR := Lib.hid HR
  have HP := Lib.hid hkp; have HM := Lib.hid hm; have HK := Lib.hid hkk; have HKR := Lib.hid hkr
  clear hr HR hkp hm hkk hkr hbe
  cases kp
  · go_enter Tryd.func10, Tryd.ntmps10
    go_wp2_with fail
    refine (key_any _ _ h1).mono ?_; rintro e w1 ⟨rfl, rfl⟩; rw [HP.out]
    go_wp2_with fail
    go_ret; exact ⟨ret_int (by rw [← HRR.out]; rfl), HB0.out⟩
  cases m
  · go_enter Tryd.func10, Tryd.ntmps10
    go_wp2_with fail
    refine (key_any _ _ h1).mono ?_; rintro e w1 ⟨rfl, rfl⟩; rw [HP.out]
    go_wp2_with fail
    refine (moment_any _ _).mono ?_; rintro e w1 ⟨rfl, rfl⟩; rw [HM.out]
    go_wp2_with fail
    go_ret; exact ⟨ret_int (by rw [← HRR.out]; rfl), HB0.out⟩
  cases kk
  · go_enter Tryd.func10, Tryd.ntmps10
    go_wp2_with fail
    refine (key_any _ _ h1).mono ?_; rintro e w1 ⟨rfl, rfl⟩; rw [HP.out]
    go_wp2_with fail
    refine (moment_any _ _).mono ?_; rintro e w1 ⟨rfl, rfl⟩; rw [HM.out]
    go_wp2_with fail
    refine (isKind_any _ _).mono ?_; rintro e w1 ⟨rfl, rfl⟩; rw [HK.out]
    go_wp2_with fail
    go_ret; exact ⟨ret_int (by rw [← HRR.out]; rfl), HB0.out⟩
  cases he : rs.toList.isEmpty <;> cases he2 : tx.toList.isEmpty <;> cases hk3 : (k == 3) <;> cases kr <;> rcases hbc with rfl | rfl | rfl
  all_goals
    rw [he, he2, hk3] at HRR
    go_enter Tryd.func10, Tryd.ntmps10
    go_wp2_with fail
    refine (key_any _ _ h1).mono ?_; rintro e w1 ⟨rfl, rfl⟩; rw [HP.out]
    go_wp2_with fail
    refine (moment_any _ _).mono ?_; rintro e w1 ⟨rfl, rfl⟩; rw [HM.out]
    go_wp2_with fail
    refine (isKind_any _ _).mono ?_; rintro e w1 ⟨rfl, rfl⟩; rw [HK.out]
    go_wp2_with (first
      | (go_at_call 26; refine (key_any _ _ h2).mono ?_; rintro e w1 ⟨rfl, rfl⟩; rw [HKR.out])
      | (go_at_call 28; refine (HX.out).mono ?_; rintro e w1 ⟨rfl, hB⟩
         have A1 := HA.out.below hB (by simp)
         have c2 := A1.cell 2 _ rfl
         have c3 := A1.cell 3 _ rfl
         have c4 := A1.cell 4 _ rfl
         have HB1 := Lib.hid (HB0.out.trans (hB.mono (by simp)))
         clear A1 hB))
    go_ret; exact ⟨ret_int (by rw [← HRR.out]; rfl), by first | exact HB1.out | exact HB0.out⟩
end Go.Proofs.YtglmdgjbfnoidabDoor.Key
