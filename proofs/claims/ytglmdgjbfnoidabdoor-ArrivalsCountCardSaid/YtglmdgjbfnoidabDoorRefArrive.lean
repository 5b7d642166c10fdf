/-
  THE CONTRACT OF THE REFERENCE'S ArrivalFault.
-/
import Derived.Test.YtglmdgjbfnoidabDoorArrive
namespace Go.Proofs.YtglmdgjbfnoidabDoor.Key
open Go.ChangeShapes Go.WideShapes Go.ChangeAt Go.RowKit
set_option linter.unusedVariables false

set_option maxHeartbeats 4000000 in
theorem arriveR_walk (p : ByteArray) (a k : Int) (rs tx : ByteArray) (w : World) (h1 : p.size ≤ 9223372036854775807) (h2 : rs.size ≤ 9223372036854775807) (h3 : tx.size ≤ 9223372036854775807) (hg : gTop ≤ w.heap.size) (hT : Tabs w) (r : Int) (hr : Hid (arriveE p a k rs tx = r)) :
    Calls Tryd.prog 11 #[.agg #[.string p, .int .i64 a, .int .i64 k, .string rs, .string tx]] w fun e w' => e = .returned (.int .i64 r) ∧ Below w.heap.size w w' := by
  have hb0 : Below w.heap.size w (w.alloc (.cells #[.string p, .int .i64 a, .int .i64 k, .string rs, .string tx] 31)) := (Below.refl _ _).alloc (Nat.le_refl _) _
  have HTX : ∀ W, Below w.heap.size w W → Calls Tryd.prog 29 #[.string tx] W fun e w' => e = .returned (.bool (textL tx.data.toList)) ∧ Below W.heap.size W w' :=
    fun W hW => textOf_any tx W h3 (Nat.le_trans hg hW.size) (hT.below (hW.mono hg))
  have HX := Lib.hid HTX; clear HTX
  have HA := Lib.hid (Blk.new w 31 #[.string p, .int .i64 a, .int .i64 k, .string rs, .string tx])
  have HB := Lib.hid hb0
  have Hz : Hid (w.heap.size < (w.alloc (.cells #[.string p, .int .i64 a, .int .i64 k, .string rs, .string tx] 31)).heap.size) := Lib.hid (by simp)
  clear hT hb0
  obtain ⟨kp, hkp⟩ : ∃ b, keyL p.data.toList = b := ⟨_, rfl⟩
  obtain ⟨m, hm⟩ : ∃ b, momentI a = b := ⟨_, rfl⟩
  obtain ⟨kr, hkr⟩ : ∃ b, keyL rs.data.toList = b := ⟨_, rfl⟩
  obtain ⟨tt, htt⟩ : ∃ b, textL tx.data.toList = b := ⟨_, rfl⟩
  have hl : bodyE tx = if decide ((tx.size : Int) > 20000) = true then 2 else if tt then 0 else 3 := by
    unfold bodyE; rw [htt]; by_cases h : 20000 < tx.size
    · have h5 : decide ((tx.size : Int) > 20000) = true := by simp; omega
      rw [if_pos h, h5]; rfl
    · have h5 : decide ((tx.size : Int) > 20000) = false := by simp; omega
      rw [if_neg h, h5]; rfl
  have hkI : kindI k = (!decide (k < 1) && !decide (k > 3)) := by
    unfold kindI; by_cases a1 : k < 1 <;> by_cases a2 : k > 3 <;> simp [a1, a2] <;> omega
  have HR := hr.out
  unfold arriveE at HR
  rw [hkp, hm, hkI, hkr, hl] at HR
  rw [htt] at HX
  have HRR := Lib.hid HR
  have HP := Lib.hid hkp; have HM := Lib.hid hm; have HKR := Lib.hid hkr
  clear hr HR hkp hm hkI hkr hl htt
  cases kp
  · go_enter Tryd.func11, Tryd.ntmps11
    go_wp2_with fail
    refine (keyOf_any _ _ h1).mono ?_; rintro e w1 ⟨rfl, hB⟩; rw [HP.out]
    replace HB := Lib.hid (HB.out.trans (hB.mono HB.out.size))
    clear HA Hz hB
    go_wp2_with fail
    go_ret; exact ⟨ret_int (by rw [← HRR.out]; rfl), HB.out⟩
  cases m
  · go_enter Tryd.func11, Tryd.ntmps11
    go_wp2_with fail
    refine (keyOf_any _ _ h1).mono ?_; rintro e w1 ⟨rfl, hB⟩; rw [HP.out]
    replace HA := Lib.hid (HA.out.below hB Hz.out)
    replace HB := Lib.hid (HB.out.trans (hB.mono HB.out.size))
    have c1 := HA.out.cell 1 _ rfl
    clear Hz hB
    go_wp2_with fail
    refine (momentR_any _ _).mono ?_; rintro e w1 ⟨rfl, rfl⟩; rw [HM.out]
    go_wp2_with fail
    go_ret; exact ⟨ret_int (by rw [← HRR.out]; rfl), HB.out⟩
  cases hk1 : decide (k < 1) <;> cases hk2 : decide (k > 3)
  case true.true => exfalso; simp at hk1 hk2; omega
  case true.false | false.true =>
    rw [hk1, hk2] at HRR
    go_enter Tryd.func11, Tryd.ntmps11
    go_wp2_with fail
    refine (keyOf_any _ _ h1).mono ?_; rintro e w1 ⟨rfl, hB⟩; rw [HP.out]
    replace HA := Lib.hid (HA.out.below hB Hz.out)
    replace HB := Lib.hid (HB.out.trans (hB.mono HB.out.size))
    have c1 := HA.out.cell 1 _ rfl
    have c2 := HA.out.cell 2 _ rfl
    clear Hz hB
    go_wp2_with fail
    refine (momentR_any _ _).mono ?_; rintro e w1 ⟨rfl, rfl⟩; rw [HM.out]
    go_wp2_with fail
    go_ret; exact ⟨ret_int (by rw [← HRR.out]; rfl), HB.out⟩
  rw [hk1, hk2] at HRR
  cases he : rs.toList.isEmpty <;> cases kr <;> cases hsz : decide ((tx.size : Int) > 20000) <;> cases tt <;> cases he2 : tx.toList.isEmpty <;> cases hk3 : (k == 3)
  all_goals
    rw [he, he2, hk3, hsz] at HRR
    go_enter Tryd.func11, Tryd.ntmps11
    go_wp2_with fail
    refine (keyOf_any _ _ h1).mono ?_; rintro e w1 ⟨rfl, hB⟩; rw [HP.out]
    replace HA := Lib.hid (HA.out.below hB Hz.out)
    replace HB := Lib.hid (HB.out.trans (hB.mono HB.out.size))
    have c1 := HA.out.cell 1 _ rfl
    have c2 := HA.out.cell 2 _ rfl
    have c3 := HA.out.cell 3 _ rfl
    have c4 := HA.out.cell 4 _ rfl
    replace Hz : Hid (w.heap.size < w1.heap.size) := Lib.hid (Nat.lt_of_lt_of_le Hz.out hB.size)
    clear hB
    go_wp2_with fail
    refine (momentR_any _ _).mono ?_; rintro e w1 ⟨rfl, rfl⟩; rw [HM.out]
    go_wp2_with (first
      | (go_at_call 23; refine (keyOf_any _ _ h2).mono ?_; rintro e w2 ⟨rfl, hB⟩; rw [HKR.out]
         replace HA := Lib.hid (HA.out.below hB Hz.out)
         replace HB := Lib.hid (HB.out.trans (hB.mono HB.out.size))
         replace Hz : Hid (w.heap.size < w2.heap.size) := Lib.hid (Nat.lt_of_lt_of_le Hz.out hB.size)
         clear c1 c2 c3 c4 hB
         have c2 := HA.out.cell 2 _ rfl
         have c3 := HA.out.cell 3 _ rfl
         have c4 := HA.out.cell 4 _ rfl)
      | (go_at_call 29; refine (HX.out _ HB.out).mono ?_; rintro e w3 ⟨rfl, hB⟩
         replace HA := Lib.hid (HA.out.below hB Hz.out)
         replace HB := Lib.hid (HB.out.trans (hB.mono HB.out.size))
         clear c2 c3 c4 hB
         have c2 := HA.out.cell 2 _ rfl
         have c3 := HA.out.cell 3 _ rfl
         have c4 := HA.out.cell 4 _ rfl))
    go_ret; exact ⟨ret_int (by rw [← HRR.out]; rfl), HB.out⟩
end Go.Proofs.YtglmdgjbfnoidabDoor.Key
