/-
  THE CONTRACT OF THE REFERENCE'S CallFault.
-/
import Derived.Test.YtglmdgjbfnoidabDoorCalls
import Derived.Deep.QuietTactic
import Derived.BigQuiet
namespace Go.Proofs.YtglmdgjbfnoidabDoor.Key
open Go.ChangeShapes Go.WideShapes Go.ChangeAt Go.RowKit
set_option linter.unusedVariables false

theorem leB_empty (x : ByteArray) (h : keyL x.data.toList = true) : leB x ⟨#[]⟩ = false := by
  unfold leB
  rw [Lib.toList_data, Lib.toList_data]
  cases hx : x.data.toList with
  | nil => rw [hx] at h; cases h
  | cons a l => rfl
/-- The key that stands before the k-th reason. -/
def lastOf (rs : List (ByteArray × Int)) : Nat → ByteArray
  | 0 => ⟨#[]⟩
  | k + 1 => (rs.getD k (⟨#[]⟩, 0)).1
theorem lastOf_succ (rs : List (ByteArray × Int)) (k : Nat) (h : k < rs.length) : lastOf rs (k + 1) = rs[k].1 := by
  show (rs.getD k (⟨#[]⟩, 0)).1 = _; simp [List.getD, List.getElem?_eq_getElem h]
theorem below_drewN {B : Nat} {a w : World} (h : Below B a w) (n : Nat) : Below B a (w.drewN n) := ⟨h.os, h.tape, h.output, h.size, h.block⟩

set_option maxHeartbeats 4000000 in
theorem callR_walk (o a f : Int) (A : Option Addr) (n cap : Nat) (rs : List (ByteArray × Int)) (w : World) (hn : rs.length = n) (hn2 : n ≤ 1000000) (hnc : n ≤ cap) (hR : Rsn w A rs) (r : Int) (hr : Hid (callE o a f rs = r)) :
    Calls Tryd.prog 8 #[.agg #[.int .i64 o, .int .i64 a, .int .i64 f, .slice A n cap]] w fun e w' => e = .returned (.int .i64 r) ∧ Below w.heap.size w w' := by
  have hb0 : Below w.heap.size w (w.alloc (.cells #[.int .i64 o, .int .i64 a, .int .i64 f, .slice A n cap] 28)) := (Below.refl _ _).alloc (Nat.le_refl _) _
  have HB := Lib.hid hb0
  have HBK := Lib.hid (Blk.new w 28 #[.int .i64 o, .int .i64 a, .int .i64 f, .slice A n cap])
  have HRS := Lib.hid hR
  clear hb0 hR
  obtain ⟨m, hm⟩ : ∃ b, momentI o = b := ⟨_, rfl⟩
  have HR := hr.out
  unfold callE at HR
  rw [hm, hn] at HR
  have HM := Lib.hid hm
  have HL := Lib.hid hn
  have HRR := Lib.hid HR
  clear hr HR hm hn
  cases m
  · go_enter Tryd.func8, Tryd.ntmps8
    go_wp2_with fail
    refine (momentR_any _ _).mono ?_; rintro e w1 ⟨rfl, rfl⟩; rw [HM.out]
    go_wp2_with fail
    go_ret; exact ⟨ret_int (by rw [← HRR.out]; rfl), HB.out⟩
  cases h1 : decide (a ≤ o) <;> cases h2 : decide (f < a) <;> cases h3 : decide (f ≥ 5761440) <;> cases h4 : decide ((n : Int) > 20)
  all_goals
    rw [h1, h2, h3, h4] at HRR
  case false.false.false.false =>
    go_enter Tryd.func8, Tryd.ntmps8
    go_wp2_with fail
    refine (momentR_any _ _).mono ?_; rintro e w1 ⟨rfl, rfl⟩; rw [HM.out]
    go_wp2_with fail
    go_loopw [35] (fun i wr => ∃ (k : Nat), k ≤ n ∧ i = .int .i64 k ∧ Hid (reasonsE (lastOf rs k) (rs.drop k) = r) ∧ Hid (Below w.heap.size w wr) ∧ Hid (Blk wr w.heap.size 28 #[.int .i64 o, .int .i64 a, .int .i64 f, .slice A n cap]))
      (fun i _ => n - (intOf i).toNat)
    case atStart => exact ⟨0, Nat.zero_le _, rfl, Lib.hid (by rw [← HRR.out]; rfl), HB, HBK⟩
    case round =>
      obtain ⟨k, hk, rfl, HK, HBW, HBL⟩ := hrel
      by_cases hlt : k < n
      · obtain ⟨hsz, hcells⟩ := HRS.out
        obtain ⟨b, hA, hbl, hc⟩ := hcells (by have := HL.out; omega)
        have hkl : k < rs.length := by have := HL.out; omega
        have hzz := hsz rs[k] (List.getElem_mem hkl)
        have c1 : wr.cell? ⟨b, k * 2, none⟩ = some (.string rs[k].1) := (HBW.out.cell (p := ⟨b, k * 2, none⟩) hbl).trans (hc k hkl).1
        have c2 : wr.cell? ⟨b, k * 2 + 1, none⟩ = some (.int .i64 rs[k].2) := (HBW.out.cell (p := ⟨b, k * 2 + 1, none⟩) hbl).trans (hc k hkl).2
        have HK2 := HK.out
        rw [drop_step rs k hkl] at HK2
        unfold reasonsE afterE at HK2
        have HNX := Lib.hid (lastOf_succ rs k hkl)
        have hprev : k = 0 ∨ ∃ j, k = j + 1 ∧ j < rs.length ∧ lastOf rs k = (rs.getD j (⟨#[]⟩, 0)).1 ∧ ∀ W, Below w.heap.size w W → W.cell? ⟨b, j * 2, none⟩ = some (.string (lastOf rs k)) := by
          cases k with
          | zero => exact Or.inl rfl
          | succ j =>
            refine Or.inr ⟨j, rfl, by omega, rfl, fun W hW => ?_⟩
            rw [lastOf_succ rs j (by omega)]
            exact (hW.cell (p := ⟨b, j * 2, none⟩) hbl).trans (hc j (by omega)).1
        have HPREV := Lib.hid hprev
        have HLE : Hid (k = 0 → keyL rs[k].1.data.toList = true → leB rs[k].1 (lastOf rs k) = false) := Lib.hid fun h0 h => by subst h0; exact leB_empty _ h
        generalize rs[k].1 = x at *
        generalize rs[k].2 = y at *
        generalize lastOf rs k = s at *
        have HKK := Lib.hid HK2
        have HBN := Lib.hid (HBW.out.alloc HBW.out.size (.cells #[.string x, .int .i64 y] 48))
        have HBE := Lib.hid (Blk.new wr 48 #[.string x, .int .i64 y])
        have HBL1 := Lib.hid (HBL.out.below ((Below.refl wr.heap.size wr).alloc (Nat.le_refl _) (.cells #[.string x, .int .i64 y] 48)) HBL.out.lt)
        have zw := HBW.out.size
        subst hA
        clear HK2 hsz hcells hc hprev HK HRS
        obtain ⟨kp, hkp⟩ : ∃ b, keyL x.data.toList = b := ⟨_, rfl⟩
        have HP := Lib.hid hkp
        have hkk := HKK.out
        rw [hkp] at hkk
        replace HKK := Lib.hid hkk
        have hle0 := HLE.out
        rw [hkp] at hle0
        have HLEE := Lib.hid hle0
        clear hkp hkk hle0 HLE
        cases kp
        · go_wp2_with fail
          refine (keyOf_any _ _ (by omega)).mono ?_; rintro e w1 ⟨rfl, hB⟩; rw [HP.out]
          have HB2 := Lib.hid (HBN.out.trans (hB.mono HBN.out.size))
          clear hB
          go_wp2_with fail
          go_ret; exact ⟨ret_int (by rw [← HKK.out]; rfl), HB2.out⟩
        rcases HPREV.out with h0 | ⟨j, hj, hjl, hjs, hjc⟩
        · have hs0 : leB x s = false := HLEE.out h0 rfl
          have hk3 := HKK.out
          rw [hs0] at hk3
          replace HKK := Lib.hid hk3
          clear hk3 hs0
          subst h0
          cases h5 : decide (y < 1) <;> cases h6 : decide (y > 5761440)
          all_goals
            rw [h5, h6] at HKK
            go_wp2_with fail
            refine (keyOf_any _ _ (by omega)).mono ?_; rintro e w1 ⟨rfl, hB⟩; rw [HP.out]
            have HB2 := Lib.hid (HBN.out.trans (hB.mono HBN.out.size))
            have HBL2 := Lib.hid (HBL1.out.below hB HBL1.out.lt)
            have e0 := (HBE.out.below hB HBE.out.lt).cell 0 _ rfl
            have e1 := (HBE.out.below hB HBE.out.lt).cell 1 _ rfl
            clear hB c1 c2
            go_wp2_with fail
            go_quiet (fail)
            go_wp2_with fail
            first
              | (go_roundw
                 case rel => exact ⟨1, by omega, rfl, Lib.hid (by rw [show lastOf rs 1 = x from HNX.out]; have := HKK.out; simpa using this), Lib.hid (below_drewN HB2.out _), Lib.hid HBL2.out⟩
                 case measure => simp [intOf]; omega)
              | (go_ret; exact ⟨ret_int (by rw [← HKK.out]; rfl), below_drewN HB2.out _⟩)
        · subst hj
          have HJC := Lib.hid hjc
          clear hjc hjs HLEE
          have g1 : (j : Int) + 1 > 0 := by omega
          have g2 : (0 : Int) ≤ (j : Int) := by omega
          have g3 : (j : Int) < (n : Int) := by omega
          have g4 : IntKind.i64.wrap ((j : Int) + 1 - 1) = (j : Int) := by rw [show (j : Int) + 1 - 1 = j by omega]; exact IntWalk.i64_in _ (by omega)
          unfold leB at HKK
          cases h7 : Op.bytesLess x.toList s.toList <;> cases h8 : (x.toList == s.toList)
          all_goals
            rw [h7, h8] at HKK
            cases h5 : decide (y < 1) <;> cases h6 : decide (y > 5761440)
          all_goals
            rw [h5, h6] at HKK
            go_wp2_with fail
            refine (keyOf_any _ _ (by omega)).mono ?_; rintro e w1 ⟨rfl, hB⟩; rw [HP.out]
            have HB2 := Lib.hid (HBN.out.trans (hB.mono HBN.out.size))
            have HBL2 := Lib.hid (HBL1.out.below hB HBL1.out.lt)
            have e0 := (HBE.out.below hB HBE.out.lt).cell 0 _ rfl
            have e1 := (HBE.out.below hB HBE.out.lt).cell 1 _ rfl
            have e2 := HBL2.out.cell 3 _ rfl
            have e3 := HJC.out w1 HB2.out
            clear hB c1 c2
            go_wp2_with fail
            go_quiet (fail)
            go_wp2_with fail
            first
              | (go_roundw
                 case rel => exact ⟨j + 1 + 1, by omega, by go_num, Lib.hid (by rw [HNX.out]; have := HKK.out; simpa using this), Lib.hid (below_drewN HB2.out _), Lib.hid HBL2.out⟩
                 case measure => simp [intOf]; omega)
              | (go_ret; exact ⟨ret_int (by rw [← HKK.out]; rfl), below_drewN HB2.out _⟩)
      · have HE : Hid (0 = r) := Lib.hid (by have := HK.out; rw [List.drop_of_length_le (by have := HL.out; omega)] at this; exact this)
        clear HK
        go_wp2_with fail
        go_ret; exact ⟨ret_int HE.out, HBW.out⟩
  all_goals
    go_enter Tryd.func8, Tryd.ntmps8
    go_wp2_with fail
    refine (momentR_any _ _).mono ?_; rintro e w1 ⟨rfl, rfl⟩; rw [HM.out]
    go_wp2_with fail
    go_ret; exact ⟨ret_int (by rw [← HRR.out]; rfl), HB.out⟩
end Go.Proofs.YtglmdgjbfnoidabDoor.Key
