/-
  THE CONTRACTS OF LISTS OF KEYS: syntax.Rising, the reference's risingKeys: one function of the list.
-/
import Derived.Test.YtanoojmgjinmfaaDoorCalls
import Derived.Test.YtanoojmgjinmfaaDoorRefCalls
import Derived.Test.YtanoojmgjinmfaaDoorStrs
namespace Go.Proofs.YtanoojmgjinmfaaDoor.Key
open Go.ChangeShapes Go.WideShapes Go.ChangeAt Go.RowKit
set_option linter.unusedVariables false

def risingE (last : ByteArray) : List ByteArray → Int
  | [] => 0
  | x :: t => if afterE x last = 0 then risingE x t else afterE x last
def lastS (ss : List ByteArray) : Nat → ByteArray
  | 0 => ⟨#[]⟩
  | k + 1 => ss.getD k ⟨#[]⟩
theorem lastS_succ (ss : List ByteArray) (k : Nat) (h : k < ss.length) : lastS ss (k + 1) = ss[k] := by
  show ss.getD k ⟨#[]⟩ = _; simp [List.getD, List.getElem?_eq_getElem h]

set_option maxHeartbeats 2000000 in
theorem rising_walk (A : Option Addr) (n cap : Nat) (ss : List ByteArray) (most : Nat) (w : World) (hn : ss.length = n) (hn2 : n ≤ 1000000) (hm : most ≤ 1000000) (hS : SL w A ss) (r : Int) (hr : Hid ((if most < n then 2 else risingE ⟨#[]⟩ ss) = r)) :
    Calls Tryd.prog 22 #[.slice A n cap, .int .i64 most] w fun e w' => e = .returned (.int .i64 r) ∧ w' = w := by
  have HS := Lib.hid hS
  have HL := Lib.hid hn
  clear hS hn
  by_cases h0 : most < n
  · have hd : decide ((n : Int) > (most : Int)) = true := by simp; omega
    have HR : Hid (2 = r) := Lib.hid (by have := hr.out; rwa [if_pos h0] at this)
    clear hr
    go_enter Tryd.func22, Tryd.ntmps22
    go_wp2_with fail
    go_ret; exact ⟨ret_int HR.out, rfl⟩
  · have hd : decide ((n : Int) > (most : Int)) = false := by simp; omega
    have HR : Hid (risingE ⟨#[]⟩ ss = r) := Lib.hid (by have := hr.out; rwa [if_neg h0] at this)
    clear hr
    go_enter Tryd.func22, Tryd.ntmps22
    go_wp2_with fail
    go_loop [5, 15] (fun l i => ∃ (k : Nat) (s : ByteArray), k ≤ n ∧ i = .int .i64 k ∧ l = .string s ∧ Hid (risingE s (ss.drop k) = r)) (fun _ i => n - (intOf i).toNat)
    case atStart => exact ⟨0, ⟨#[]⟩, Nat.zero_le _, rfl, rfl, HR⟩
    case round =>
      obtain ⟨k, s, hk, rfl, rfl, HK⟩ := hrel
      by_cases hlt : k < n
      · obtain ⟨hsz, hcells⟩ := HS.out
        obtain ⟨b, hA, hbl, hc⟩ := hcells (by have := HL.out; omega)
        have hkl : k < ss.length := by have := HL.out; omega
        have hzz := hsz ss[k] (List.getElem_mem hkl)
        have c1 := hc k hkl
        have HK2 := HK.out
        rw [drop_step ss k hkl] at HK2
        unfold risingE at HK2
        generalize ss[k] = x at *
        have HKK := Lib.hid HK2
        subst hA
        clear HK2 hsz hcells hc HK
        by_cases ha : afterE x s = 0
        · have HA := Lib.hid ha
          have hk3 := HKK.out
          rw [if_pos ha] at hk3
          have HK3 := Lib.hid hk3
          clear HKK ha hk3
          go_wp2_with fail
          refine (after_any _ _ _ (by omega)).mono ?_; rintro e w1 ⟨rfl, rfl⟩; rw [HA.out]
          go_wp2_with fail
          go_round
          case rel => exact ⟨k + 1, x, by omega, by go_num, rfl, HK3⟩
          case measure => simp [intOf]; omega
        · have hk3 := HKK.out
          rw [if_neg ha] at hk3
          have HK3 := Lib.hid hk3
          have hne : (afterE x s != 0) = true := by rw [bne_iff_ne]; exact ha
          clear HKK hk3 ha
          go_wp2_with fail
          refine (after_any _ _ _ (by omega)).mono ?_; rintro e w1 ⟨rfl, rfl⟩
          generalize afterE x s = z at *
          go_wp2_with fail
          go_ret; exact ⟨ret_int HK3.out, rfl⟩
      · have HE : Hid (0 = r) := Lib.hid (by have := HK.out; rw [List.drop_of_length_le (by have := HL.out; omega)] at this; exact this)
        clear HK
        go_wp2_with fail
        go_ret; exact ⟨ret_int HE.out, rfl⟩

set_option maxHeartbeats 4000000 in
theorem risingR_walk (A : Option Addr) (n cap : Nat) (ss : List ByteArray) (w : World) (hn : ss.length = n) (hn2 : n ≤ 1000000) (hnc : n ≤ cap) (hS : SL w A ss) (r : Int) (hr : Hid (risingE ⟨#[]⟩ ss = r)) :
    Calls Tryd.prog 26 #[.slice A n cap] w fun e w' => e = .returned (.int .i64 r) ∧ Below w.heap.size w w' := by
  have HS := Lib.hid hS
  have HL := Lib.hid hn
  clear hS hn
  go_enter Tryd.func26, Tryd.ntmps26
  go_wp2_with fail
  go_loopw [7] (fun i wr => ∃ (k : Nat), k ≤ n ∧ i = .int .i64 k ∧ Hid (risingE (lastS ss k) (ss.drop k) = r) ∧ Hid (Below w.heap.size w wr)) (fun i _ => n - (intOf i).toNat)
  case atStart => exact ⟨0, Nat.zero_le _, rfl, hr, Lib.hid (Below.refl _ _)⟩
  case round =>
    obtain ⟨k, hk, rfl, HK, HBW⟩ := hrel
    by_cases hlt : k < n
    · obtain ⟨hsz, hcells⟩ := HS.out
      obtain ⟨b, hA, hbl, hc⟩ := hcells (by have := HL.out; omega)
      have hkl : k < ss.length := by have := HL.out; omega
      have hzz := hsz ss[k] (List.getElem_mem hkl)
      have c1 : wr.cell? ⟨b, k, none⟩ = some (.string ss[k]) := (HBW.out.cell (p := ⟨b, k, none⟩) hbl).trans (hc k hkl)
      have HK2 := HK.out
      rw [drop_step ss k hkl] at HK2
      unfold risingE afterE at HK2
      have HNX := Lib.hid (lastS_succ ss k hkl)
      have hprev : k = 0 ∨ ∃ j, k = j + 1 ∧ j < ss.length ∧ ∀ W, Below w.heap.size w W → W.cell? ⟨b, j, none⟩ = some (.string (lastS ss k)) := by
        cases k with
        | zero => exact Or.inl rfl
        | succ j =>
          refine Or.inr ⟨j, rfl, by omega, fun W hW => ?_⟩
          rw [lastS_succ ss j (by omega)]
          exact (hW.cell (p := ⟨b, j, none⟩) hbl).trans (hc j (by omega))
      have HPREV := Lib.hid hprev
      have HLE : Hid (k = 0 → keyL ss[k].data.toList = true → leB ss[k] (lastS ss k) = false) := Lib.hid fun h0 h => by subst h0; exact leB_empty _ h
      generalize ss[k] = x at *
      generalize lastS ss k = s at *
      have HKK := Lib.hid HK2
      have zw := HBW.out.size
      subst hA
      clear HK2 hsz hcells hc hprev HK HS
      obtain ⟨kp, hkp⟩ : ∃ b, keyL x.data.toList = b := ⟨_, rfl⟩
      have HP := Lib.hid hkp
      have hkk := HKK.out
      rw [hkp] at hkk
      replace HKK := Lib.hid hkk
      have hle0 := HLE.out
      rw [hkp] at hle0
      have HLEE := Lib.hid hle0
      clear hkp hkk hle0 HLE
      cases kp
      · go_wp2_with fail
        refine (keyOf_any _ _ (by omega)).mono ?_; rintro e w1 ⟨rfl, hB⟩; rw [HP.out]
        have HB2 := Lib.hid (HBW.out.trans (hB.mono HBW.out.size))
        clear hB
        go_wp2_with fail
        go_ret; exact ⟨ret_int (by rw [← HKK.out]; rfl), HB2.out⟩
      rcases HPREV.out with h0 | ⟨j, hj, hjl, hjc⟩
      · have hs0 : leB x s = false := HLEE.out h0 rfl
        have hk3 := HKK.out
        rw [hs0] at hk3
        replace HKK := Lib.hid hk3
        clear hk3 hs0
        subst h0
        go_wp2_with fail
        refine (keyOf_any _ _ (by omega)).mono ?_; rintro e w1 ⟨rfl, hB⟩; rw [HP.out]
        have HB2 := Lib.hid (HBW.out.trans (hB.mono HBW.out.size))
        clear hB c1
        go_wp2_with fail
        go_roundw
        case rel => exact ⟨1, by omega, rfl, Lib.hid (by rw [show lastS ss 1 = x from HNX.out]; have := HKK.out; simpa using this), HB2⟩
        case measure => simp [intOf]; omega
      · subst hj
        have HJC := Lib.hid hjc
        clear hjc HLEE
        have g1 : (j : Int) + 1 > 0 := by omega
        have g2 : (0 : Int) ≤ (j : Int) := by omega
        have g3 : (j : Int) < (n : Int) := by omega
        have g4 : IntKind.i64.wrap ((j : Int) + 1 - 1) = (j : Int) := by rw [show (j : Int) + 1 - 1 = j by omega]; exact IntWalk.i64_in _ (by omega)
        unfold leB at HKK
        cases h7 : Op.bytesLess x.toList s.toList <;> cases h8 : (x.toList == s.toList)
        all_goals
          rw [h7, h8] at HKK
          go_wp2_with fail
          refine (keyOf_any _ _ (by omega)).mono ?_; rintro e w1 ⟨rfl, hB⟩; rw [HP.out]
          have HB2 := Lib.hid (HBW.out.trans (hB.mono HBW.out.size))
          have e3 := HJC.out w1 HB2.out
          clear hB c1
          go_wp2_with fail
          first
            | (go_roundw
               case rel => exact ⟨j + 1 + 1, by omega, by go_num, Lib.hid (by rw [HNX.out]; have := HKK.out; simpa using this), HB2⟩
               case measure => simp [intOf]; omega)
            | (go_ret; exact ⟨ret_int (by rw [← HKK.out]; rfl), HB2.out⟩)
    · have HE : Hid (0 = r) := Lib.hid (by have := HK.out; rw [List.drop_of_length_le (by have := HL.out; omega)] at this; exact this)
      clear HK
      go_wp2_with fail
      go_ret; exact ⟨ret_int HE.out, HBW.out⟩
end Go.Proofs.YtanoojmgjinmfaaDoor.Key
