/-
  THE CONTRACTS OF LISTS OF KEYS: syntax.Rising, the reference's risingKeys: one function of the list.
-/
import Derived.Test.YtjlbohbkhfhkpaaGreatDoorGArrive
import Derived.Test.YtjlbohbkhfhkpaaGreatDoorGArrive
import Derived.Test.YtjlbohbkhfhkpaaGreatDoorGTopNew
import Derived.Test.YtjlbohbkhfhkpaaGreatDoorPlain
import Derived.Test.YtjlbohbkhfhkpaaGreatDoorShelf
namespace Go.Proofs.YtjlbohbkhfhkpaaGreatDoor.Key
open Go.ChangeShapes Go.WideShapes Go.ChangeAt Go.RowKit
set_option linter.unusedVariables false

def risingE (last : ByteArray) : List ByteArray → Int
  | [] => 0
  | x :: t => if afterE x last = 0 then risingE x t else afterE x last
def lastS (ss : List ByteArray) : Nat → ByteArray
  | 0 => ⟨#[]⟩
  | k + 1 => ss.getD k ⟨#[]⟩
theorem lastS_succ (ss : List ByteArray) (k : Nat) (h : k < ss.length) : lastS ss (k + 1) = ss[k] := by
  show ss.getD k ⟨#[]⟩ = _; simp [List.getD, List.getElem?_eq_getElem h]

set_option maxHeartbeats 2000000 in
theorem rising_walk (A : Option Addr) (n cap : Nat) (ss : List ByteArray) (most : Nat) (w : World) (hn : ss.length = n) (hn2 : n ≤ 1000000) (hm : most ≤ 1000000) (hS : SL w A ss) (r : Int) (hr : Hid ((if most < n then 2 else risingE ⟨#[]⟩ ss) = r)) :
    Calls Tryz.prog 78 #[.slice A n cap, .int .i64 most] w fun e w' => e = .returned (.int .i64 r) ∧ w' = w := by
  have HS := Lib.hid hS
  have HL := Lib.hid hn
  clear hS hn
  by_cases h0 : most < n
  · have hd : decide ((n : Int) > (most : Int)) = true := by simp; omega
    have HR : Hid (2 = r) := Lib.hid (by have := hr.out; rwa [if_pos h0] at this)
    clear hr
    go_enter Tryz.func78, Tryz.ntmps78
    go_wp2_with fail
    go_ret; exact ⟨ret_int HR.out, rfl⟩
  · have hd : decide ((n : Int) > (most : Int)) = false := by simp; omega
    have HR : Hid (risingE ⟨#[]⟩ ss = r) := Lib.hid (by have := hr.out; rwa [if_neg h0] at this)
    clear hr
    go_enter Tryz.func78, Tryz.ntmps78
    go_wp2_with fail
    go_loop [5, 15] (fun l i => ∃ (k : Nat) (s : ByteArray), k ≤ n ∧ i = .int .i64 k ∧ l = .string s ∧ Hid (risingE s (ss.drop k) = r)) (fun _ i => n - (intOf i).toNat)
    case atStart => exact ⟨0, ⟨#[]⟩, Nat.zero_le _, rfl, rfl, HR⟩
    case round =>
      obtain ⟨k, s, hk, rfl, rfl, HK⟩ := hrel
      by_cases hlt : k < n
      · obtain ⟨hsz, hcells⟩ := HS.out
        obtain ⟨b, hA, hbl, hc⟩ := hcells (by have := HL.out; omega)
        have hkl : k < ss.length := by have := HL.out; omega
        have hzz := hsz ss[k] (List.getElem_mem hkl)
        have c1 := hc k hkl
        have HK2 := HK.out
        rw [drop_step ss k hkl] at HK2
        unfold risingE at HK2
        generalize ss[k] = x at *
        have HKK := Lib.hid HK2
        subst hA
        clear HK2 hsz hcells hc HK
        by_cases ha : afterE x s = 0
        · have HA := Lib.hid ha
          have hk3 := HKK.out
          rw [if_pos ha] at hk3
          have HK3 := Lib.hid hk3
          clear HKK ha hk3
          go_wp2_with fail
          refine (after_any _ _ _ (by omega)).mono ?_; rintro e w1 ⟨rfl, rfl⟩; rw [HA.out]
          go_wp2_with fail
          go_round
          case rel => exact ⟨k + 1, x, by omega, by go_num, rfl, HK3⟩
          case measure => simp [intOf]; omega
        · have hk3 := HKK.out
          rw [if_neg ha] at hk3
          have HK3 := Lib.hid hk3
          have hne : (afterE x s != 0) = true := by rw [bne_iff_ne]; exact ha
          clear HKK hk3 ha
          go_wp2_with fail
          refine (after_any _ _ _ (by omega)).mono ?_; rintro e w1 ⟨rfl, rfl⟩
          generalize afterE x s = z at *
          go_wp2_with fail
          go_ret; exact ⟨ret_int HK3.out, rfl⟩
      · have HE : Hid (0 = r) := Lib.hid (by have := HK.out; rw [List.drop_of_length_le (by have := HL.out; omega)] at this; exact this)
        clear HK
        go_wp2_with fail
        go_ret; exact ⟨ret_int HE.out, rfl⟩

set_option maxHeartbeats 4000000 in
theorem risingR_walk (A : Option Addr) (n cap : Nat) (ss : List ByteArray) (w : World) (hn : ss.length = n) (hn2 : n ≤ 1000000) (hnc : n ≤ cap) (hS : SL w A ss) (r : Int) (hr : Hid (risingE ⟨#[]⟩ ss = r)) :
    Calls Tryz.prog 81 #[.slice A n cap] w fun e w' => e = .returned (.int .i64 r) ∧ Below w.heap.size w w' := by
  have HS := Lib.hid hS
  have HL := Lib.hid hn
  clear hS hn
  go_enter Tryz.func81, Tryz.ntmps81
  go_wp2_with fail
  go_loopw [7] (fun i wr => ∃ (k : Nat), k ≤ n ∧ i = .int .i64 k ∧ Hid (risingE (lastS ss k) (ss.drop k) = r) ∧ Hid (Below w.heap.size w wr)) (fun i _ => n - (intOf i).toNat)
  case atStart => exact ⟨0, Nat.zero_le _, rfl, hr, Lib.hid (Below.refl _ _)⟩
  case round =>
    obtain ⟨k, hk, rfl, HK, HBW⟩ := hrel
    by_cases hlt : k < n
    · obtain ⟨hsz, hcells⟩ := HS.out
      obtain ⟨b, hA, hbl, hc⟩ := hcells (by have := HL.out; omega)
      have hkl : k < ss.length := by have := HL.out; omega
      have hzz := hsz ss[k] (List.getElem_mem hkl)
      have c1 : wr.cell? ⟨b, k, none⟩ = some (.string ss[k]) := (HBW.out.cell (p := ⟨b, k, none⟩) hbl).trans (hc k hkl)
      have HK2 := HK.out
      rw [drop_step ss k hkl] at HK2
      unfold risingE afterE at HK2
      have HNX := Lib.hid (lastS_succ ss k hkl)
      have hprev : k = 0 ∨ ∃ j, k = j + 1 ∧ j < ss.length ∧ ∀ W, Below w.heap.size w W → W.cell? ⟨b, j, none⟩ = some (.string (lastS ss k)) := by
        cases k with
        | zero => exact Or.inl rfl
        | succ j =>
          refine Or.inr ⟨j, rfl, by omega, fun W hW => ?_⟩
          rw [lastS_succ ss j (by omega)]
          exact (hW.cell (p := ⟨b, j, none⟩) hbl).trans (hc j (by omega))
      have HPREV := Lib.hid hprev
      have HLE : Hid (k = 0 → keyL ss[k].data.toList = true → leB ss[k] (lastS ss k) = false) := Lib.hid fun h0 h => by subst h0; exact leB_empty _ h
      generalize ss[k] = x at *
      generalize lastS ss k = s at *
      have HKK := Lib.hid HK2
      have zw := HBW.out.size
      subst hA
      clear HK2 hsz hcells hc hprev HK HS
      obtain ⟨kp, hkp⟩ : ∃ b, keyL x.data.toList = b := ⟨_, rfl⟩
      have HP := Lib.hid hkp
      have hkk := HKK.out
      rw [hkp] at hkk
      replace HKK := Lib.hid hkk
      have hle0 := HLE.out
      rw [hkp] at hle0
      have HLEE := Lib.hid hle0
      clear hkp hkk hle0 HLE
      cases kp
      · go_wp2_with fail
        refine (keyOf_any _ _ (by omega)).mono ?_; rintro e w1 ⟨rfl, hB⟩; rw [HP.out]
        have HB2 := Lib.hid (HBW.out.trans (hB.mono HBW.out.size))
        clear hB
        go_wp2_with fail
        go_ret; exact ⟨ret_int (by rw [← HKK.out]; rfl), HB2.out⟩
      rcases HPREV.out with h0 | ⟨j, hj, hjl, hjc⟩
      · have hs0 : leB x s = false := HLEE.out h0 rfl
        have hk3 := HKK.out
        rw [hs0] at hk3
        replace HKK := Lib.hid hk3
        clear hk3 hs0
        subst h0
        go_wp2_with fail
        refine (keyOf_any _ _ (by omega)).mono ?_; rintro e w1 ⟨rfl, hB⟩; rw [HP.out]
        have HB2 := Lib.hid (HBW.out.trans (hB.mono HBW.out.size))
        clear hB c1
        go_wp2_with fail
        go_roundw
        case rel => exact ⟨1, by omega, rfl, Lib.hid (by rw [show lastS ss 1 = x from HNX.out]; have := HKK.out; simpa using this), HB2⟩
        case measure => simp [intOf]; omega
      · subst hj
        have HJC := Lib.hid hjc
        clear hjc HLEE
        have g1 : (j : Int) + 1 > 0 := by omega
        have g2 : (0 : Int) ≤ (j : Int) := by omega
        have g3 : (j : Int) < (n : Int) := by omega
        have g4 : IntKind.i64.wrap ((j : Int) + 1 - 1) = (j : Int) := by rw [show (j : Int) + 1 - 1 = j by omega]; exact IntWalk.i64_in _ (by omega)
        unfold leB at HKK
        cases h7 : Op.bytesLess x.toList s.toList <;> cases h8 : (x.toList == s.toList)
        all_goals
          rw [h7, h8] at HKK
          go_wp2_with fail
          refine (keyOf_any _ _ (by omega)).mono ?_; rintro e w1 ⟨rfl, hB⟩; rw [HP.out]
          have HB2 := Lib.hid (HBW.out.trans (hB.mono HBW.out.size))
          have e3 := HJC.out w1 HB2.out
          clear hB c1
          go_wp2_with fail
          first
            | (go_roundw
               case rel => exact ⟨j + 1 + 1, by omega, by go_num, Lib.hid (by rw [HNX.out]; have := HKK.out; simpa using this), HB2⟩
               case measure => simp [intOf]; omega)
            | (go_ret; exact ⟨ret_int (by rw [← HKK.out]; rfl), HB2.out⟩)
    · have HE : Hid (0 = r) := Lib.hid (by have := HK.out; rw [List.drop_of_length_le (by have := HL.out; omega)] at this; exact this)
      clear HK
      go_wp2_with fail
      go_ret; exact ⟨ret_int HE.out, HBW.out⟩
end Go.Proofs.YtjlbohbkhfhkpaaGreatDoor.Key

/-
  THE CONTRACT OF A PAPER's AUTHORS: submit.checkAuthors: one function of the list.
-/
namespace Go.Proofs.YtjlbohbkhfhkpaaGreatDoor.Key
open Go.ChangeShapes Go.WideShapes Go.ChangeAt Go.RowKit
set_option linter.unusedVariables false

def hasS (pre : List ByteArray) (x : ByteArray) : Bool := pre.any fun y => x.toList == y.toList
def authorsE (ss : List ByteArray) : Nat → List ByteArray → Int
  | _, [] => 0
  | k, x :: t => if keyL x.data.toList = false then 5 else if hasS (ss.take k) x then 6 else authorsE ss (k + 1) t
/-- What is wrong with keys that must differ, at most M of them. -/
def distinctE (ss : List ByteArray) (M : Int) : Int := if M < (ss.length : Int) then 2 else authorsE ss 0 ss
def checkAuthorsE (ss : List ByteArray) : Int := if ss.length = 0 then 8 else if 20 < ss.length then 2 else authorsE ss 0 ss

theorem has_any (b k cap : Nat) (ss : List ByteArray) (x : ByteArray) (w : World) (hk : k ≤ ss.length) (hk2 : k ≤ 1000000) (hc : ∀ (i : Nat) (h : i < ss.length), w.cell? ⟨b, i, none⟩ = some (.string ss[i])) :
    Calls Tryz.prog 30 #[.slice (some ⟨b, 0, none⟩) k cap, .string x] w fun e w' => e = .returned (.bool (hasS (ss.take k) x)) ∧ w' = w := by
  refine AnyE.slices_Contains (α := ByteArray) Tryz.laysSlE31_f30 Value.string (fun x y => x.toList == y.toList) (EqlAt.string _ _) b 0 k cap ss x w hk (by omega) ?_
  intro j hj
  rw [Nat.zero_add, getElem!_pos ss j hj]; exact hc j hj

set_option maxHeartbeats 4000000 in
theorem distinct_walk (A : Option Addr) (n cap : Nat) (M : Int) (ss : List ByteArray) (w : World) (hn : ss.length = n) (hn2 : n ≤ 1000000) (hnc : n ≤ cap) (hS : SL w A ss) (r : Int) (hr : Hid (distinctE ss M = r)) :
    Calls Tryz.prog 102 #[.slice A n cap, .int .i64 M] w fun e w' => e = .returned (.int .i64 r) ∧ w' = w := by
  have HS := Lib.hid hS
  have HL := Lib.hid hn
  clear hS hn
  obtain ⟨z2, hz2⟩ : ∃ b, decide ((n : Int) > M) = b := ⟨_, rfl⟩
  cases z2
  · have n20 : ¬ M < (n : Int) := by have := of_decide_eq_false hz2; omega
    have HR : Hid (authorsE ss 0 ss = r) := Lib.hid (by have := hr.out; unfold distinctE at this; rw [HL.out, if_neg n20] at this; exact this)
    clear hr n20
    go_enter Tryz.func102, Tryz.ntmps102
    go_wp2_with fail
    go_loop [13] (fun i => ∃ k : Nat, k ≤ n ∧ i = .int .i64 k ∧ Hid (authorsE ss k (ss.drop k) = r)) (fun i => n - (intOf i).toNat)
    case atStart => exact ⟨0, Nat.zero_le _, rfl, HR⟩
    case round =>
      obtain ⟨k, hk, rfl, HK⟩ := hrel
      by_cases hlt : k < n
      · obtain ⟨hsz, hcells⟩ := HS.out
        obtain ⟨b, hA, hbl, hc⟩ := hcells (by have := HL.out; omega)
        have hkl : k < ss.length := by have := HL.out; omega
        have hzz := hsz ss[k] (List.getElem_mem hkl)
        have c1 := hc k hkl
        have HC := Lib.hid hc
        have HK2 := HK.out
        rw [drop_step ss k hkl] at HK2
        unfold authorsE at HK2
        generalize ss[k] = x at *
        subst hA
        clear hsz hcells hc HK
        obtain ⟨kp, hkp⟩ : ∃ b, keyL x.data.toList = b := ⟨_, rfl⟩
        obtain ⟨hp, hhp⟩ : ∃ b, hasS (ss.take k) x = b := ⟨_, rfl⟩
        rw [hkp, hhp] at HK2
        have HKP := Lib.hid hkp
        have HHP := Lib.hid hhp
        have HKK := Lib.hid HK2
        clear HK2 hkp hhp
        cases kp
        · go_wp2_with fail
          refine (key_any _ _ (by omega)).mono ?_; rintro e w1 ⟨rfl, rfl⟩; rw [HKP.out]
          go_wp2_with fail
          go_ret; exact ⟨ret_int (by rw [← HKK.out]; rfl), rfl⟩
        · go_wp2_with fail
          refine (key_any _ _ (by omega)).mono ?_; rintro e w1 ⟨rfl, rfl⟩; rw [HKP.out]
          go_wp2_with fail
          refine (has_any b k _ ss x _ (by omega) (by omega) HC.out).mono ?_; rintro e w1 ⟨rfl, rfl⟩; rw [HHP.out]
          clear HHP c1
          cases hp
          · have HK3 : Hid (authorsE ss (k + 1) (ss.drop (k + 1)) = r) := Lib.hid (by have := HKK.out; simpa using this)
            clear HKK
            go_wp2_with fail
            go_round
            case rel => exact ⟨k + 1, by omega, by go_num, HK3⟩
            case measure => simp [intOf]; omega
          · go_wp2_with fail
            go_ret; exact ⟨ret_int (by rw [← HKK.out]; rfl), rfl⟩
      · have HE : Hid (0 = r) := Lib.hid (by have := HK.out; rw [List.drop_of_length_le (by have := HL.out; omega)] at this; exact this)
        clear HK
        go_wp2_with fail
        go_ret; exact ⟨ret_int HE.out, rfl⟩
  · have n20 : M < (n : Int) := by have := of_decide_eq_true hz2; omega
    have HR : Hid (2 = r) := Lib.hid (by have := hr.out; unfold distinctE at this; rwa [HL.out, if_pos n20] at this)
    clear hr n20
    go_enter Tryz.func102, Tryz.ntmps102
    go_wp2_with fail
    go_ret; exact ⟨ret_int HR.out, rfl⟩

set_option maxHeartbeats 4000000 in
theorem authors_walk (A : Option Addr) (n cap : Nat) (ss : List ByteArray) (w : World) (hn : ss.length = n) (hn2 : n ≤ 1000000) (hnc : n ≤ cap) (hS : SL w A ss) (r : Int) (hr : Hid (checkAuthorsE ss = r)) :
    Calls Tryz.prog 77 #[.slice A n cap] w fun e w' => e = .returned (.int .i64 r) ∧ w' = w := by
  obtain ⟨z1, hz1⟩ : ∃ b, ((n : Int) == 0) = b := ⟨_, rfl⟩
  cases z1
  · have n0 : n ≠ 0 := by rw [beq_eq_false_iff_ne] at hz1; omega
    have HR : Hid (distinctE ss 20 = r) := Lib.hid (by
      have := hr.out; unfold checkAuthorsE at this; rw [if_neg (by omega)] at this
      rw [← this]; unfold distinctE
      by_cases h : 20 < ss.length
      · rw [if_pos h, if_pos (by omega)]
      · rw [if_neg h, if_neg (by omega)])
    have HD := Lib.hid (distinct_walk A n cap 20 ss w hn hn2 hnc hS r HR)
    clear hr hn hS HR
    go_enter Tryz.func77, Tryz.ntmps77
    go_wp2_with fail
    refine (HD.out).mono ?_; rintro e w1 ⟨rfl, rfl⟩
    go_wp2_with fail
    go_ret; exact ⟨rfl, rfl⟩
  · have n0 : n = 0 := by rw [beq_iff_eq] at hz1; omega
    have HR : Hid (8 = r) := Lib.hid (by have := hr.out; unfold checkAuthorsE at this; rwa [if_pos (by omega)] at this)
    clear hr hn hS
    go_enter Tryz.func77, Tryz.ntmps77
    go_wp2_with fail
    go_ret; exact ⟨ret_int HR.out, rfl⟩
end Go.Proofs.YtjlbohbkhfhkpaaGreatDoor.Key
