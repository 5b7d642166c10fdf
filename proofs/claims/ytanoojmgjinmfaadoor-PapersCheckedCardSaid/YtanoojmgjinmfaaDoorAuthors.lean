/-
  THE CONTRACT OF A PAPER's AUTHORS: submit.checkAuthors: one function of the list.
-/
import Derived.Test.YtanoojmgjinmfaaDoorPlain
import Derived.Test.YtanoojmgjinmfaaDoorLists
import Derived.Test.YtanoojmgjinmfaaDoorShelf
namespace Go.Proofs.YtanoojmgjinmfaaDoor.Key
open Go.ChangeShapes Go.WideShapes Go.ChangeAt Go.RowKit
set_option linter.unusedVariables false

def hasS (pre : List ByteArray) (x : ByteArray) : Bool := pre.any fun y => x.toList == y.toList
def authorsE (ss : List ByteArray) : Nat → List ByteArray → Int
  | _, [] => 0
  | k, x :: t => if keyL x.data.toList = false then 5 else if hasS (ss.take k) x then 6 else authorsE ss (k + 1) t
/-- What is wrong with keys that must differ, at most M of them. -/
def distinctE (ss : List ByteArray) (M : Int) : Int := if M < (ss.length : Int) then 2 else authorsE ss 0 ss
def checkAuthorsE (ss : List ByteArray) : Int := if ss.length = 0 then 8 else if 20 < ss.length then 2 else authorsE ss 0 ss

theorem has_any (b k cap : Nat) (ss : List ByteArray) (x : ByteArray) (w : World) (hk : k ≤ ss.length) (hk2 : k ≤ 1000000) (hc : ∀ (i : Nat) (h : i < ss.length), w.cell? ⟨b, i, none⟩ = some (.string ss[i])) :
    Calls Tryd.prog 25 #[.slice (some ⟨b, 0, none⟩) k cap, .string x] w fun e w' => e = .returned (.bool (hasS (ss.take k) x)) ∧ w' = w := by
  refine AnyE.slices_Contains (α := ByteArray) Tryd.laysSlE31_f25 Value.string (fun x y => x.toList == y.toList) (EqlAt.string _ _) b 0 k cap ss x w hk (by omega) ?_
  intro j hj
  rw [Nat.zero_add, getElem!_pos ss j hj]; exact hc j hj

set_option maxHeartbeats 4000000 in
theorem distinct_walk (A : Option Addr) (n cap : Nat) (M : Int) (ss : List ByteArray) (w : World) (hn : ss.length = n) (hn2 : n ≤ 1000000) (hnc : n ≤ cap) (hS : SL w A ss) (r : Int) (hr : Hid (distinctE ss M = r)) :
    Calls Tryd.prog 41 #[.slice A n cap, .int .i64 M] w fun e w' => e = .returned (.int .i64 r) ∧ w' = w := by
  have HS := Lib.hid hS
  have HL := Lib.hid hn
  clear hS hn
  obtain ⟨z2, hz2⟩ : ∃ b, decide ((n : Int) > M) = b := ⟨_, rfl⟩
  cases z2
  · have n20 : ¬ M < (n : Int) := by have := of_decide_eq_false hz2; omega
    have HR : Hid (authorsE ss 0 ss = r) := Lib.hid (by have := hr.out; unfold distinctE at this; rw [HL.out, if_neg n20] at this; exact this)
    clear hr n20
    go_enter Tryd.func41, Tryd.ntmps41
    go_wp2_with fail
    go_loop [13] (fun i => ∃ k : Nat, k ≤ n ∧ i = .int .i64 k ∧ Hid (authorsE ss k (ss.drop k) = r)) (fun i => n - (intOf i).toNat)
    case atStart => exact ⟨0, Nat.zero_le _, rfl, HR⟩
    case round =>
      obtain ⟨k, hk, rfl, HK⟩ := hrel
      by_cases hlt : k < n
      · obtain ⟨hsz, hcells⟩ := HS.out
        obtain ⟨b, hA, hbl, hc⟩ := hcells (by have := HL.out; omega)
        have hkl : k < ss.length := by have := HL.out; omega
        have hzz := hsz ss[k] (List.getElem_mem hkl)
        have c1 := hc k hkl
        have HC := Lib.hid hc
        have HK2 := HK.out
        rw [drop_step ss k hkl] at HK2
        unfold authorsE at HK2
        generalize ss[k] = x at *
        subst hA
        clear hsz hcells hc HK
        obtain ⟨kp, hkp⟩ : ∃ b, keyL x.data.toList = b := ⟨_, rfl⟩
        obtain ⟨hp, hhp⟩ : ∃ b, hasS (ss.take k) x = b := ⟨_, rfl⟩
        rw [hkp, hhp] at HK2
        have HKP := Lib.hid hkp
        have HHP := Lib.hid hhp
        have HKK := Lib.hid HK2
        clear HK2 hkp hhp
        cases kp
        · go_wp2_with fail
          refine (key_any _ _ (by omega)).mono ?_; rintro e w1 ⟨rfl, rfl⟩; rw [HKP.out]
          go_wp2_with fail
          go_ret; exact ⟨ret_int (by rw [← HKK.out]; rfl), rfl⟩
        · go_wp2_with fail
          refine (key_any _ _ (by omega)).mono ?_; rintro e w1 ⟨rfl, rfl⟩; rw [HKP.out]
          go_wp2_with fail
          refine (has_any b k _ ss x _ (by omega) (by omega) HC.out).mono ?_; rintro e w1 ⟨rfl, rfl⟩; rw [HHP.out]
          clear HHP c1
          cases hp
          · have HK3 : Hid (authorsE ss (k + 1) (ss.drop (k + 1)) = r) := Lib.hid (by have := HKK.out; simpa using this)
            clear HKK
            go_wp2_with fail
            go_round
            case rel => exact ⟨k + 1, by omega, by go_num, HK3⟩
            case measure => simp [intOf]; omega
          · go_wp2_with fail
            go_ret; exact ⟨ret_int (by rw [← HKK.out]; rfl), rfl⟩
      · have HE : Hid (0 = r) := Lib.hid (by have := HK.out; rw [List.drop_of_length_le (by have := HL.out; omega)] at this; exact this)
        clear HK
        go_wp2_with fail
        go_ret; exact ⟨ret_int HE.out, rfl⟩
  · have n20 : M < (n : Int) := by have := of_decide_eq_true hz2; omega
    have HR : Hid (2 = r) := Lib.hid (by have := hr.out; unfold distinctE at this; rwa [HL.out, if_pos n20] at this)
    clear hr n20
    go_enter Tryd.func41, Tryd.ntmps41
    go_wp2_with fail
    go_ret; exact ⟨ret_int HR.out, rfl⟩

set_option maxHeartbeats 4000000 in
theorem authors_walk (A : Option Addr) (n cap : Nat) (ss : List ByteArray) (w : World) (hn : ss.length = n) (hn2 : n ≤ 1000000) (hnc : n ≤ cap) (hS : SL w A ss) (r : Int) (hr : Hid (checkAuthorsE ss = r)) :
    Calls Tryd.prog 21 #[.slice A n cap] w fun e w' => e = .returned (.int .i64 r) ∧ w' = w := by
  obtain ⟨z1, hz1⟩ : ∃ b, ((n : Int) == 0) = b := ⟨_, rfl⟩
  cases z1
  · have n0 : n ≠ 0 := by rw [beq_eq_false_iff_ne] at hz1; omega
    have HR : Hid (distinctE ss 20 = r) := Lib.hid (by
      have := hr.out; unfold checkAuthorsE at this; rw [if_neg (by omega)] at this
      rw [← this]; unfold distinctE
      by_cases h : 20 < ss.length
      · rw [if_pos h, if_pos (by omega)]
      · rw [if_neg h, if_neg (by omega)])
    have HD := Lib.hid (distinct_walk A n cap 20 ss w hn hn2 hnc hS r HR)
    clear hr hn hS HR
    go_enter Tryd.func21, Tryd.ntmps21
    go_wp2_with fail
    refine (HD.out).mono ?_; rintro e w1 ⟨rfl, rfl⟩
    go_wp2_with fail
    go_ret; exact ⟨rfl, rfl⟩
  · have n0 : n = 0 := by rw [beq_iff_eq] at hz1; omega
    have HR : Hid (8 = r) := Lib.hid (by have := hr.out; unfold checkAuthorsE at this; rwa [if_pos (by omega)] at this)
    clear hr hn hS
    go_enter Tryd.func21, Tryd.ntmps21
    go_wp2_with fail
    go_ret; exact ⟨ret_int HR.out, rfl⟩
end Go.Proofs.YtanoojmgjinmfaaDoor.Key
