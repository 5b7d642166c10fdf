/-
  THE CONTRACTS OF THE PROGRAM'S KEYS (package syntax): small, digit, Key, After, Moment: each computes, and leaves the world alone.
-/
import Derived.Test.YtmihbfmlnfhgcadGreatDoorProg
import Derived.WalkKit
import Derived.ProofKit
import Derived.OpenShut
import Derived.Below
import Derived.Lib.Hide
import Derived.Handy
namespace Go.Proofs.YtmihbfmlnfhgcadGreatDoor.Key
open Go.ChangeShapes Go.WideShapes Go.ChangeAt Go.RowKit
set_option linter.unusedVariables false

theorem ret_bool {a b : Bool} (h : a = b) : Ending.returned (.bool a) = .returned (.bool b) := by rw [h]
theorem ret_int {k : IntKind} {a b : Int} (h : a = b) : Ending.returned (.int k a) = .returned (.int k b) := by rw [h]

def smallI (c : Int) : Bool := decide (97 ≤ c ∧ c ≤ 122)
def digitI (c : Int) : Bool := decide (48 ≤ c ∧ c ≤ 57)
def keyI (c : Int) : Bool := smallI c || digitI c || decide (c = 45) || decide (c = 95)
def keyL : List UInt8 → Bool
  | [] => false
  | c :: l => decide (l.length < 40) && smallI c.toNat && (c :: l).all (fun c => keyI c.toNat)

theorem small_any (c : Int) (w : World) (h0 : 0 ≤ c) (h1 : c ≤ 255) : Calls Tryz.prog 58 #[.int .u8 c] w fun e w' => e = .returned (.bool (smallI c)) ∧ w' = w := by
  by_cases a : 97 ≤ c
  · by_cases b : c ≤ 122
    · have hr : smallI c = true := by unfold smallI; simp [a, b]
      rw [hr]; clear hr
      go_enter Tryz.func58, Tryz.ntmps58
      go_wp2
      go_ret; exact ⟨ret_bool (by simp <;> omega), rfl⟩
    · have hr : smallI c = false := by unfold smallI; simp; omega
      rw [hr]; clear hr
      go_enter Tryz.func58, Tryz.ntmps58
      go_wp2
      go_ret; exact ⟨ret_bool (by simp <;> omega), rfl⟩
  · have hr : smallI c = false := by unfold smallI; simp; omega
    rw [hr]; clear hr
    go_enter Tryz.func58, Tryz.ntmps58
    go_wp2
    go_ret; exact ⟨rfl, rfl⟩

theorem digit_any (c : Int) (w : World) (h0 : 0 ≤ c) (h1 : c ≤ 255) : Calls Tryz.prog 59 #[.int .u8 c] w fun e w' => e = .returned (.bool (digitI c)) ∧ w' = w := by
  by_cases a : 48 ≤ c
  · by_cases b : c ≤ 57
    · have hr : digitI c = true := by unfold digitI; simp [a, b]
      rw [hr]; clear hr
      go_enter Tryz.func59, Tryz.ntmps59
      go_wp2
      go_ret; exact ⟨ret_bool (by simp <;> omega), rfl⟩
    · have hr : digitI c = false := by unfold digitI; simp; omega
      rw [hr]; clear hr
      go_enter Tryz.func59, Tryz.ntmps59
      go_wp2
      go_ret; exact ⟨ret_bool (by simp <;> omega), rfl⟩
  · have hr : digitI c = false := by unfold digitI; simp; omega
    rw [hr]; clear hr
    go_enter Tryz.func59, Tryz.ntmps59
    go_wp2
    go_ret; exact ⟨rfl, rfl⟩

theorem take_snoc (s : ByteArray) (k : Nat) (h : k < s.size) : s.data.toList.take (k + 1) = s.data.toList.take k ++ [s[k]] := by
  rw [List.take_succ_eq_append_getElem (by simpa using h)]; rfl
theorem all_snoc (p : UInt8 → Bool) (s : ByteArray) (k : Nat) (h : k < s.size) : (s.data.toList.take (k + 1)).all p = ((s.data.toList.take k).all p && p s[k]) := by
  rw [take_snoc s k h, List.all_append]; simp
theorem all_no (p : UInt8 → Bool) (s : ByteArray) (k : Nat) (h : k < s.size) (hp : p s[k] = false) : s.data.toList.all p = false := by
  rw [List.all_eq_false]; exact ⟨s[k], List.mem_iff_getElem.2 ⟨k, by simpa using h, rfl⟩, by rw [hp]; decide⟩
theorem list_head (s : ByteArray) (h : 0 < s.size) : ∃ l, s.data.toList = s[0] :: l := by
  obtain ⟨⟨l⟩⟩ := s
  cases l with
  | nil => simp [ByteArray.size] at h
  | cons a l => exact ⟨l, rfl⟩
theorem size_list (s : ByteArray) : s.data.toList.length = s.size := rfl

set_option maxHeartbeats 1000000 in
theorem key_walk (s : ByteArray) (w : World) (hs : s.size ≤ 9223372036854775807) (r : Bool) (hr : Hid (keyL s.data.toList = r)) :
    Calls Tryz.prog 41 #[.string s] w fun e w' => e = .returned (.bool r) ∧ w' = w := by
  by_cases h0 : s.size < 1
  · obtain rfl : r = false := by
      rw [← hr.out]
      have : s.data.toList = [] := List.eq_nil_of_length_eq_zero (by rw [size_list]; omega)
      rw [this]; rfl
    have hd : decide ((s.size : Int) < 1) = true := by simp; omega
    go_enter Tryz.func41, Tryz.ntmps41
    go_wp2
    go_ret; exact ⟨rfl, rfl⟩
  · obtain ⟨l, hl⟩ := list_head s (by omega)
    have hsz : l.length + 1 = s.size := by rw [← size_list, hl]; rfl
    have hz : keyL s.data.toList = (decide (l.length < 40) && smallI (s[0]'(by omega)).toNat && s.data.toList.all (fun c => keyI c.toNat)) := by rw [hl]; rfl
    have HZ := Lib.hid hz; clear hz hl
    have h1 : 0 < s.size := by omega
    have hd : decide ((s.size : Int) < 1) = false := by simp; omega
    have hb := s[0].toNat_lt
    by_cases h40 : 40 < s.size
    · obtain rfl : r = false := by rw [← hr.out, HZ.out, decide_eq_false (by omega)]; rfl
      have hd2 : decide ((s.size : Int) > 40) = true := by simp; omega
      go_enter Tryz.func41, Tryz.ntmps41
      go_wp2
      go_ret; exact ⟨rfl, rfl⟩
    · have hd2 : decide ((s.size : Int) > 40) = false := by simp; omega
      cases hsm : smallI s[0].toNat
      · obtain rfl : r = false := by rw [← hr.out, HZ.out, hsm]; simp
        have HS := Lib.hid hsm; clear hsm
        go_enter Tryz.func41, Tryz.ntmps41
        go_wp2_with (go_at_call 58; refine (small_any _ _ (by omega) (by omega)).mono ?_; rintro e w' ⟨rfl, rfl⟩; rw [HS.out])
        go_ret; exact ⟨rfl, rfl⟩
      · have HA : Hid (s.data.toList.all (fun c => keyI c.toNat) = r) := Lib.hid (by rw [← hr.out, HZ.out, hsm, decide_eq_true (by omega)]; rfl)
        have HS := Lib.hid hsm; clear hsm hr HZ hsz
        go_enter Tryz.func41, Tryz.ntmps41
        go_wp2_with (go_at_call 58; refine (small_any _ _ (by omega) (by omega)).mono ?_; rintro e w' ⟨rfl, rfl⟩; rw [HS.out])
        go_loop [21] (fun i => ∃ k : Nat, k ≤ s.size ∧ i = .int .i64 k ∧ Hid ((s.data.toList.take k).all (fun c => keyI c.toNat) = true)) (fun i => s.size - (intOf i).toNat)
        case atStart => exact ⟨0, Nat.zero_le _, rfl, Lib.hid rfl⟩
        case round =>
          obtain ⟨k, hk, rfl, HK⟩ := hrel
          by_cases hlt : k < s.size
          · have hbk := s[k].toNat_lt
            obtain ⟨c, hc⟩ : ∃ c : Int, (s[k].toNat : Int) = c := ⟨_, rfl⟩
            have hc0 : 0 ≤ c := by omega
            have hc1 : c ≤ 255 := by omega
            have HC := Lib.hid hc
            have HNo : keyI c = false → r = false := fun h => by rw [← HA.out]; exact all_no _ s k hlt (by rw [hc]; exact h)
            have HYes : keyI c = true → (s.data.toList.take (k + 1)).all (fun c => keyI c.toNat) = true := fun h => by rw [all_snoc _ s k hlt, HK.out, hc, h]; rfl
            have HN := Lib.hid HNo; have HY := Lib.hid HYes; clear HNo HYes hc
            cases hs1 : smallI c <;> cases hs2 : digitI c <;> cases hs3 : (c == 45) <;> cases hs4 : (c == 95)
            all_goals
              have hs3' : (c != 45) = !(c == 45) := rfl
              have hs4' : (c != 95) = !(c == 95) := rfl
              rw [hs3] at hs3'; rw [hs4] at hs4'
              have hk : keyI c = (smallI c || digitI c || (c == 45) || (c == 95)) := rfl
              rw [hs1, hs2, hs3, hs4] at hk
              have HKK := Lib.hid hk; clear hk
              have H1 := Lib.hid hs1; have H2 := Lib.hid hs2; clear hs1 hs2
              simp only [Bool.not_true, Bool.not_false] at hs3' hs4'
              go_wp2_with (first
                | (go_at_call 58; rw [HC.out]; refine (small_any _ _ (by omega) (by omega)).mono ?_; rintro e w' ⟨rfl, rfl⟩; rw [H1.out])
                | (go_at_call 59; refine (digit_any _ _ (by omega) (by omega)).mono ?_; rintro e w' ⟨rfl, rfl⟩; rw [H2.out]))
              first
                | (go_round
                   case rel => exact ⟨k + 1, by omega, by go_num, Lib.hid (HY.out HKK.out)⟩
                   case measure => simp [intOf]; omega)
                | (go_ret; exact ⟨ret_bool (HN.out HKK.out).symm, rfl⟩)
          · obtain rfl : k = s.size := by omega
            have HR : Hid (true = r) := Lib.hid (by rw [← HA.out, ← HK.out, List.take_of_length_le (by rw [size_list]; exact Nat.le_refl _)])
            go_wp2
            go_ret; exact ⟨ret_bool HR.out, rfl⟩

theorem key_any (s : ByteArray) (w : World) (hs : s.size ≤ 9223372036854775807) :
    Calls Tryz.prog 41 #[.string s] w fun e w' => e = .returned (.bool (keyL s.data.toList)) ∧ w' = w := key_walk s w hs _ (Lib.hid rfl)

def momentI (n : Int) : Bool := decide (0 ≤ n ∧ n < 5761440)
def kindI (n : Int) : Bool := decide (1 ≤ n ∧ n ≤ 3)
end Go.Proofs.YtmihbfmlnfhgcadGreatDoor.Key
