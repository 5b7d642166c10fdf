/-
  The laws' own small functions (committeelaw2): errs (the first fault), when, keyFault.
-/
import Derived.Test.YtmihbfmlnfhgcadGreatDoorBlk
import Derived.Test.YtmihbfmlnfhgcadGreatDoorRefKey10
namespace Go.Proofs.YtmihbfmlnfhgcadGreatDoor.Cal
open Go.ChangeShapes Go.WideShapes Go.ChangeAt Go.RowKit Stm Key
set_option linter.unusedVariables false

/-- The first that is not 0. -/
def fstE : List Int → Int
  | [] => 0
  | x :: t => if x ≠ 0 then x else fstE t
/-- The fault of a key. -/
def kfE (p : ByteArray) : Int := if keyL p.data.toList = true then 0 else 5
theorem drop_one {l : List Int} {k : Nat} (h : k < l.length) : l.drop k = l[k] :: l.drop (k + 1) := List.drop_eq_getElem_cons h
set_option maxHeartbeats 1000000 in
theorem errs_any (g n cap : Nat) (l : List Int) (w : World) (hn : l.length = n) (hn2 : n ≤ 1000) (hc : ∀ (i : Nat) (h : i < l.length), w.cell? ⟨g, i, none⟩ = some (.int .i64 l[i])) (r : Int) (hr : Hid (fstE l = r)) :
    Calls Tryz.prog 9 #[.slice (some ⟨g, 0, none⟩) n cap] w fun e w' => e = .returned (.int .i64 r) ∧ w' = w := by
  have HN := Lib.hid hn
  have HC := Lib.hid hc
  clear hn hc
  go_enter Tryz.func9, Tryz.ntmps9
  go_wp2_with fail
  go_loop [7] (fun i => ∃ (k : Nat), k ≤ n ∧ i = .int .i64 k ∧ Hid (fstE (l.drop k) = r)) (fun i => n - (intOf i).toNat)
  case atStart => exact ⟨0, Nat.zero_le _, rfl, hr⟩
  case round =>
    obtain ⟨k, hk, rfl, HT⟩ := hrel
    by_cases hlt : k < n
    · have hkl : k < l.length := by rw [HN.out]; exact hlt
      have c0 := HC.out k hkl
      have HT2 := Lib.hid (show (if l[k] ≠ 0 then l[k] else fstE (l.drop (k + 1))) = r by rw [← HT.out, drop_one hkl]; rfl)
      clear HT
      generalize l[k] = x at *
      have a0 : (0 : Int) ≤ (k : Int) := by omega
      have a1 : (k : Int) < (n : Int) := by omega
      by_cases h0 : x = 0
      · subst h0
        have HE := Lib.hid (show fstE (l.drop (k + 1)) = r by have := HT2.out; simpa using this)
        go_wp2_with fail
        go_round
        case rel => exact ⟨k + 1, by omega, by go_num, HE⟩
        case measure => simp [intOf]; omega
      · have HE := Lib.hid (show x = r by have := HT2.out; rwa [if_pos h0] at this)
        have e1 : (x != 0) = true := by simpa using h0
        clear h0 HT2
        go_wp2_with fail
        go_ret
        exact ⟨Stm.ret_int HE.out, rfl⟩
    · have hkn : k = n := by omega
      subst hkn
      have HE := Lib.hid (show (0 : Int) = r by rw [← HT.out, List.drop_eq_nil_of_le (by rw [HN.out]; exact Nat.le_refl _)]; rfl)
      clear HT
      go_wp2_with fail
      go_ret
      exact ⟨Stm.ret_int HE.out, rfl⟩
theorem when_any (b : Bool) (x : Int) (w : World) (r : Int) (hr : (if b = true then x else 0) = r) :
    Calls Tryz.prog 31 #[.bool b, .int .i64 x] w fun e w' => e = .returned (.int .i64 r) ∧ w' = w := by
  subst hr
  cases b
  · go_enter Tryz.func31, Tryz.ntmps31
    go_wp2_with fail
    go_ret
    exact ⟨rfl, rfl⟩
  · go_enter Tryz.func31, Tryz.ntmps31
    go_wp2_with fail
    go_ret
    exact ⟨rfl, rfl⟩
theorem keyfault_any (s : ByteArray) (w : World) (hs : s.size ≤ 1000000) (r : Int) (hr : (if keyL s.data.toList = true then 0 else 5 : Int) = r) :
    Calls Tryz.prog 12 #[.string s] w fun e w' => e = .returned (.int .i64 r) ∧ Below w.heap.size w w' := by
  have HK := Lib.hid (key10_any s w hs)
  obtain ⟨b, hb⟩ : ∃ b, keyL s.data.toList = b := ⟨_, rfl⟩
  rw [hb] at HK hr
  clear hb
  go_enter Tryz.func12, Tryz.ntmps12
  go_wp2_with fail
  refine (HK.out).mono ?_; rintro e w1 ⟨rfl, hb1⟩
  go_wp2_with fail
  refine (when_any (!b) 5 w1 r (by rw [← hr]; cases b <;> rfl)).mono ?_; rintro e w2 ⟨rfl, rfl⟩
  go_wp2_with fail
  go_ret
  exact ⟨rfl, hb1⟩
end Go.Proofs.YtmihbfmlnfhgcadGreatDoor.Cal
