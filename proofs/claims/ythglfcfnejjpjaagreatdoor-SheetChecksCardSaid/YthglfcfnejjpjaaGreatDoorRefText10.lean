/-
  THE CONTRACT OF THE REFERENCE'S IsText (package committeeref2).
-/
import Derived.Test.YthglfcfnejjpjaaGreatDoorRefKey10
namespace Go.Proofs.YthglfcfnejjpjaaGreatDoor.Key
open Go.ChangeShapes Go.WideShapes Go.ChangeAt Go.RowKit
set_option linter.unusedVariables false

theorem suffix_last (s : ByteArray) (h : 0 < s.size) : Lib.hasSuffix s.data.toList [10] = ((s[s.size - 1].toNat : Int) == 10) := by
  rw [← Lib.hasSuffix_of_drop]
  have hl : s.data.toList.length = s.size := size_list s
  have hd : s.data.toList.drop (s.data.toList.length - [(10 : UInt8)].length) = [s[s.size - 1]] := by
    show s.data.toList.drop (s.data.toList.length - 1) = _
    rw [hl, List.drop_eq_getElem_cons (by rw [hl]; omega), List.drop_of_length_le (by rw [hl]; omega)]
    rfl
  rw [hd, Bool.eq_iff_iff]
  have h1 : decide ([(10 : UInt8)].length ≤ s.data.toList.length) = true := decide_eq_true (by rw [hl]; exact h)
  rw [h1, Bool.true_and, beq_iff_eq, beq_iff_eq]
  constructor
  · intro e; injection e with e; rw [e]; rfl
  · intro e
    have : s[s.size - 1].toNat = 10 := by omega
    have h2 : s[s.size - 1] = 10 := UInt8.toNat_inj.1 this
    rw [h2]

set_option maxHeartbeats 2000000 in
theorem isText_walk (s : ByteArray) (w : World) (hs : s.size ≤ 1000000) (hT : Tabs w) (r : Bool) (hr : Hid (textL s.data.toList = r)) :
    Calls Tryz.prog 51 #[.string s] w fun e w' => e = .returned (.bool r) ∧ Below w.heap.size w w' := by
  have HV := Lib.hid (valid_any s w (by omega) hT)
  clear hT
  go_enter Tryz.func51, Tryz.ntmps51
  go_wp2_with fail
  go_loop [6] (fun i => ∃ k : Nat, k ≤ s.size ∧ i = .int .i64 k ∧ Hid (okL true (s.data.toList.take k) = true)) (fun i => s.size - (intOf i).toNat)
  case atStart => exact ⟨0, Nat.zero_le _, rfl, Lib.hid rfl⟩
  case round =>
    obtain ⟨k, hk, rfl, HK⟩ := hrel
    by_cases hlt : k < s.size
    · have hbk := s[k].toNat_lt
      have HN : Hid (okI true s[k].toNat = false → textL s.data.toList = false) := Lib.hid fun h => by
        have : okL true s.data.toList = false := all_no _ s k hlt h
        unfold textL formL; rw [this]; rfl
      have HY : Hid (okI true s[k].toNat = true → okL true (s.data.toList.take (k + 1)) = true) := Lib.hid fun h => by
        have := HK.out; unfold okL at this ⊢; rw [all_snoc _ s k hlt, this, h]; rfl
      obtain ⟨c, hc⟩ : ∃ c : Int, (s[k].toNat : Int) = c := ⟨_, rfl⟩
      rw [hc] at HN HY
      have HC := Lib.hid hc
      have hc0 : 0 ≤ c := by omega
      have hc1 : c ≤ 255 := by omega
      cases h1 : decide (c < 32) <;> cases h2 : (c == 10) <;> cases h3 : (c == 127)
      all_goals
        have hq : okI true c = (!(decide (c < 32) && !(c == 10) || (c == 127))) := rfl
        have h2' : (c != 10) = !(c == 10) := rfl
        rw [h2] at h2'
        conv at hq => rhs; rw [h1, h2, h3]
        simp only [Bool.not_true, Bool.not_false, Bool.and_true, Bool.and_false, Bool.or_true, Bool.or_false] at hq h2'
        have HQ := Lib.hid hq; clear hq
        first
          | (exfalso; simp at h1 h2 h3; omega)
          | (go_wp2_with fail
             first
               | (go_round
                  case rel => exact ⟨k + 1, by omega, by go_num, Lib.hid (HY.out HQ.out)⟩
                  case measure => simp [intOf]; omega)
               | (go_ret; exact ⟨ret_bool (by rw [← hr.out, HN.out HQ.out]), Below.refl _ _⟩))
    · have hok := okL_end true s k hlt HK.out
      have hres : textL s.data.toList = (Lib.validD s.data.toList && endL s.data.toList) := by unfold textL formL; rw [hok]; rfl
      have HR := Lib.hid (hres.symm.trans hr.out)
      clear hok hres hr HK
      generalize Lib.validD s.data.toList = v at HV HR
      cases v
      · have HE : Hid (false = r) := Lib.hid (by simpa using HR.out)
        go_wp2_with fail
        refine (HV.out).mono ?_; rintro e w1 ⟨rfl, hB⟩
        go_wp2_with fail
        go_ret; exact ⟨ret_bool HE.out, hB⟩
      · by_cases h0 : s.size = 0
        · have he : s.toList = [] := by have := empty_size s; rw [h0] at this; simpa using this
          have HE : Hid (true = r) := Lib.hid (by have := HR.out; unfold endL at this; rw [← Lib.toList_data, he] at this; simpa using this)
          go_wp2_with fail
          refine (HV.out).mono ?_; rintro e w1 ⟨rfl, hB⟩
          go_wp2_with fail
          go_ret; exact ⟨ret_bool HE.out, hB⟩
        · have he : ¬ s.toList = [] := by
            have := empty_size s; rw [decide_eq_false h0] at this; simpa using this
          have HL := Lib.hid (suffix_last s (by omega))
          have HE : Hid (((s[s.size - 1].toNat : Int) == 10) = r) := Lib.hid (by
            have := HR.out; unfold endL at this; rw [HL.out] at this
            have h2 : s.data.toList.isEmpty = false := by rw [← Lib.toList_data, List.isEmpty_eq_false_iff]; exact he
            rw [h2] at this; simpa using this)
          have hw : wrap64 ((s.size : Int) - 1) = ((s.size - 1 : Nat) : Int) := by
            rw [show (s.size : Int) - 1 = ((s.size - 1 : Nat) : Int) by omega]; exact IntWalk.wrap64_in _ (by omega)
          go_wp2_with fail
          refine (HV.out).mono ?_; rintro e w1 ⟨rfl, hB⟩
          go_wp2_with fail
          go_ret; exact ⟨ret_bool (by rw [List.isEmpty_eq_false_iff.2 he]; simpa using HE.out), hB⟩
end Go.Proofs.YthglfcfnejjpjaaGreatDoor.Key
