/-
  THE CONTRACTS OF THE REFERENCE'S TEXTS: wellFormed, TextOf; and of the program's checkText.
-/
import Derived.Test.YtanoojmgjinmfaaDoorTexts
namespace Go.Proofs.YtanoojmgjinmfaaDoor.Key
open Go.ChangeShapes Go.WideShapes Go.ChangeAt Go.RowKit
set_option linter.unusedVariables false

theorem bytes_of (s : ByteArray) (w : World) : ∃ (cap : Nat) (W1 : World), (convert 9 57 (.string s)).run Tryd.prog w = .ok (.slice (some ⟨w.heap.size, 0, none⟩) s.size cap) W1 ∧
    (∀ (i : Nat) (h : i < s.size), W1.cell? ⟨w.heap.size, i, none⟩ = some (.int .u8 s[i].toNat)) ∧ Below w.heap.size w W1 := by
  refine ⟨_, _, run_bytes_of_string w 9 57 5 s Tryd.underlying9 Tryd.underlying57 Tryd.underlying5, fun i h => ?_, ((Below.refl _ _).drew).alloc (by simp) _⟩
  have h1 : (w.drew.alloc (.cells (bytesRow s (grownCap w s.size 0 5)) 5 ((bytesRow s (grownCap w s.size 0 5)).size, (bytesRow s (grownCap w s.size 0 5)).size + 1))).heap[w.heap.size]? = some (.cells (bytesRow s (grownCap w s.size 0 5)) 5 ((bytesRow s (grownCap w s.size 0 5)).size, (bytesRow s (grownCap w s.size 0 5)).size + 1)) := heap_alloc_new w.drew _
  simp only [World.cell?, h1]
  have := bytesRow_at s (grownCap w s.size 0 5) i h
  simp only [this]
  rfl

set_option maxHeartbeats 2000000 in
theorem formed_walk (s : ByteArray) (f : Bool) (w : World) (hs : s.size ≤ 9223372036854775807) (hg : gTop ≤ w.heap.size) (hT : Tabs w) (r : Bool) (hr : Hid (formL f s.data.toList = r)) :
    Calls Tryd.prog 44 #[.string s, .bool f] w fun e w' => e = .returned (.bool r) ∧ Below w.heap.size w w' := by
  obtain ⟨cap, W1, hconv, hcell, hb1⟩ := bytes_of s w
  have HV := Lib.hid (valid_any s W1 hs (hT.below (hb1.mono hg)))
  have HCELL := Lib.hid hcell
  have z1 := hb1.size
  have HB1 := Lib.hid hb1
  clear hT hcell hb1
  obtain ⟨g, hfg⟩ : ∃ g, f = g := ⟨_, rfl⟩
  rw [hfg] at hr
  have HG := Lib.hid hfg; clear hfg
  cases f
  all_goals
    go_enter Tryd.func44, Tryd.ntmps44
    go_wp2_with fail
    clear hconv
    go_loop [10] (fun i => ∃ k : Nat, k ≤ s.size ∧ i = .int .i64 k ∧ Hid (okL g (s.data.toList.take k) = true)) (fun i => s.size - (intOf i).toNat)
    case atStart => exact ⟨0, Nat.zero_le _, rfl, Lib.hid rfl⟩
    case round =>
      obtain ⟨k, hk, rfl, HK⟩ := hrel
      by_cases hlt : k < s.size
      · have hbk := s[k].toNat_lt
        have hck := HCELL.out k hlt
        have HN : Hid (okI g s[k].toNat = false → formL g s.data.toList = false) := Lib.hid fun h => by
          have : okL g s.data.toList = false := all_no _ s k hlt h
          unfold formL; rw [this]; rfl
        have HY : Hid (okI g s[k].toNat = true → okL g (s.data.toList.take (k + 1)) = true) := Lib.hid fun h => by
          have := HK.out; unfold okL at this ⊢; rw [all_snoc _ s k hlt, this, h]; rfl
        obtain ⟨c, hc⟩ : ∃ c : Int, (s[k].toNat : Int) = c := ⟨_, rfl⟩
        rw [hc] at hck HN HY
        clear hc
        cases h1 : decide (c < 32) <;> cases h2 : (c == 10) <;> cases h3 : (c == 127)
        all_goals
          have hq : okI g c = (!(decide (c < 32) && !(g && (c == 10)) || (c == 127))) := rfl
          conv at hq => rhs; rw [h1, h2, h3, ← HG.out]
          simp only [Bool.not_true, Bool.not_false, Bool.and_true, Bool.and_false, Bool.or_true, Bool.or_false, Bool.true_and, Bool.false_and, Bool.true_or, Bool.false_or] at hq
          have HQ := Lib.hid hq; clear hq
          first
            | (exfalso; simp at h1 h2 h3; omega)
            | (go_wp2_with fail
               first
                 | (go_round
                    case rel => exact ⟨k + 1, by omega, by go_num, Lib.hid (HY.out HQ.out)⟩
                    case measure => simp [intOf]; omega)
                 | (go_ret; exact ⟨ret_bool (by rw [← hr.out, HN.out HQ.out]), HB1.out⟩))
      · have hok := okL_end g s k hlt HK.out
        have HR : Hid (Lib.validD s.data.toList = r) := Lib.hid (by rw [← hr.out]; unfold formL; rw [hok]; rfl)
        clear hok hr HK
        generalize Lib.validD s.data.toList = v at HV HR
        go_wp2_with fail
        refine (HV.out).mono ?_; rintro e w1 ⟨rfl, hB⟩
        go_wp2_with fail
        go_ret; exact ⟨ret_bool HR.out, HB1.out.trans (hB.mono z1)⟩

theorem formed_any (s : ByteArray) (f : Bool) (w : World) (hs : s.size ≤ 9223372036854775807) (hg : gTop ≤ w.heap.size) (hT : Tabs w) :
    Calls Tryd.prog 44 #[.string s, .bool f] w fun e w' => e = .returned (.bool (formL f s.data.toList)) ∧ Below w.heap.size w w' := formed_walk s f w hs hg hT _ (Lib.hid rfl)

/-- What is wrong with a text: ErrLarge, ErrForm, or nothing. -/
def bodyE (s : ByteArray) : Int := if 20000 < s.size then 2 else if textL s.data.toList then 0 else 3
theorem checkText_any (s : ByteArray) (w : World) (hs : s.size ≤ 9223372036854775807) (hT : Tabs w) :
    Calls Tryd.prog 47 #[.string s] w fun e w' => e = .returned (.int .i64 (bodyE s)) ∧ Below w.heap.size w w' := by
  by_cases h : 20000 < s.size
  · have hd : decide ((s.size : Int) > 20000) = true := by simp; omega
    have HE : Hid (bodyE s = 2) := Lib.hid (by unfold bodyE; rw [if_pos h])
    clear hT
    go_enter Tryd.func47, Tryd.ntmps47
    go_wp2_with fail
    go_ret; exact ⟨ret_int HE.out.symm, Below.refl _ _⟩
  · have hd : decide ((s.size : Int) > 20000) = false := by simp; omega
    have HX := Lib.hid (text_any s w hs hT)
    have HE : Hid (bodyE s = if textL s.data.toList then 0 else 3) := Lib.hid (by unfold bodyE; rw [if_neg h])
    clear hT
    generalize textL s.data.toList = p at HX HE
    cases p
    all_goals
      go_enter Tryd.func47, Tryd.ntmps47
      go_wp2_with fail
      refine (HX.out).mono ?_; rintro e w1 ⟨rfl, hB⟩
      go_wp2_with fail
      go_ret; exact ⟨ret_int (by rw [HE.out]; rfl), hB⟩
end Go.Proofs.YtanoojmgjinmfaaDoor.Key
