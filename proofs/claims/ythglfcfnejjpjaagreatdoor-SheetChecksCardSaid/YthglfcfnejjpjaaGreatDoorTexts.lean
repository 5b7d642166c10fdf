/-
  THE CONTRACTS OF TEXTS: syntax.control, Text, submit.checkText; the reference's wellFormed, TextOf: one function of the string's bytes.
-/
import Derived.Test.YthglfcfnejjpjaaGreatDoorKeys
import Derived.Test.YthglfcfnejjpjaaGreatDoorShelf
import Derived.Shelf.Unicode.ValidAny
import Derived.Laws.IdiomStrings
namespace Go.Proofs.YthglfcfnejjpjaaGreatDoor.Key
open Go.ChangeShapes Go.WideShapes Go.ChangeAt Go.RowKit
set_option linter.unusedVariables false

/-- The library's tables, and its one number, as they lie. -/
def gTop : Nat := max (0 + 1) (max (1 + 1) (3 + 1))
def Tabs (w : World) : Prop := Lib.Utf8Tabs 0 1 w ∧ ∃ m, w.cell? ⟨3, 0, none⟩ = some (.int .i64 m)
theorem Tabs.below {w w' : World} (h : Tabs w) (hb : Below gTop w w') : Tabs w' := by
  obtain ⟨⟨h1, h2⟩, m, h3⟩ := h
  refine ⟨⟨fun c hc => ?_, fun i hi => ⟨?_, ?_⟩⟩, m, ?_⟩
  · exact (hb.cell (p := ⟨_, c, none⟩) (show _ < gTop by unfold gTop; simp only []; omega)).trans (h1 c hc)
  · exact (hb.cell (p := ⟨_, 2 * i, none⟩) (show _ < gTop by unfold gTop; simp only []; omega)).trans (h2 i hi).1
  · exact (hb.cell (p := ⟨_, 2 * i + 1, none⟩) (show _ < gTop by unfold gTop; simp only []; omega)).trans (h2 i hi).2
  · exact (hb.cell (p := ⟨_, 0, none⟩) (show _ < gTop by unfold gTop; simp only []; omega)).trans h3

def ctlI (c : Int) : Bool := decide (c < 32) || decide (c = 127)
def okI (f : Bool) (c : Int) : Bool := !(decide (c < 32) && !(f && decide (c = 10)) || decide (c = 127))
/-- A string without bytes below 32 (but line feeds, where f says so), and without 127. -/
def okL (f : Bool) (l : List UInt8) : Bool := l.all fun c => okI f c.toNat
def formL (f : Bool) (l : List UInt8) : Bool := okL f l && Lib.validD l
def endL (l : List UInt8) : Bool := l.isEmpty || Lib.hasSuffix l [10]
def textL (l : List UInt8) : Bool := formL true l && endL l

theorem control_any (c : Int) (w : World) (h0 : 0 ≤ c) (h1 : c ≤ 255) : Calls Tryz.prog 69 #[.int .u8 c] w fun e w' => e = .returned (.bool (ctlI c)) ∧ w' = w := by
  by_cases a : c < 32
  · have hr : ctlI c = true := by unfold ctlI; simp [a]
    rw [hr]; clear hr
    go_enter Tryz.func69, Tryz.ntmps69
    go_wp2
    go_ret; exact ⟨rfl, rfl⟩
  · cases b : (c == 127)
    · have hr : ctlI c = false := by unfold ctlI; simp at b; simp [b]; omega
      rw [hr]; clear hr
      go_enter Tryz.func69, Tryz.ntmps69
      go_wp2
      go_ret; exact ⟨rfl, rfl⟩
    · have hr : ctlI c = true := by unfold ctlI; simp at b; simp [b]
      rw [hr]; clear hr
      go_enter Tryz.func69, Tryz.ntmps69
      go_wp2
      go_ret; exact ⟨rfl, rfl⟩

theorem valid_any (s : ByteArray) (w : World) (hs : s.size ≤ 9223372036854775807) (hT : Tabs w) :
    Calls Tryz.prog 63 #[.string s] w fun e w' => e = .returned (.bool (Lib.validD s.data.toList)) ∧ Below w.heap.size w w' :=
  Any.utf8_ValidString Tryz.lays196 s w hs hT.1
theorem suffix_any (s p : ByteArray) (w : World) (hs : s.size ≤ 9223372036854775807) :
    Calls Tryz.prog 70 #[.string s, .string p] w fun e w' => e = .returned (.bool (Lib.hasSuffix s.data.toList p.data.toList)) ∧ w' = w :=
  Any.strings_HasSuffix Tryz.lays100 s p w hs

theorem okL_end (f : Bool) (s : ByteArray) (k : Nat) (hk : ¬ k < s.size) (h : okL f (s.data.toList.take k) = true) : okL f s.data.toList = true := by
  rwa [List.take_of_length_le (by rw [size_list]; omega)] at h
theorem empty_size (s : ByteArray) : s.toList.isEmpty = decide (s.size = 0) := by
  rw [Lib.toList_data, ← size_list]; cases s.data.toList <;> simp

set_option maxHeartbeats 2000000 in
theorem text_walk (s : ByteArray) (w : World) (hs : s.size ≤ 9223372036854775807) (hT : Tabs w) (r : Bool) (hr : Hid (textL s.data.toList = r)) :
    Calls Tryz.prog 61 #[.string s] w fun e w' => e = .returned (.bool r) ∧ Below w.heap.size w w' := by
  have HV := Lib.hid (valid_any s w hs hT)
  have HF := Lib.hid (suffix_any s ⟨#[10]⟩ w hs)
  clear hT
  go_enter Tryz.func61, Tryz.ntmps61
  go_wp2_with fail
  go_loop [7] (fun i => ∃ k : Nat, k ≤ s.size ∧ i = .int .i64 k ∧ Hid (okL true (s.data.toList.take k) = true)) (fun i => s.size - (intOf i).toNat)
  case atStart => exact ⟨0, Nat.zero_le _, rfl, Lib.hid rfl⟩
  case round =>
    obtain ⟨k, hk, rfl, HK⟩ := hrel
    by_cases hlt : k < s.size
    · have hbk := s[k].toNat_lt
      have HN : Hid (okI true s[k].toNat = false → textL s.data.toList = false) := Lib.hid fun h => by
        have : okL true s.data.toList = false := all_no _ s k hlt h
        unfold textL formL; rw [this]; rfl
      have HY : Hid (okI true s[k].toNat = true → okL true (s.data.toList.take (k + 1)) = true) := Lib.hid fun h => by
        have := HK.out; unfold okL at this ⊢; rw [all_snoc _ s k hlt, this, h]; rfl
      cases h1 : ctlI s[k].toNat <;> cases h2 : ((s[k].toNat : Int) == 10)
      all_goals
        have h2' : ((s[k].toNat : Int) != 10) = !((s[k].toNat : Int) == 10) := rfl
        rw [h2] at h2'
        simp only [Bool.not_true, Bool.not_false] at h2'
        have hq : okI true s[k].toNat = (!(ctlI s[k].toNat) || ((s[k].toNat : Int) == 10)) := by
          generalize (s[k].toNat : Int) = c
          unfold okI ctlI; show _ = (_ || decide (c = 10)); by_cases a : c < 32 <;> by_cases b : c = 127 <;> by_cases d : c = 10 <;> simp [a, b, d] <;> omega
        rw [h1, h2] at hq
        have HQ := Lib.hid hq; clear hq
        have H1 := Lib.hid h1; clear h1
        go_wp2_with (go_at_call 69; refine (control_any _ _ (by omega) (by omega)).mono ?_; rintro e w' ⟨rfl, rfl⟩; rw [H1.out])
        first
          | (go_round
             case rel => exact ⟨k + 1, by omega, by go_num, Lib.hid (HY.out HQ.out)⟩
             case measure => simp [intOf]; omega)
          | (go_ret; exact ⟨ret_bool (by rw [← hr.out, HN.out HQ.out]), Below.refl _ _⟩)
    · have hok := okL_end true s k hlt HK.out
      have hres : textL s.data.toList = (endL s.data.toList && Lib.validD s.data.toList) := by unfold textL formL; rw [hok]; cases endL s.data.toList <;> simp
      have HR := Lib.hid (hres.symm.trans hr.out)
      clear hok hres hr HK
      generalize Lib.validD s.data.toList = v at HV HR
      by_cases h0 : s.size = 0
      · have he : s.toList.isEmpty = true := by rw [empty_size]; simp [h0]
        have HE : Hid (v = r) := Lib.hid (by have := HR.out; unfold endL at this; rw [← Lib.toList_data, he] at this; simpa using this)
        have hlt' : ¬ k < s.size := hlt
        go_wp2_with fail
        all_goals first
          | (refine (HV.out).mono ?_; rintro e w1 ⟨rfl, hB⟩; go_wp2_with fail; go_ret; exact ⟨ret_bool HE.out, hB⟩)
      · have he : s.toList.isEmpty = false := by rw [empty_size]; simp [h0]
        have HE : Hid ((Lib.hasSuffix s.data.toList [10] && v) = r) := Lib.hid (by have := HR.out; unfold endL at this; rw [← Lib.toList_data, he] at this; simpa [Lib.toList_data] using this)
        have HF2 : Hid (Calls Tryz.prog 70 #[.string s, .string ⟨#[10]⟩] w fun e w' => e = .returned (.bool (Lib.hasSuffix s.data.toList [10])) ∧ w' = w) := HF
        generalize Lib.hasSuffix s.data.toList [10] = u at HF2 HE
        cases u
        · go_wp2_with fail
          refine (HF2.out).mono ?_; rintro e w1 ⟨rfl, rfl⟩
          go_wp2_with fail
          go_ret; exact ⟨ret_bool HE.out, Below.refl _ _⟩
        · go_wp2_with fail
          refine (HF2.out).mono ?_; rintro e w1 ⟨rfl, rfl⟩
          go_wp2_with fail
          refine (HV.out).mono ?_; rintro e w1 ⟨rfl, hB⟩
          go_wp2_with fail
          go_ret; exact ⟨ret_bool HE.out, hB⟩
theorem text_any (s : ByteArray) (w : World) (hs : s.size ≤ 9223372036854775807) (hT : Tabs w) :
    Calls Tryz.prog 61 #[.string s] w fun e w' => e = .returned (.bool (textL s.data.toList)) ∧ Below w.heap.size w w' := text_walk s w hs hT _ (Lib.hid rfl)

end Go.Proofs.YthglfcfnejjpjaaGreatDoor.Key
