/-
  THE CONTRACTS OF TEXTS: syntax.control, Text, submit.checkText; the reference's wellFormed, TextOf: one function of the string's bytes.
-/
import Derived.Test.YtjlbohbkhfhkpaaGreatDoorGKeys
import Derived.Test.YtjlbohbkhfhkpaaGreatDoorShelf
import Derived.Shelf.Unicode.ValidAny
import Derived.Laws.IdiomStrings
namespace Go.Proofs.YtjlbohbkhfhkpaaGreatDoor.Key
open Go.ChangeShapes Go.WideShapes Go.ChangeAt Go.RowKit
set_option linter.unusedVariables false

/-- The library's tables, and its one number, as they lie. -/
def gTop : Nat := max (0 + 1) (max (1 + 1) (2 + 1))
def Tabs (w : World) : Prop := Lib.Utf8Tabs 0 1 w ∧ ∃ m, w.cell? ⟨2, 0, none⟩ = some (.int .i64 m)
theorem Tabs.below {w w' : World} (h : Tabs w) (hb : Below gTop w w') : Tabs w' := by
  obtain ⟨⟨h1, h2⟩, m, h3⟩ := h
  refine ⟨⟨fun c hc => ?_, fun i hi => ⟨?_, ?_⟩⟩, m, ?_⟩
  · exact (hb.cell (p := ⟨_, c, none⟩) (show _ < gTop by unfold gTop; simp only []; omega)).trans (h1 c hc)
  · exact (hb.cell (p := ⟨_, 2 * i, none⟩) (show _ < gTop by unfold gTop; simp only []; omega)).trans (h2 i hi).1
  · exact (hb.cell (p := ⟨_, 2 * i + 1, none⟩) (show _ < gTop by unfold gTop; simp only []; omega)).trans (h2 i hi).2
  · exact (hb.cell (p := ⟨_, 0, none⟩) (show _ < gTop by unfold gTop; simp only []; omega)).trans h3

def ctlI (c : Int) : Bool := decide (c < 32) || decide (c = 127)
def okI (f : Bool) (c : Int) : Bool := !(decide (c < 32) && !(f && decide (c = 10)) || decide (c = 127))
/-- A string without bytes below 32 (but line feeds, where f says so), and without 127. -/
def okL (f : Bool) (l : List UInt8) : Bool := l.all fun c => okI f c.toNat
def formL (f : Bool) (l : List UInt8) : Bool := okL f l && Lib.validD l
def endL (l : List UInt8) : Bool := l.isEmpty || Lib.hasSuffix l [10]
def textL (l : List UInt8) : Bool := formL true l && endL l

theorem control_any (c : Int) (w : World) (h0 : 0 ≤ c) (h1 : c ≤ 255) : Calls Tryz.prog 98 #[.int .u8 c] w fun e w' => e = .returned (.bool (ctlI c)) ∧ w' = w := by
  by_cases a : c < 32
  · have hr : ctlI c = true := by unfold ctlI; simp [a]
    rw [hr]; clear hr
    go_enter Tryz.func98, Tryz.ntmps98
    go_wp2
    go_ret; exact ⟨rfl, rfl⟩
  · cases b : (c == 127)
    · have hr : ctlI c = false := by unfold ctlI; simp at b; simp [b]; omega
      rw [hr]; clear hr
      go_enter Tryz.func98, Tryz.ntmps98
      go_wp2
      go_ret; exact ⟨rfl, rfl⟩
    · have hr : ctlI c = true := by unfold ctlI; simp at b; simp [b]
      rw [hr]; clear hr
      go_enter Tryz.func98, Tryz.ntmps98
      go_wp2
      go_ret; exact ⟨rfl, rfl⟩

theorem valid_any (s : ByteArray) (w : World) (hs : s.size ≤ 9223372036854775807) (hT : Tabs w) :
    Calls Tryz.prog 100 #[.string s] w fun e w' => e = .returned (.bool (Lib.validD s.data.toList)) ∧ Below w.heap.size w w' :=
  Any.utf8_ValidString Tryz.lays196 s w hs hT.1
theorem suffix_any (s p : ByteArray) (w : World) (hs : s.size ≤ 9223372036854775807) :
    Calls Tryz.prog 99 #[.string s, .string p] w fun e w' => e = .returned (.bool (Lib.hasSuffix s.data.toList p.data.toList)) ∧ w' = w :=
  Any.strings_HasSuffix Tryz.lays100 s p w hs

theorem okL_end (f : Bool) (s : ByteArray) (k : Nat) (hk : ¬ k < s.size) (h : okL f (s.data.toList.take k) = true) : okL f s.data.toList = true := by
  rwa [List.take_of_length_le (by rw [size_list]; omega)] at h
theorem empty_size (s : ByteArray) : s.toList.isEmpty = decide (s.size = 0) := by
  rw [Lib.toList_data, ← size_list]; cases s.data.toList <;> simp

end Go.Proofs.YtjlbohbkhfhkpaaGreatDoor.Key

/-
  THE CONTRACTS OF THE REFERENCE'S TEXTS: wellFormed, TextOf; and of the program's checkText.
-/
namespace Go.Proofs.YtjlbohbkhfhkpaaGreatDoor.Key
open Go.ChangeShapes Go.WideShapes Go.ChangeAt Go.RowKit
set_option linter.unusedVariables false

theorem bytes_of (s : ByteArray) (w : World) : ∃ (cap : Nat) (W1 : World), (convert 9 107 (.string s)).run Tryz.prog w = .ok (.slice (some ⟨w.heap.size, 0, none⟩) s.size cap) W1 ∧
    (∀ (i : Nat) (h : i < s.size), W1.cell? ⟨w.heap.size, i, none⟩ = some (.int .u8 s[i].toNat)) ∧ Below w.heap.size w W1 := by
  refine ⟨_, _, run_bytes_of_string w 9 107 5 s Tryz.underlying9 Tryz.underlying107 Tryz.underlying5, fun i h => ?_, ((Below.refl _ _).drew).alloc (by simp) _⟩
  have h1 : (w.drew.alloc (.cells (bytesRow s (grownCap w s.size 0 5)) 5 ((bytesRow s (grownCap w s.size 0 5)).size, (bytesRow s (grownCap w s.size 0 5)).size + 1))).heap[w.heap.size]? = some (.cells (bytesRow s (grownCap w s.size 0 5)) 5 ((bytesRow s (grownCap w s.size 0 5)).size, (bytesRow s (grownCap w s.size 0 5)).size + 1)) := heap_alloc_new w.drew _
  simp only [World.cell?, h1]
  have := bytesRow_at s (grownCap w s.size 0 5) i h
  simp only [this]
  rfl

set_option maxHeartbeats 2000000 in
theorem formed_walk (s : ByteArray) (f : Bool) (w : World) (hs : s.size ≤ 9223372036854775807) (hg : gTop ≤ w.heap.size) (hT : Tabs w) (r : Bool) (hr : Hid (formL f s.data.toList = r)) :
    Calls Tryz.prog 104 #[.string s, .bool f] w fun e w' => e = .returned (.bool r) ∧ Below w.heap.size w w' := by
  obtain ⟨cap, W1, hconv, hcell, hb1⟩ := bytes_of s w
  have HV := Lib.hid (valid_any s W1 hs (hT.below (hb1.mono hg)))
  have HCELL := Lib.hid hcell
  have z1 := hb1.size
  have HB1 := Lib.hid hb1
  clear hT hcell hb1
  obtain ⟨g, hfg⟩ : ∃ g, f = g := ⟨_, rfl⟩
  rw [hfg] at hr
  have HG := Lib.hid hfg; clear hfg
  cases f
  all_goals
    go_enter Tryz.func104, Tryz.ntmps104
    go_wp2_with fail
    clear hconv
    go_loop [10] (fun i => ∃ k : Nat, k ≤ s.size ∧ i = .int .i64 k ∧ Hid (okL g (s.data.toList.take k) = true)) (fun i => s.size - (intOf i).toNat)
    case atStart => exact ⟨0, Nat.zero_le _, rfl, Lib.hid rfl⟩
    case round =>
      obtain ⟨k, hk, rfl, HK⟩ := hrel
      by_cases hlt : k < s.size
      · have hbk := s[k].toNat_lt
        have hck := HCELL.out k hlt
        have HN : Hid (okI g s[k].toNat = false → formL g s.data.toList = false) := Lib.hid fun h => by
          have : okL g s.data.toList = false := all_no _ s k hlt h
          unfold formL; rw [this]; rfl
        have HY : Hid (okI g s[k].toNat = true → okL g (s.data.toList.take (k + 1)) = true) := Lib.hid fun h => by
          have := HK.out; unfold okL at this ⊢; rw [all_snoc _ s k hlt, this, h]; rfl
        obtain ⟨c, hc⟩ : ∃ c : Int, (s[k].toNat : Int) = c := ⟨_, rfl⟩
        rw [hc] at hck HN HY
        clear hc
        cases h1 : decide (c < 32) <;> cases h2 : (c == 10) <;> cases h3 : (c == 127)
        all_goals
          have hq : okI g c = (!(decide (c < 32) && !(g && (c == 10)) || (c == 127))) := rfl
          conv at hq => rhs; rw [h1, h2, h3, ← HG.out]
          simp only [Bool.not_true, Bool.not_false, Bool.and_true, Bool.and_false, Bool.or_true, Bool.or_false] at hq
          have HQ := Lib.hid hq; clear hq
          first
            | (exfalso; simp at h1 h2 h3; omega)
            | (go_wp2_with fail
               first
                 | (go_round
                    case rel => exact ⟨k + 1, by omega, by go_num, Lib.hid (HY.out HQ.out)⟩
                    case measure => simp [intOf]; omega)
                 | (go_ret; exact ⟨ret_bool (by rw [← hr.out, HN.out HQ.out]), HB1.out⟩))
      · have hok := okL_end g s k hlt HK.out
        have HR : Hid (Lib.validD s.data.toList = r) := Lib.hid (by rw [← hr.out]; unfold formL; rw [hok]; rfl)
        clear hok hr HK
        generalize Lib.validD s.data.toList = v at HV HR
        go_wp2_with fail
        refine (HV.out).mono ?_; rintro e w1 ⟨rfl, hB⟩
        go_wp2_with fail
        go_ret; exact ⟨ret_bool HR.out, HB1.out.trans (hB.mono z1)⟩

theorem formed_any (s : ByteArray) (f : Bool) (w : World) (hs : s.size ≤ 9223372036854775807) (hg : gTop ≤ w.heap.size) (hT : Tabs w) :
    Calls Tryz.prog 104 #[.string s, .bool f] w fun e w' => e = .returned (.bool (formL f s.data.toList)) ∧ Below w.heap.size w w' := formed_walk s f w hs hg hT _ (Lib.hid rfl)

/-- What is wrong with a text: ErrLarge, ErrForm, or nothing. -/
def bodyE (s : ByteArray) : Int := if 20000 < s.size then 2 else if textL s.data.toList then 0 else 3
end Go.Proofs.YtjlbohbkhfhkpaaGreatDoor.Key
