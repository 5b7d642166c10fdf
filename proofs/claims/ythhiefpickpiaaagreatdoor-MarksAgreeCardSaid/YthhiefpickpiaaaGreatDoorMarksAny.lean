/-
  THE MAKERS AROUND MARKS: AnyMarks, MarkPaper, MarkPerson.
-/
import Derived.Test.YthhiefpickpiaaaGreatDoorMarksGen
namespace Go.Proofs.YthhiefpickpiaaaGreatDoor.Cal
open Go.ChangeShapes Go.WideShapes Go.ChangeAt Go.RowKit Stm Key
set_option linter.unusedVariables false

set_option maxRecDepth 100000 in
theorem anymarks_any (B k : Nat) (w : World) (hs : Strm w B k) (hk : k ≤ 600000) :
    Calls Tryz.prog 4 #[.pointer (some ⟨B, 0, none⟩)] w (MkRet B k 602 256 w) := by
  have hB := hs.lt
  have HS := Lib.hid hs
  clear hs
  go_enter Tryz.func4, Tryz.ntmps4
  go_wp2_with fail
  refine (next_any B k 7 _ HS.out (by omega) (by omega) (by omega)).mono ?_
  rintro e w1 ⟨a, a0, a1, rfl, ho, hs⟩
  obtain ⟨a, rfl⟩ : ∃ z : Nat, a = z := ⟨a.toNat, by omega⟩
  have G1 := Lib.hid (Gr.only ho)
  have S1 := Lib.hid hs
  clear ho hs HS
  go_wp2_with fail
  refine (next_any B (k + 1) 6 _ S1.out (by omega) (by omega) (by omega)).mono ?_
  rintro e w2 ⟨b, b0, b1, rfl, ho, hs⟩
  obtain ⟨b, rfl⟩ : ∃ z : Nat, b = z := ⟨b.toNat, by omega⟩
  have G2 := Lib.hid (G1.out.trans (Gr.only ho))
  have S2 := Lib.hid hs
  clear ho hs S1 G1
  go_wp2_with fail
  refine (marks_any B (k + 2) a b _ S2.out (by omega) (by omega) (by omega)).mono ?_
  rintro e w3 ⟨A, n, c, l, rfl, hl, hn, hc, hm, hat, hg, hs⟩
  have FIN := Lib.hid (show MkRet B k 602 256 w (.returned (.slice A n c)) w3 from ⟨A, n, c, l, rfl, hl, hn, hc, hm, hat, G2.out.trans hg, hs.mono (by omega)⟩)
  clear hl hm hat hg hs
  go_wp2_with fail
  go_ret
  exact FIN.out

theorem markperson_any (B k : Nat) (w : World) (hs : Strm w B k) (hk : k ≤ 1000000) :
    Calls Tryz.prog 5 #[.pointer (some ⟨B, 0, none⟩)] w fun e w' => ∃ x : ByteArray, x.size ≤ 1000 ∧ e = .returned (.string x) ∧ Gr B w w' ∧ Strm w' B (k + 1) := by
  have hB := hs.lt
  go_enter Tryz.func5, Tryz.ntmps5
  go_wp2_with fail
  refine (h06_le 1000 B k _ _ [⟨#[104, 97]⟩, ⟨#[104, 97]⟩, ⟨#[104, 98]⟩, ⟨#[104, 99]⟩, ⟨#[122, 122]⟩, ⟨#[72]⟩] _ _ _ (hs.keep (by go_grown)) (by omega) (by omega) (new_at rfl) (by simp) (by simp) (le_all (by decide +kernel))).mono ?_
  rintro e w1 ⟨x, hx, rfl, ho, hs1⟩
  go_wp2_with fail
  go_ret
  exact ⟨x, hx, rfl, ((Gr.refl B w).alloc _).trans (Gr.only ho), hs1⟩
end Go.Proofs.YthhiefpickpiaaaGreatDoor.Cal
