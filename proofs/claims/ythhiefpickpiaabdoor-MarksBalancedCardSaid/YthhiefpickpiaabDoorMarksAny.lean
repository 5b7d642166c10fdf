/-
  THE MAKERS AROUND MARKS: AnyMarks, MarkPaper, MarkPerson.
-/
import Derived.Test.YthhiefpickpiaabDoorMarksGen
namespace Go.Proofs.YthhiefpickpiaabDoor.Cal
open Go.ChangeShapes Go.WideShapes Go.ChangeAt Go.RowKit Stm Key
set_option linter.unusedVariables false

set_option maxRecDepth 100000 in
theorem anymarks_any (B k : Nat) (w : World) (hs : Strm w B k) (hk : k ≤ 600000) :
    Calls Tryd.prog 4 #[.pointer (some ⟨B, 0, none⟩)] w (MkRet B k 602 256 w) := by
  have hB := hs.lt
  have HS := Lib.hid hs
  clear hs
  go_enter Tryd.func4, Tryd.ntmps4
  go_wp2_with fail
  refine (next_any B k 7 _ HS.out (by omega) (by omega) (by omega)).mono ?_
  rintro e w1 ⟨a, a0, a1, rfl, ho, hs⟩
  obtain ⟨a, rfl⟩ : ∃ z : Nat, a = z := ⟨a.toNat, by omega⟩
  have G1 := Lib.hid (Gr.only ho)
  have S1 := Lib.hid hs
  clear ho hs HS
  go_wp2_with fail
  refine (next_any B (k + 1) 6 _ S1.out (by omega) (by omega) (by omega)).mono ?_
  rintro e w2 ⟨b, b0, b1, rfl, ho, hs⟩
  obtain ⟨b, rfl⟩ : ∃ z : Nat, b = z := ⟨b.toNat, by omega⟩
  have G2 := Lib.hid (G1.out.trans (Gr.only ho))
  have S2 := Lib.hid hs
  clear ho hs S1 G1
  go_wp2_with fail
  refine (marks_any B (k + 2) a b _ S2.out (by omega) (by omega) (by omega)).mono ?_
  rintro e w3 ⟨A, n, c, l, rfl, hl, hn, hc, hm, hat, hg, hs⟩
  have FIN := Lib.hid (show MkRet B k 602 256 w (.returned (.slice A n c)) w3 from ⟨A, n, c, l, rfl, hl, hn, hc, hm, hat, G2.out.trans hg, hs.mono (by omega)⟩)
  clear hl hm hat hg hs
  go_wp2_with fail
  go_ret
  exact FIN.out

end Go.Proofs.YthhiefpickpiaabDoor.Cal
