/-
  THE CONTRACT OF A CALL's CHECK: syntax.After, submit.CheckCall: a function of the call's numbers and reasons.
-/
import Derived.Test.YtanoojmgjinmfaaDoorArrive
import Derived.Test.YtanoojmgjinmfaaDoorLess
import Derived.Laws.Cover1
namespace Go.Proofs.YtanoojmgjinmfaaDoor.Key
open Go.ChangeShapes Go.WideShapes Go.ChangeAt Go.RowKit
set_option linter.unusedVariables false

def afterE (key last : ByteArray) : Int := if keyL key.data.toList then (if leB key last then 7 else 0) else 5

theorem after_any (key last : ByteArray) (w : World) (hs : key.size ≤ 9223372036854775807) :
    Calls Tryd.prog 42 #[.string key, .string last] w fun e w' => e = .returned (.int .i64 (afterE key last)) ∧ w' = w := by
  obtain ⟨kp, hkp⟩ : ∃ b, keyL key.data.toList = b := ⟨_, rfl⟩
  have HE : Hid (afterE key last = if kp then (if leB key last then 7 else 0) else 5) := Lib.hid (by unfold afterE; rw [hkp])
  have HP := Lib.hid hkp; clear hkp
  unfold leB at HE
  cases kp
  · go_enter Tryd.func42, Tryd.ntmps42
    go_wp2_with fail
    refine (key_any _ _ hs).mono ?_; rintro e w1 ⟨rfl, rfl⟩; rw [HP.out]
    go_wp2_with fail
    go_ret; exact ⟨ret_int (by rw [HE.out]; rfl), rfl⟩
  cases h1 : Op.bytesLess key.toList last.toList <;> cases h2 : (key.toList == last.toList)
  all_goals
    rw [h1, h2] at HE
    go_enter Tryd.func42, Tryd.ntmps42
    go_wp2_with fail
    refine (key_any _ _ hs).mono ?_; rintro e w1 ⟨rfl, rfl⟩; rw [HP.out]
    go_wp2_with fail
    go_ret; exact ⟨ret_int (by rw [HE.out]; rfl), rfl⟩

/-- What is wrong with reasons behind a last key. -/
def reasonsE (last : ByteArray) : List (ByteArray × Int) → Int
  | [] => 0
  | x :: t => if afterE x.1 last = 0 then (if decide (x.2 < 1) || decide (x.2 > 5761440) then 1 else reasonsE x.1 t) else afterE x.1 last
/-- What is wrong with a call. -/
def callE (o a f : Int) (rs : List (ByteArray × Int)) : Int :=
  if momentI o then
    if decide (a ≤ o) || decide (f < a) then 7
    else if decide (f ≥ 5761440) then 1
    else if decide ((rs.length : Int) > 20) then 2
    else reasonsE ⟨#[]⟩ rs
  else 1

/-- A slice's cells are these reasons. -/
def Rsn (w : World) (A : Option Addr) (rs : List (ByteArray × Int)) : Prop :=
  (∀ x ∈ rs, x.1.size ≤ 1000) ∧ (0 < rs.length → ∃ b, A = some ⟨b, 0, none⟩ ∧ b < w.heap.size ∧
    ∀ (i : Nat) (h : i < rs.length), w.cell? ⟨b, i * 2, none⟩ = some (.string rs[i].1) ∧ w.cell? ⟨b, i * 2 + 1, none⟩ = some (.int .i64 rs[i].2))
theorem Rsn.below {w w' : World} {A : Option Addr} {rs : List (ByteArray × Int)} (h : Rsn w A rs) (hb : Below w.heap.size w w') : Rsn w' A rs :=
  ⟨h.1, fun h0 => by
    obtain ⟨b, hA, hlt, hc⟩ := h.2 h0
    exact ⟨b, hA, Nat.lt_of_lt_of_le hlt hb.size, fun i hi => ⟨(hb.cell (p := ⟨b, i * 2, none⟩) hlt).trans (hc i hi).1, (hb.cell (p := ⟨b, i * 2 + 1, none⟩) hlt).trans (hc i hi).2⟩⟩⟩

end Go.Proofs.YtanoojmgjinmfaaDoor.Key
