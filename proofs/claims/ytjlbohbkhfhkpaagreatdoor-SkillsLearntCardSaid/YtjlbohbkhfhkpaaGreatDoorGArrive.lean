/-
  THE CONTRACTS OF ONE ARRIVAL's CHECK: submit.CheckArrival and the reference's ArrivalFault: one function of the arrival.
-/
import Derived.Test.YtjlbohbkhfhkpaaGreatDoorGTexts
import Derived.Test.YtjlbohbkhfhkpaaGreatDoorGRefTop
import Derived.Test.YtjlbohbkhfhkpaaGreatDoorGForTop
import Derived.Test.YtjlbohbkhfhkpaaGreatDoorGKeys
import Derived.Laws.Cover1
import Derived.Deep.QuietTactic
import Derived.BigQuiet
namespace Go.Proofs.YtjlbohbkhfhkpaaGreatDoor.Key
open Go.ChangeShapes Go.WideShapes Go.ChangeAt Go.RowKit
set_option linter.unusedVariables false

/-- What is wrong with an arrival. -/
def arriveE (p : ByteArray) (at_ k : Int) (rs tx : ByteArray) : Int :=
  if keyL p.data.toList then
    if momentI at_ then
      if kindI k then
        if !rs.toList.isEmpty && !keyL rs.data.toList then 5
        else if bodyE tx = 0 then (if (k == 3) && (!tx.toList.isEmpty || !rs.toList.isEmpty) then 3 else 0) else bodyE tx
      else 4
    else 1
  else 5

theorem bodyE_cases (s : ByteArray) : bodyE s = 0 ∨ bodyE s = 2 ∨ bodyE s = 3 := by
  unfold bodyE; split
  · exact Or.inr (Or.inl rfl)
  · split
    · exact Or.inl rfl
    · exact Or.inr (Or.inr rfl)

end Go.Proofs.YtjlbohbkhfhkpaaGreatDoor.Key

/-
  THE CONTRACT OF A CALL's CHECK: syntax.After, submit.CheckCall: a function of the call's numbers and reasons.
-/
namespace Go.Proofs.YtjlbohbkhfhkpaaGreatDoor.Key
open Go.ChangeShapes Go.WideShapes Go.ChangeAt Go.RowKit
set_option linter.unusedVariables false

def afterE (key last : ByteArray) : Int := if keyL key.data.toList then (if leB key last then 7 else 0) else 5

theorem after_any (key last : ByteArray) (w : World) (hs : key.size ≤ 9223372036854775807) :
    Calls Tryz.prog 103 #[.string key, .string last] w fun e w' => e = .returned (.int .i64 (afterE key last)) ∧ w' = w := by
  obtain ⟨kp, hkp⟩ : ∃ b, keyL key.data.toList = b := ⟨_, rfl⟩
  have HE : Hid (afterE key last = if kp then (if leB key last then 7 else 0) else 5) := Lib.hid (by unfold afterE; rw [hkp])
  have HP := Lib.hid hkp; clear hkp
  unfold leB at HE
  cases kp
  · go_enter Tryz.func103, Tryz.ntmps103
    go_wp2_with fail
    refine (key_any _ _ hs).mono ?_; rintro e w1 ⟨rfl, rfl⟩; rw [HP.out]
    go_wp2_with fail
    go_ret; exact ⟨ret_int (by rw [HE.out]; rfl), rfl⟩
  cases h1 : Op.bytesLess key.toList last.toList <;> cases h2 : (key.toList == last.toList)
  all_goals
    rw [h1, h2] at HE
    go_enter Tryz.func103, Tryz.ntmps103
    go_wp2_with fail
    refine (key_any _ _ hs).mono ?_; rintro e w1 ⟨rfl, rfl⟩; rw [HP.out]
    go_wp2_with fail
    go_ret; exact ⟨ret_int (by rw [HE.out]; rfl), rfl⟩

/-- What is wrong with reasons behind a last key. -/
def reasonsE (last : ByteArray) : List (ByteArray × Int) → Int
  | [] => 0
  | x :: t => if afterE x.1 last = 0 then (if decide (x.2 < 1) || decide (x.2 > 5761440) then 1 else reasonsE x.1 t) else afterE x.1 last
/-- What is wrong with a call. -/
def callE (o a f : Int) (rs : List (ByteArray × Int)) : Int :=
  if momentI o then
    if decide (a ≤ o) || decide (f < a) then 7
    else if decide (f ≥ 5761440) then 1
    else if decide ((rs.length : Int) > 20) then 2
    else reasonsE ⟨#[]⟩ rs
  else 1

/-- A slice's cells are these reasons. -/
def Rsn (w : World) (A : Option Addr) (rs : List (ByteArray × Int)) : Prop :=
  (∀ x ∈ rs, x.1.size ≤ 1000) ∧ (0 < rs.length → ∃ b, A = some ⟨b, 0, none⟩ ∧ b < w.heap.size ∧
    ∀ (i : Nat) (h : i < rs.length), w.cell? ⟨b, i * 2, none⟩ = some (.string rs[i].1) ∧ w.cell? ⟨b, i * 2 + 1, none⟩ = some (.int .i64 rs[i].2))
theorem Rsn.below {w w' : World} {A : Option Addr} {rs : List (ByteArray × Int)} (h : Rsn w A rs) (hb : Below w.heap.size w w') : Rsn w' A rs :=
  ⟨h.1, fun h0 => by
    obtain ⟨b, hA, hlt, hc⟩ := h.2 h0
    exact ⟨b, hA, Nat.lt_of_lt_of_le hlt hb.size, fun i hi => ⟨(hb.cell (p := ⟨b, i * 2, none⟩) hlt).trans (hc i hi).1, (hb.cell (p := ⟨b, i * 2 + 1, none⟩) hlt).trans (hc i hi).2⟩⟩⟩

end Go.Proofs.YtjlbohbkhfhkpaaGreatDoor.Key

/-
  THE CONTRACT OF THE REFERENCE'S CallFault.
-/
namespace Go.Proofs.YtjlbohbkhfhkpaaGreatDoor.Key
open Go.ChangeShapes Go.WideShapes Go.ChangeAt Go.RowKit
set_option linter.unusedVariables false

theorem leB_empty (x : ByteArray) (h : keyL x.data.toList = true) : leB x ⟨#[]⟩ = false := by
  unfold leB
  rw [Lib.toList_data, Lib.toList_data]
  cases hx : x.data.toList with
  | nil => rw [hx] at h; cases h
  | cons a l => rfl
/-- The key that stands before the k-th reason. -/
def lastOf (rs : List (ByteArray × Int)) : Nat → ByteArray
  | 0 => ⟨#[]⟩
  | k + 1 => (rs.getD k (⟨#[]⟩, 0)).1
theorem lastOf_succ (rs : List (ByteArray × Int)) (k : Nat) (h : k < rs.length) : lastOf rs (k + 1) = rs[k].1 := by
  show (rs.getD k (⟨#[]⟩, 0)).1 = _; simp [List.getD, List.getElem?_eq_getElem h]
theorem below_drewN {B : Nat} {a w : World} (h : Below B a w) (n : Nat) : Below B a (w.drewN n) := ⟨h.os, h.tape, h.output, h.size, h.block⟩

end Go.Proofs.YtjlbohbkhfhkpaaGreatDoor.Key
