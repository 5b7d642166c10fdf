/-
  THE CONTRACTS OF DEADLINES: the program's delay, deadline, Deadline; the reference's more, DeadlineOf.
-/
import Derived.Test.YtglmdgjbfnoidabDoorRefCalls
namespace Go.Proofs.YtglmdgjbfnoidabDoor.Key
open Go.ChangeShapes Go.WideShapes Go.ChangeAt Go.RowKit
set_option linter.unusedVariables false

def delayO (s : ByteArray) : List (ByteArray × Int) → Option Int
  | [] => none
  | x :: t => if (x.1.toList == s.toList) = true then some x.2 else delayO s t
/-- How much later something with a reason may come. -/
def moreO (s : ByteArray) (rs : List (ByteArray × Int)) : Option Int := if s.toList.isEmpty = true then some 0 else delayO s rs

theorem ret_opt {r q : Option Int} (h : r = q) : Ending.returned (.tuple #[.int .i64 (r.getD 0), .bool r.isSome]) = .returned (.tuple #[.int .i64 (q.getD 0), .bool q.isSome]) := by rw [h]

set_option maxHeartbeats 4000000 in
theorem delay_walk (A : Option Addr) (n cap : Nat) (rs : List (ByteArray × Int)) (s : ByteArray) (w : World) (hn : rs.length = n) (hn2 : n ≤ 1000000) (hR : Rsn w A rs) (r : Option Int) (hr : Hid (moreO s rs = r)) :
    Calls Tryd.prog 47 #[.slice A n cap, .string s] w fun e w' => e = .returned (.tuple #[.int .i64 (r.getD 0), .bool r.isSome]) ∧ Below w.heap.size w w' := by
  have HRS := Lib.hid hR
  have HL := Lib.hid hn
  clear hR hn
  unfold moreO at hr
  cases he : s.toList.isEmpty
  · rw [he] at hr
    have HD : Hid (delayO s rs = r) := Lib.hid (by have := hr.out; simpa using this)
    clear hr
    go_enter Tryd.func47, Tryd.ntmps47
    go_wp2_with fail
    go_loopw [12] (fun i wr => ∃ (k : Nat), k ≤ n ∧ i = .int .i64 k ∧ Hid (delayO s (rs.drop k) = r) ∧ Hid (Below w.heap.size w wr)) (fun i _ => n - (intOf i).toNat)
    case atStart => exact ⟨0, Nat.zero_le _, rfl, HD, Lib.hid (Below.refl _ _)⟩
    case round =>
      obtain ⟨k, hk, rfl, HK, HBW⟩ := hrel
      by_cases hlt : k < n
      · obtain ⟨hsz, hcells⟩ := HRS.out
        obtain ⟨b, hA, hbl, hc⟩ := hcells (by have := HL.out; omega)
        have hkl : k < rs.length := by have := HL.out; omega
        have c1 : wr.cell? ⟨b, k * 2, none⟩ = some (.string rs[k].1) := (HBW.out.cell (p := ⟨b, k * 2, none⟩) hbl).trans (hc k hkl).1
        have c2 : wr.cell? ⟨b, k * 2 + 1, none⟩ = some (.int .i64 rs[k].2) := (HBW.out.cell (p := ⟨b, k * 2 + 1, none⟩) hbl).trans (hc k hkl).2
        have HK2 := HK.out
        rw [drop_step rs k hkl] at HK2
        unfold delayO at HK2
        generalize rs[k].1 = x at *
        generalize rs[k].2 = y at *
        subst hA
        have HBN := Lib.hid (HBW.out.alloc HBW.out.size (.cells #[.string x, .int .i64 y] 48))
        clear HK hsz hcells hc
        cases hq : (x.toList == s.toList)
        all_goals
          rw [hq] at HK2
          have HKK := Lib.hid HK2
          clear HK2
          go_wp2_with fail
          first
            | (go_roundw
               case rel => exact ⟨k + 1, by omega, by go_num, Lib.hid (by have := HKK.out; simpa using this), HBN⟩
               case measure => simp [intOf]; omega)
            | (go_returns; exact ⟨(by rw [← HKK.out]; rfl), HBN.out⟩)
      · have HE : Hid (none = r) := Lib.hid (by have := HK.out; rw [List.drop_of_length_le (by have := HL.out; omega)] at this; exact this)
        clear HK
        go_wp2_with fail
        go_returns; exact ⟨by rw [← HE.out]; rfl, HBW.out⟩
  · rw [he] at hr
    have HD : Hid (some 0 = r) := Lib.hid (by have := hr.out; simpa using this)
    clear hr
    go_enter Tryd.func47, Tryd.ntmps47
    go_wp2_with fail
    go_returns; exact ⟨by rw [← HD.out]; rfl, Below.refl _ _⟩

set_option maxHeartbeats 4000000 in
theorem more_walk (o a f : Int) (A : Option Addr) (n cap : Nat) (rs : List (ByteArray × Int)) (s : ByteArray) (w : World) (hn : rs.length = n) (hn2 : n ≤ 1000000) (hR : Rsn w A rs) (r : Option Int) (hr : Hid (moreO s rs = r)) :
    Calls Tryd.prog 33 #[.agg #[.int .i64 o, .int .i64 a, .int .i64 f, .slice A n cap], .string s] w fun e w' => e = .returned (.tuple #[.int .i64 (r.getD 0), .bool r.isSome]) ∧ Below w.heap.size w w' := by
  have HB := Lib.hid ((Below.refl w.heap.size w).alloc (Nat.le_refl _) (.cells #[.int .i64 o, .int .i64 a, .int .i64 f, .slice A n cap] 28))
  have HRS := Lib.hid hR
  have HL := Lib.hid hn
  clear hR hn
  unfold moreO at hr
  cases he : s.toList.isEmpty
  · rw [he] at hr
    have HD : Hid (delayO s rs = r) := Lib.hid (by have := hr.out; simpa using this)
    clear hr
    go_enter Tryd.func33, Tryd.ntmps33
    go_wp2_with fail
    go_loopw [13] (fun i wr => ∃ (k : Nat), k ≤ n ∧ i = .int .i64 k ∧ Hid (delayO s (rs.drop k) = r) ∧ Hid (Below w.heap.size w wr)) (fun i _ => n - (intOf i).toNat)
    case atStart => exact ⟨0, Nat.zero_le _, rfl, HD, HB⟩
    case round =>
      obtain ⟨k, hk, rfl, HK, HBW⟩ := hrel
      by_cases hlt : k < n
      · obtain ⟨hsz, hcells⟩ := HRS.out
        obtain ⟨b, hA, hbl, hc⟩ := hcells (by have := HL.out; omega)
        have hkl : k < rs.length := by have := HL.out; omega
        have c1 : wr.cell? ⟨b, k * 2, none⟩ = some (.string rs[k].1) := (HBW.out.cell (p := ⟨b, k * 2, none⟩) hbl).trans (hc k hkl).1
        have c2 : wr.cell? ⟨b, k * 2 + 1, none⟩ = some (.int .i64 rs[k].2) := (HBW.out.cell (p := ⟨b, k * 2 + 1, none⟩) hbl).trans (hc k hkl).2
        have HK2 := HK.out
        rw [drop_step rs k hkl] at HK2
        unfold delayO at HK2
        generalize rs[k].1 = x at *
        generalize rs[k].2 = y at *
        subst hA
        have HBN := Lib.hid (HBW.out.alloc HBW.out.size (.cells #[.string x, .int .i64 y] 48))
        clear HK hsz hcells hc
        cases hq : (x.toList == s.toList)
        all_goals
          rw [hq] at HK2
          have HKK := Lib.hid HK2
          clear HK2
          go_wp2_with fail
          first
            | (go_roundw
               case rel => exact ⟨k + 1, by omega, by go_num, Lib.hid (by have := HKK.out; simpa using this), HBN⟩
               case measure => simp [intOf]; omega)
            | (go_returns; exact ⟨(by rw [← HKK.out]; rfl), HBN.out⟩)
      · have HE : Hid (none = r) := Lib.hid (by have := HK.out; rw [List.drop_of_length_le (by have := HL.out; omega)] at this; exact this)
        clear HK
        go_wp2_with fail
        go_returns; exact ⟨by rw [← HE.out]; rfl, HBW.out⟩
  · rw [he] at hr
    have HD : Hid (some 0 = r) := Lib.hid (by have := hr.out; simpa using this)
    clear hr
    go_enter Tryd.func33, Tryd.ntmps33
    go_wp2_with fail
    go_returns; exact ⟨by rw [← HD.out]; rfl, HB.out⟩

end Go.Proofs.YtglmdgjbfnoidabDoor.Key
