/-
  cmp.Compare at integers, exact.Compare, cmp.Or at two errors, syntax.CheckKey.
-/
import Derived.Test.YtmihbfmlnfhgcadGreatDoorOrdC
import Derived.Test.YtmihbfmlnfhgcadGreatDoorKeys
namespace Go.Proofs.YtmihbfmlnfhgcadGreatDoor.Cal
open Go.ChangeShapes Go.WideShapes Go.ChangeAt Go.RowKit Stm Key
set_option linter.unusedVariables false

theorem inan_any (x : Int) (w : World) : Calls Tryz.prog 87 #[.int .i64 x] w fun e w' => e = .returned (.bool false) ∧ w' = w := by
  go_enter Tryz.func87, Tryz.ntmps87
  go_wp2
  go_ret
  exact ⟨rfl, rfl⟩
set_option maxHeartbeats 400000 in
theorem icmp_any (x y : Int) (w : World) : Calls Tryz.prog 60 #[.int .i64 x, .int .i64 y] w fun e w' => e = .returned (.int .i64 (sgn (x - y))) ∧ w' = w := by
  by_cases h : x < y
  · have H := Lib.hid (show sgn (x - y) = -1 from by unfold sgn; rw [if_pos (by omega)])
    go_enter Tryz.func60, Tryz.ntmps60
    go_wp2_with (go_at_call 87; refine (inan_any _ _).mono ?_; rintro e w' ⟨rfl, rfl⟩)
    go_ret
    exact ⟨Stm.ret_int H.out.symm, rfl⟩
  · by_cases h2 : y < x
    · have H := Lib.hid (show sgn (x - y) = 1 from by unfold sgn; rw [if_neg (by omega), if_pos (by omega)])
      go_enter Tryz.func60, Tryz.ntmps60
      go_wp2_with (go_at_call 87; refine (inan_any _ _).mono ?_; rintro e w' ⟨rfl, rfl⟩)
      go_ret
      exact ⟨Stm.ret_int H.out.symm, rfl⟩
    · have H := Lib.hid (show sgn (x - y) = 0 from by unfold sgn; rw [if_neg (by omega), if_neg (by omega)])
      go_enter Tryz.func60, Tryz.ntmps60
      go_wp2_with (go_at_call 87; refine (inan_any _ _).mono ?_; rintro e w' ⟨rfl, rfl⟩)
      go_ret
      exact ⟨Stm.ret_int H.out.symm, rfl⟩
set_option maxHeartbeats 400000 in
theorem fcmp_any (n1 d1 n2 d2 : Int) (w : World) (h1 : -4611686018427387904 ≤ n1 * d2) (h2 : n1 * d2 ≤ 4611686018427387904) (h3 : -4611686018427387904 ≤ n2 * d1) (h4 : n2 * d1 ≤ 4611686018427387904) :
    Calls Tryz.prog 44 #[.agg #[.int .i64 n1, .int .i64 d1], .agg #[.int .i64 n2, .int .i64 d2]] w fun e w' => e = .returned (.int .i64 (cmpF (n1, d1) (n2, d2))) ∧ Below w.heap.size w w' := by
  have HC := Lib.hid (show cmpF (n1, d1) (n2, d2) = sgn (n1 * d2 - n2 * d1) from rfl)
  go_enter Tryz.func44, Tryz.ntmps44
  go_wp2_with (go_at_call 60; refine (icmp_any _ _ _).mono ?_; rintro e w' ⟨rfl, rfl⟩)
  go_ret
  exact ⟨Stm.ret_int HC.out.symm, by go_grown⟩
set_option maxRecDepth 100000 in
set_option maxHeartbeats 2000000 in
theorem orerr_walk (b : Nat) (x y : Int) (t : TypeId) (w : World) (hb : Blk w b t #[.int .i64 x, .int .i64 y]) (r : Int) (hr : (if x ≠ 0 then x else y) = r) :
    Calls Tryz.prog 23 #[.slice (some ⟨b, 0, none⟩) 2 2] w fun e w' => e = .returned (.int .i64 r) ∧ w' = w := by
  have c0 : w.cell? ⟨b, 0, none⟩ = some (.int .i64 x) := hb.cell 0 _ rfl
  have c1 : w.cell? ⟨b, 1, none⟩ = some (.int .i64 y) := hb.cell 1 _ rfl
  have HR := Lib.hid hr
  clear hb hr
  go_enter Tryz.func23, Tryz.ntmps23
  go_wp2_with fail
  refine wp_loop_rounds 3 ?_
  rw [rounds_succ]
  by_cases hx : x = 0
  · have ex : (x != 0) = false := by simp [hx]
    have HE := Lib.hid (show y = r by have := HR.out; rw [if_neg (by simpa using hx)] at this; exact this)
    clear hx
    go_wp2_with fail
    rw [rounds_succ]
    by_cases hy : y = 0
    · have ey : (y != 0) = false := by simp [hy]
      have HY := Lib.hid hy
      clear hy
      go_wp2_with fail
      rw [rounds_succ]
      go_wp2_with fail
      go_ret
      exact ⟨by rw [← HE.out, HY.out]; try rfl, rfl⟩
    · have ey : (y != 0) = true := by simpa using hy
      clear hy
      go_wp2_with fail
      go_ret
      exact ⟨by rw [← HE.out]; try rfl, rfl⟩
  · have ex : (x != 0) = true := by simpa using hx
    have HE := Lib.hid (show x = r by have := HR.out; rw [if_pos hx] at this; exact this)
    clear hx
    go_wp2_with fail
    go_ret
    exact ⟨by rw [← HE.out]; try rfl, rfl⟩
theorem chkkey_any (s : ByteArray) (w : World) (hs : s.size ≤ 1000) (r : Int) (hr : (if keyL s.data.toList = true then 0 else 5 : Int) = r) :
    Calls Tryz.prog 24 #[.string s] w fun e w' => e = .returned (.int .i64 r) ∧ w' = w := by
  obtain ⟨b, hb⟩ : ∃ b, keyL s.data.toList = b := ⟨_, rfl⟩
  have HK := Lib.hid (key_walk s w (by omega) b (Lib.hid hb))
  rw [hb] at hr
  clear hb
  cases b
  · have hr2 := Lib.hid hr
    clear hr
    go_enter Tryz.func24, Tryz.ntmps24
    go_wp2_with fail
    refine (HK.out).mono ?_; rintro e w1 ⟨rfl, rfl⟩
    go_wp2_with fail
    go_ret
    exact ⟨Stm.ret_int (by have := hr2.out; simpa using this), rfl⟩
  · have hr2 := Lib.hid hr
    clear hr
    go_enter Tryz.func24, Tryz.ntmps24
    go_wp2_with fail
    refine (HK.out).mono ?_; rintro e w1 ⟨rfl, rfl⟩
    go_wp2_with fail
    go_ret
    exact ⟨Stm.ret_int (by have := hr2.out; simpa using this), rfl⟩
end Go.Proofs.YtmihbfmlnfhgcadGreatDoor.Cal
