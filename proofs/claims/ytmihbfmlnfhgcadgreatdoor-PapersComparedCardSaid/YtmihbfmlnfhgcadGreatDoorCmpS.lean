/-
  cmp.Compare at strings, slices.Compare at two strings, the reference's PairOrder and its bounds (in).
-/
import Derived.Test.YtmihbfmlnfhgcadGreatDoorCalM
import Derived.Sort.Walk0
import Derived.StillTailTactics
namespace Go.Proofs.YtmihbfmlnfhgcadGreatDoor.Cal
open Go.ChangeShapes Go.WideShapes Go.ChangeAt Go.RowKit Stm Key
set_option linter.unusedVariables false

theorem nan_str (x : ByteArray) (w : World) : Calls Tryz.prog 96 #[.string x] w fun e w' => e = .returned (.bool false) ∧ w' = w := by
  go_enter Tryz.func96, Tryz.ntmps96
  go_wp2_with fail
  go_ret
  exact ⟨rfl, rfl⟩
theorem less_lt (a b : ByteArray) : Op.bytesLess a.toList b.toList = decide (a.data.toList < b.data.toList) := by
  rw [bytesLess_eq, Lib.toList_data, Lib.toList_data]
theorem eq_dt (a b : ByteArray) : (a.toList == b.toList) = decide (a.data.toList = b.data.toList) := by
  rw [Lib.toList_data, Lib.toList_data]
  rw [Bool.eq_iff_iff, beq_iff_eq, decide_eq_true_iff]
set_option maxHeartbeats 1000000 in
theorem cmp_str (a b : ByteArray) (r : Int) (hr : Hid (Lib.compareBytes a.data.toList b.data.toList = r)) (w : World) :
    Calls Tryz.prog 65 #[.string a, .string b] w fun e w' => e = .returned (.int .i64 r) ∧ w' = w := by
  have h1 : a.data.toList < b.data.toList → r = -1 := fun h => by
    rcases cmpB_bd a.data.toList b.data.toList with ⟨k, _⟩ | ⟨k, e⟩ | ⟨k, e⟩
    · rw [← hr.out, k]
    · rw [e] at h; exact absurd h (bl_irrefl _)
    · exact absurd (bl_trans h e) (bl_irrefl _)
  have h2 : ¬ a.data.toList < b.data.toList → a.data.toList ≠ b.data.toList → r = 1 := fun h g => by
    rcases cmpB_bd a.data.toList b.data.toList with ⟨k, e⟩ | ⟨k, e⟩ | ⟨k, e⟩
    · exact absurd e h
    · exact absurd e g
    · rw [← hr.out, k]
  have h3 : a.data.toList = b.data.toList → r = 0 := fun h => by
    rcases cmpB_bd a.data.toList b.data.toList with ⟨k, e⟩ | ⟨k, e⟩ | ⟨k, e⟩
    · rw [h] at e; exact absurd e (bl_irrefl _)
    · rw [← hr.out, k]
    · rw [h] at e; exact absurd e (bl_irrefl _)
  have H1 := Lib.hid h1
  have H2 := Lib.hid h2
  have H3 := Lib.hid h3
  clear h1 h2 h3
  go_enter Tryz.func65, Tryz.ntmps65
  go_wp2_with (go_at_call 96; refine (nan_str _ _).mono ?_; rintro e w' ⟨rfl, rfl⟩)
  · rename_i hl
    rw [less_lt] at hl
    obtain rfl := H1.out (of_decide_eq_true hl)
    go_ret
    exact ⟨rfl, rfl⟩
  · rename_i hl _ _ he
    rw [less_lt] at hl
    rw [eq_dt] at he
    obtain rfl := H2.out (of_decide_eq_false hl) (of_decide_eq_false (by simpa using he))
    go_ret
    exact ⟨rfl, rfl⟩
  · rename_i hl he
    rw [eq_dt] at he
    obtain rfl := H3.out (of_decide_eq_true (by simpa using he))
    go_ret
    exact ⟨rfl, rfl⟩
set_option maxRecDepth 100000 in
set_option maxHeartbeats 2000000 in
theorem scmp_two (g1 g2 : Nat) (a b c d : ByteArray) (r : Int) (hr : Hid (ordP a b c d = r)) (w : World) (c1 : w.cell? ⟨g1, 0, none⟩ = some (.string a)) (c2 : w.cell? ⟨g1, 1, none⟩ = some (.string b)) (c3 : w.cell? ⟨g2, 0, none⟩ = some (.string c)) (c4 : w.cell? ⟨g2, 1, none⟩ = some (.string d)) :
    Calls Tryz.prog 50 #[.slice (some ⟨g1, 0, none⟩) 2 2, .slice (some ⟨g2, 0, none⟩) 2 2] w fun e w' => e = .returned (.int .i64 r) ∧ w' = w := by
  obtain ⟨x, hx⟩ : ∃ x, Lib.compareBytes a.data.toList c.data.toList = x := ⟨_, rfl⟩
  obtain ⟨y, hy⟩ : ∃ y, Lib.compareBytes b.data.toList d.data.toList = y := ⟨_, rfl⟩
  have hr2 := hr.out
  unfold ordP at hr2
  rw [hx, hy] at hr2
  have HR := Lib.hid hr2
  have CX := Lib.hid (cmp_str a c x (Lib.hid hx) w)
  have CY := Lib.hid (cmp_str b d y (Lib.hid hy) w)
  clear hr hr2 hx hy
  go_enter Tryz.func50, Tryz.ntmps50
  go_wp2_with fail
  go_loop [11] (fun i => ∃ (k : Nat), i = .int .i64 k ∧ (k = 0 ∨ (k = 1 ∧ x = 0) ∨ (k = 2 ∧ x = 0 ∧ y = 0))) (fun i => 3 - (intOf i).toNat)
  case atStart => exact ⟨0, rfl, Or.inl rfl⟩
  case round =>
    obtain ⟨k, rfl, rfl | ⟨rfl, rfl⟩ | ⟨rfl, rfl, rfl⟩⟩ := hrel
    · go_wp2_with fail
      refine (CX.out).mono ?_; rintro e w1 ⟨rfl, rfl⟩
      by_cases h0 : x = 0
      · subst h0
        go_wp2_with fail
        go_roundw
        case rel => exact ⟨1, rfl, by simp⟩
        case measure => simp [intOf]
      · have e1 : (x != 0) = true := by simpa using h0
        have HX := Lib.hid h0
        clear h0
        go_wp2_with fail
        go_ret
        exact ⟨Stm.ret_int (show x = r by rw [← HR.out, if_pos HX.out]), rfl⟩
    · go_wp2_with fail
      refine (CY.out).mono ?_; rintro e w1 ⟨rfl, rfl⟩
      by_cases h0 : y = 0
      · subst h0
        go_wp2_with fail
        go_roundw
        case rel => exact ⟨2, rfl, by simp⟩
        case measure => simp [intOf]
      · have e1 : (y != 0) = true := by simpa using h0
        have HX := Lib.hid h0
        clear h0
        go_wp2_with fail
        go_ret
        exact ⟨Stm.ret_int (show y = r by rw [← HR.out, if_neg (by simp)]), rfl⟩
    · go_wp2_with fail
      go_ret
      exact ⟨by rw [← HR.out]; simp, rfl⟩
set_option maxRecDepth 100000 in
set_option maxHeartbeats 2000000 in
theorem pord_any (a b c d : ByteArray) (r : Int) (hr : Hid (ordP a b c d = r)) (w : World) :
    Calls Tryz.prog 30 #[.agg #[.string a, .string b], .agg #[.string c, .string d]] w fun e w' => e = .returned (.int .i64 r) ∧ Below w.heap.size w w' := by
  go_enter Tryz.func30, Tryz.ntmps30
  go_wp2_with fail
  have b1 := Blk.new ((w.alloc (.cells #[.string a, .string b] 49)).alloc (.cells #[.string c, .string d] 49)) 9 #[.string a, .string b]
  have b2 := Blk.new (((w.alloc (.cells #[.string a, .string b] 49)).alloc (.cells #[.string c, .string d] 49)).alloc (.cells #[.string a, .string b] 9)) 9 #[.string c, .string d]
  rw [World.size_alloc, World.size_alloc] at b1
  rw [World.size_alloc, World.size_alloc, World.size_alloc] at b2
  have b3 := b1.alloc (.cells #[.string c, .string d] 9)
  refine (scmp_two (w.heap.size + 1 + 1) (w.heap.size + 1 + 1 + 1) a b c d r hr ((((w.alloc (.cells #[.string a, .string b] 49)).alloc (.cells #[.string c, .string d] 49)).alloc (.cells #[.string a, .string b] 9)).alloc (.cells #[.string c, .string d] 9)) (b3.cell 0 _ rfl) (b3.cell 1 _ rfl) (b2.cell 0 _ rfl) (b2.cell 1 _ rfl)).mono ?_
  rintro e w1 ⟨rfl, rfl⟩
  go_wp2_with fail
  go_ret
  exact ⟨rfl, ((((Below.refl _ _).alloc (Nat.le_refl _) _).alloc (by simp) _).alloc (by simp; omega) _).alloc (by simp; omega) _⟩
end Go.Proofs.YtmihbfmlnfhgcadGreatDoor.Cal
