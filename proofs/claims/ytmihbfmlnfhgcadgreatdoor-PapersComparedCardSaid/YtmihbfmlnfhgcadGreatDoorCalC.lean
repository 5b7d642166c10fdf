/-
  MARKS: pairs.Compare, pairs.After and calibrate.CheckMarks; the reference's pairOrder.
-/
import Derived.Test.YtmihbfmlnfhgcadGreatDoorCalM
import Derived.StillTailTactics
namespace Go.Proofs.YtmihbfmlnfhgcadGreatDoor.Cal
open Go.ChangeShapes Go.WideShapes Go.ChangeAt Go.RowKit Stm Key
set_option linter.unusedVariables false

set_option maxRecDepth 100000 in
set_option maxHeartbeats 1000000 in
theorem pcmp_any (a b c d : ByteArray) (r : Int) (hr : Hid (ordP a b c d = r)) (w : World) :
    Calls Tryz.prog 102 #[.agg #[.string a, .string b], .agg #[.string c, .string d]] w fun e w' => e = .returned (.int .i64 r) ∧ Below w.heap.size w w' := by
  go_enter Tryz.func102, Tryz.ntmps102
  go_wp2_with fail
  refine wp_region_still_tail 10 (by kernel_rfl) (by kernel_rfl) ?_
  change wpStill _ _ (World.drew _) (fun a' => wpList _ _ _ _ a' (World.drew _)) _ _
  generalize hW : World.drew _ = W
  have k0 : W.cell? ⟨w.heap.size, 0, none⟩ = some (.string a) := by rw [← hW]; simp
  have k1 : W.cell? ⟨w.heap.size, 1, none⟩ = some (.string b) := by rw [← hW]; simp
  have k2 : W.cell? ⟨w.heap.size + 1, 0, none⟩ = some (.string c) := by rw [← hW]; simp
  have k3 : W.cell? ⟨w.heap.size + 1, 1, none⟩ = some (.string d) := by rw [← hW]; simp
  have hb : Below w.heap.size w W := by rw [← hW]; exact (((Below.refl _ _).alloc (Nat.le_refl _) _).alloc (by simp) _).drew
  have HB := Lib.hid hb
  clear hb hW
  simp only [List.take_succ_cons, List.take_zero, List.drop_succ_cons, List.drop_zero]
  repeat still_step
  still_call (Any.strings_Compare Tryz.lays106 _ _ _)
  repeat still_step
  still_call (Any.strings_Compare Tryz.lays106 _ _ _)
  repeat still_step
  refine wpStill_nil ?_
  go_wp2_with fail
  refine (orint_two W _ W.heap.size _ _ r hr.out rfl rfl).mono ?_
  rintro e w1 ⟨rfl, rfl⟩
  go_wp2_with fail
  go_ret
  exact ⟨rfl, HB.out.alloc HB.out.size _⟩
set_option maxRecDepth 100000 in
set_option maxHeartbeats 2000000 in
theorem after_any (x : Mk) (lp lh : ByteArray) (r : Int) (hx : mOk x) (hr : Hid ((if badK x = true then 5 else if ordP x.p x.h lp lh ≤ 0 then 7 else 0 : Int) = r)) (w : World) :
    Calls Tryz.prog 77 #[.agg #[.string x.p, .string x.h], .agg #[.string lp, .string lh]] w fun e w' => e = .returned (.int .i64 r) ∧ Below w.heap.size w w' := by
  obtain ⟨hp, hh, _, _⟩ := hx
  obtain ⟨b1, hb1⟩ : ∃ b, keyL x.p.data.toList = b := ⟨_, rfl⟩
  obtain ⟨b2, hb2⟩ : ∃ b, keyL x.h.data.toList = b := ⟨_, rfl⟩
  obtain ⟨o, ho⟩ : ∃ o, ordP x.p x.h lp lh = o := ⟨_, rfl⟩
  have HO := Lib.hid ho
  have HR : Hid ((if (!b1 || !b2) = true then 5 else if o ≤ 0 then 7 else 0 : Int) = r) := Lib.hid (by rw [← hr.out]; unfold badK; rw [hb1, hb2, ho])
  have K1 := Lib.hid (fun W => hb1 ▸ key_any x.p W (by omega))
  have K2 := Lib.hid (fun W => hb2 ▸ key_any x.h W (by omega))
  clear hb1 hb2 ho hr
  generalize x.p = xp at *
  generalize x.h = xh at *
  go_enter Tryz.func77, Tryz.ntmps77
  cases b1
  · have HE : Hid (5 = r) := Lib.hid (by rw [← HR.out]; rfl)
    go_wp2_with fail
    refine (K1.out _).mono ?_; rintro e w1 ⟨rfl, rfl⟩
    go_wp2_with fail
    go_ret
    exact ⟨by rw [HE.out]; try rfl, by go_grown⟩
  · cases b2
    · have HE : Hid (5 = r) := Lib.hid (by rw [← HR.out]; rfl)
      go_wp2_with fail
      refine (K1.out _).mono ?_; rintro e w1 ⟨rfl, rfl⟩
      go_wp2_with fail
      refine (K2.out _).mono ?_; rintro e w1 ⟨rfl, rfl⟩
      go_wp2_with fail
      go_ret
      exact ⟨by rw [HE.out]; try rfl, by go_grown⟩
    · have HE : Hid ((if o ≤ 0 then 7 else 0 : Int) = r) := Lib.hid (by rw [← HR.out]; rfl)
      go_wp2_with fail
      refine (K1.out _).mono ?_; rintro e w1 ⟨rfl, rfl⟩
      go_wp2_with fail
      refine (K2.out _).mono ?_; rintro e w1 ⟨rfl, rfl⟩
      go_wp2_with fail
      refine (pcmp_any _ _ _ _ o HO _).mono ?_; rintro e w1 ⟨rfl, hb⟩
      have HB := Lib.hid hb
      clear hb
      by_cases h : o ≤ 0
      · have HE2 : Hid (7 = r) := Lib.hid (by rw [← HE.out, if_pos h])
        go_wp2_with fail
        go_ret
        exact ⟨by rw [HE2.out]; try rfl, Below.trans (by go_grown) (HB.out.mono (by simp; omega))⟩
      · have HE2 : Hid (0 = r) := Lib.hid (by rw [← HE.out, if_neg h])
        go_wp2_with fail
        go_ret
        exact ⟨by rw [HE2.out]; try rfl, Below.trans (by go_grown) (HB.out.mono (by simp; omega))⟩
end Go.Proofs.YtmihbfmlnfhgcadGreatDoor.Cal
