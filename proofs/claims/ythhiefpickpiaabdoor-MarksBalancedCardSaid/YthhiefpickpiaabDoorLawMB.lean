/-
  THE LAW MarksBalanced.
-/
import Derived.Test.YthhiefpickpiaabDoorMarksAny
import Derived.Test.YthhiefpickpiaabDoorLaw
import Derived.Test.YthhiefpickpiaabDoorCalF
import Derived.Test.YthhiefpickpiaabDoorCalBb
import Derived.Test.YthhiefpickpiaabDoorCalBg
import Derived.Test.YthhiefpickpiaabDoorCalEq
namespace Go.Proofs.YthhiefpickpiaabDoor.Cal
open Go.Shelf
open Go.ChangeShapes Go.WideShapes Go.ChangeAt Go.RowKit Stm Key
set_option linter.unusedVariables false

set_option maxRecDepth 100000 in
set_option maxHeartbeats 8000000 in
theorem law_marksbalanced (a0 : Option Addr) (len0 cap0 : Nat) (z0 : List Int) (w : World) (w0 : IsRow .i64 w a0 len0 cap0 z0) :
    Calls Tryd.prog 3 #[.slice a0 len0 cap0] w fun e w' => e = .returned (.bool true) ∧ Below w.heap.size w w' := by
  have SA := Lib.hid (strm_new w0)
  have G0 := Lib.hid (show Below w.heap.size w (w.alloc (.cells #[.slice a0 len0 cap0, .int .i64 0] 25)) from (Below.refl _ _).alloc (Nat.le_refl _) _)
  clear w0
  go_enter Tryd.func3, Tryd.ntmps3
  go_wp2_with fail
  refine (anymarks_any w.heap.size 0 _ SA.out (by omega)).mono ?_
  rintro e w1 ⟨A, n, c, l, rfl, hl, hn, hnc, hml, hat, hgr, hs⟩
  have G1 := Lib.hid (G0.out.trans (hgr.toBelow (Nat.le_refl _) (by simp)))
  have HL := Lib.hid hl
  have M1 := Lib.hid hml
  have HA := Lib.hid hat
  have S1 := Lib.hid hs
  have hz1 := G1.out.size
  have hSl := hs.lt
  clear hgr hs hl hml hat SA G0
  go_wp2_with fail
  refine (pick_any w.heap.size (0 + 602) _ _ [1, 2, 5, 20, 100, 0, 101] _ _ _ (S1.out.keep (by go_grown)) (by omega) (by omega) (new_at (by simp)) (by simp) (by simp)).mono ?_
  rintro e w2 ⟨m, hm, rfl, ho, _⟩
  have hmm : 0 ≤ m ∧ m ≤ 101 := by simp at hm; omega
  have M2 := Lib.hid ((M1.out.below ((Below.refl _ _).alloc (Nat.le_refl _) _)).gr (by rw [HL.out]; exact HA.out) (Gr.only ho))
  have G2 := Lib.hid ((G1.out.alloc hz1 _).trans (ho.below (Nat.le_refl _)))
  obtain ⟨hm0, hm1⟩ := hmm
  clear hm ho M1 HA S1 G1 hSl hz1
  obtain ⟨r, hr⟩ : ∃ r, chkE ⟨#[]⟩ ⟨#[]⟩ 0 l = r := ⟨_, rfl⟩
  have HR := Lib.hid hr
  have HRE := Lib.hid (show refE [] none l = r by rw [marks_same, hr])
  clear hr
  go_wp2_with fail
  refine (balanced_any A n c l m w2 HL.out hn M2.out r HR).mono ?_; rintro e w3 ⟨hb, hor⟩
  have G3 := Lib.hid (G2.out.trans (hb.mono G2.out.size))
  have M3 := Lib.hid (M2.out.below hb)
  clear hb G2 M2
  rcases hor with ⟨h0, rfl⟩ | ⟨rfl, hm2, rfl⟩ | ⟨rfl, hm2, hm3, P, H, cP, cH, rfl, hP, hH⟩
  · have e1 : (r != 0) = true := by simpa using h0
    have e2 : (r == 0) = false := by simpa using h0
    have e3 : (r == r) = true := by simp
    clear h0
    go_wp2_with fail
    refine (marksfault_walk A n c l w3 HL.out (by omega) M3.out r HRE).mono ?_; rintro e w4 ⟨rfl, hb⟩
    have G4 := Lib.hid (G3.out.trans (hb.mono G3.out.size))
    clear hb G3 M3
    go_wp2_with fail
    refine (scores1_true _).mono ?_; rintro e w5 ⟨rfl, hb⟩
    have G5 := Lib.hid (G4.out.trans (hb.mono G4.out.size))
    clear hb G4
    go_wp2_with fail
    go_ret
    exact ⟨rfl, G5.out⟩
  · go_wp2_with fail
    refine (marksfault_walk A n c l w3 HL.out (by omega) M3.out 0 HRE).mono ?_; rintro e w4 ⟨rfl, hb⟩
    have G4 := Lib.hid (G3.out.trans (hb.mono G3.out.size))
    clear hb G3 M3
    by_cases hm3 : m < 1
    · have d1 : decide (m < 1) = true := by simpa using hm3
      go_wp2_with fail
      refine (scores1_true _).mono ?_; rintro e w5 ⟨rfl, hb⟩
      have G5 := Lib.hid (G4.out.trans (hb.mono G4.out.size))
      clear hb G4
      go_wp2_with fail
      go_ret
      exact ⟨rfl, G5.out⟩
    · have d1 : decide (m < 1) = false := by simpa using hm3
      have d2 : decide (m > 100) = true := by simp; omega
      go_wp2_with fail
      refine (scores1_true _).mono ?_; rintro e w5 ⟨rfl, hb⟩
      have G5 := Lib.hid (G4.out.trans (hb.mono G4.out.size))
      clear hb G4
      go_wp2_with fail
      go_ret
      exact ⟨rfl, G5.out⟩
  · obtain ⟨k, rfl⟩ : ∃ k : Nat, m = k := ⟨m.toNat, by omega⟩
    have d1 : decide ((k : Int) < 1) = false := by simp; omega
    have d2 : decide ((k : Int) > 100) = false := by simp; omega
    have hsc : ∀ x ∈ l, 0 ≤ x.s ∧ x.s ≤ 10 := fun x hx => (chk_scores l _ _ _ HR.out x hx).2
    have HBO := Lib.hid (fun W (h : ML W A l) => balancedof_walk A n c l k W HL.out hn h hsc (by omega))
    have hnp : (papersL l).length ≤ 256 := Nat.le_trans (dedB_length _) (by rw [List.length_map, HL.out]; exact hn)
    have hnh : (peopleL l).length ≤ 256 := Nat.le_trans (dedB_length _) (by rw [List.length_map, HL.out]; exact hn)
    have HP := Lib.hid hP
    have HH := Lib.hid hH
    have HLP := Lib.hid (lvs_len (papersL l) (bal (papersL l) (peopleL l) l k).1)
    have HLH := Lib.hid (lvs_len (peopleL l) (bal (papersL l) (peopleL l) l k).2)
    simp only [Int.toNat_natCast] at HP HH
    clear hP hH hsc
    go_wp2_with fail
    refine (marksfault_walk A n c l w3 HL.out (by omega) M3.out 0 HRE).mono ?_; rintro e w4 ⟨rfl, hb⟩
    have G4 := Lib.hid (G3.out.trans (hb.mono G3.out.size))
    have M4 := Lib.hid (M3.out.below hb)
    have P4 := Lib.hid (HP.out.below hb)
    have H4 := Lib.hid (HH.out.below hb)
    clear hb G3 M3 HP HH
    go_wp2_with fail
    refine (HBO.out _ M4.out).mono ?_; rintro e w5 ⟨A2, B2, cA, cB, rfl, hA2, hB2, hb⟩
    have G5 := Lib.hid (G4.out.trans (hb.mono G4.out.size))
    have P5 := Lib.hid (P4.out.below hb)
    have H5 := Lib.hid (H4.out.below hb)
    have X5 := Lib.hid hA2
    have Y5 := Lib.hid hB2
    clear hb G4 M4 P4 H4 hA2 hB2 HBO
    obtain ⟨np, he⟩ : ∃ np, (papersL l).length = np := ⟨_, rfl⟩
    rw [he] at hnp HLP ⊢; clear he
    obtain ⟨nh, he⟩ : ∃ nh, (peopleL l).length = nh := ⟨_, rfl⟩
    rw [he] at hnh HLH ⊢; clear he
    go_wp2_with fail
    refine (scores1_true _).mono ?_; rintro e w6 ⟨rfl, hb⟩
    have G6 := Lib.hid (G5.out.trans (hb.mono G5.out.size))
    have P6 := Lib.hid (P5.out.below hb)
    have H6 := Lib.hid (H5.out.below hb)
    have X6 := Lib.hid (X5.out.below hb)
    have Y6 := Lib.hid (Y5.out.below hb)
    clear hb G5 P5 H5 X5 Y5
    go_wp2_with fail
    refine (equalv_any P A2 cP cA _ w6 np HLP.out (by omega) P6.out X6.out).mono ?_; rintro e w7 ⟨rfl, hb⟩
    have G7 := Lib.hid (G6.out.trans (hb.mono G6.out.size))
    have H7 := Lib.hid (H6.out.below hb)
    have Y7 := Lib.hid (Y6.out.below hb)
    clear hb G6 P6 H6 X6 Y6
    go_wp2_with fail
    refine (equalv_any H B2 cH cB _ w7 nh HLH.out (by omega) H7.out Y7.out).mono ?_; rintro e w8 ⟨rfl, hb⟩
    have G8 := Lib.hid (G7.out.trans (hb.mono G7.out.size))
    clear hb G7 H7 Y7
    go_wp2_with fail
    go_ret
    exact ⟨rfl, G8.out⟩
end Go.Proofs.YthhiefpickpiaabDoor.Cal
