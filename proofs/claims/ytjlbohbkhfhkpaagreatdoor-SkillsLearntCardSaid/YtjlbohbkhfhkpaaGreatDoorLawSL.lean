/-
  THE WALK OF THE LAW SkillsLearnt, over its contracts.
-/
import Derived.Test.YtjlbohbkhfhkpaaGreatDoorLaw
import Derived.Test.YtjlbohbkhfhkpaaGreatDoorGFracs
import Derived.Test.YtjlbohbkhfhkpaaGreatDoorRefLearn
namespace Go.Proofs.YtjlbohbkhfhkpaaGreatDoor.For
open Go.ChangeShapes Go.WideShapes Go.ChangeAt Go.RowKit Stm Key
set_option linter.unusedVariables false

theorem least_in {r : Int} (h : r ∈ ([1, 50, 100, 0, 101] : List Int)) : 0 ≤ r ∧ r ≤ 101 := by simp at h; omega
theorem pct_no {n : Int} (h : n < 1 ∨ n > 100) : pct n = false := by
  unfold pct
  rcases h with h | h
  · have : decide (1 ≤ n) = false := by simp; omega
    rw [this]; rfl
  · have : decide (n ≤ 100) = false := by simp; omega
    rw [this, Bool.and_false]
theorem pct_yes {n : Int} (h : 1 ≤ n) (h2 : n ≤ 100) : pct n = true := by unfold pct; simp [h, h2]
theorem km_nil (w : World) (A : Option Addr) : KM w A [] := fun h => absurd h (by simp)
/-- Two lists of skills with one error, compared. -/
theorem equalk_ret {r : Int} {ks : List Sk} (A A2 : Option Addr) (m m2 c c2 : Nat) (w : World) (h8 : ks.length ≤ 1000) (h1 : (r ≠ 0 → m = 0) ∧ (r = 0 → m = ks.length ∧ KM w A ks)) (h2 : (r ≠ 0 → m2 = 0) ∧ (r = 0 → m2 = ks.length ∧ KM w A2 ks)) :
    Calls Tryz.prog 14 #[.slice A m c, .slice A2 m2 c2] w fun e w' => e = .returned (.bool true) ∧ Below w.heap.size w w' := by
  by_cases h0 : r = 0
  · obtain ⟨e1, k1⟩ := h1.2 h0
    obtain ⟨e2, k2⟩ := h2.2 h0
    subst e1
    subst e2
    exact equalk_any A A2 c c2 ks w _ rfl h8 k1 k2
  · obtain rfl := h1.1 h0
    obtain rfl := h2.1 h0
    exact equalk_any A A2 c c2 [] w 0 rfl (by omega) (km_nil _ _) (km_nil _ _)
theorem learnK_len (l : List Tp) (xs : List Pap) (who : ByteArray) : (learnK l xs who).length ≤ l.length := by
  unfold learnK
  cases learnT l who xs [] with
  | none => simp
  | some R => exact flat_len (l := l) l

set_option maxRecDepth 100000 in
set_option maxHeartbeats 8000000 in
theorem law_skills (a0 : Option Addr) (len0 cap0 : Nat) (z0 : List Int) (w : World) (w0 : IsRow .i64 w a0 len0 cap0 z0) (hg : gTop ≤ w.heap.size) (hT : Tabs w) :
    Calls Tryz.prog 3 #[.slice a0 len0 cap0] w fun e w' => e = .returned (.bool true) ∧ Below w.heap.size w w' := by
  have hs0 := strm_new w0
  have g0 : Below w.heap.size w (w.alloc (.cells #[.slice a0 len0 cap0, .int .i64 0] 25)) := (Below.refl _ _).alloc (Nat.le_refl _) _
  have TW := Lib.hid (fun W (hW : Below w.heap.size w W) => show Tabs W ∧ gTop ≤ W.heap.size from ⟨hT.below (hW.mono hg), Nat.le_trans hg hW.size⟩)
  clear w0 hT hg
  go_enter Tryz.func3, Tryz.ntmps3
  go_wp2_with fail
  refine (forest_any _ 0 _ hs0 (by omega)).mono ?_
  rintro e w1 ⟨A, n, c, l, rfl, hl, hn, hnc, htl, hat, hgr, hs⟩
  have G1 := Lib.hid (g0.trans (hgr.toBelow (Nat.le_refl _) (by simp)))
  have HL := Lib.hid hl
  have T1 := Lib.hid htl
  have AT := Lib.hid (show AtT w.heap.size A l.length by rw [hl]; exact hat)
  have S1 := Lib.hid hs
  have hz1 := G1.out.size
  clear hs0 g0 hgr hs hl htl hat
  go_wp2_with fail
  refine (skills_any w.heap.size (0 + 20) _ S1.out (by omega)).mono ?_
  rintro e w2 ⟨A2, n2, c2, s, rfl, hl2, hn2, hnc2, hkl, hat2, hgr, hs⟩
  have G2 := Lib.hid (G1.out.trans (hgr.toBelow (Nat.le_refl _) hz1))
  have T2 := Lib.hid (T1.out.gr AT.out hgr)
  have S2 := Lib.hid hs
  have HL2 := Lib.hid hl2
  have KL2 := Lib.hid hkl
  have AT2 := Lib.hid (show AtT w.heap.size A2 s.length by rw [hl2]; exact hat2)
  have hz2 := G2.out.size
  clear hgr hs G1 T1 S1 hz1 hl2 hkl hat2
  go_wp2_with fail
  refine (papers_gen w.heap.size (0 + 20 + 12) _ S2.out (by omega)).mono ?_
  rintro e w3 ⟨A3, n3, c3, xs, rfl, hl3, hn3, hnc3, hrow, hxx, hgr, hs⟩
  have G3 := Lib.hid (G2.out.trans (hgr.toBelow (Nat.le_refl _) hz2))
  have T3 := Lib.hid (T2.out.gr AT.out hgr)
  have K3 := Lib.hid (KL2.out.gr AT2.out hgr)
  have HL3 := Lib.hid hl3
  have S3 := Lib.hid hs
  have HP3 := Lib.hid (fun W (hW : Gr w.heap.size w3 W) => show PL W A3 xs from by
    rcases hrow with h0 | ⟨g, rfl, hgB, hP⟩
    · have : xs = [] := List.length_eq_zero_iff.1 (by rw [hl3, h0])
      subst this
      exact ⟨by simp, fun h => absurd h (by simp)⟩
    · exact pb_pl (hP.gr hW hgB) (fun x hx => (hxx x hx).1.gr hW))
  have hz3 := G3.out.size
  have hB3 := S3.out.lt
  clear hgr hs G2 T2 S2 hz2 KL2 hl3 hrow hxx
  go_wp2_with fail
  refine (one_any w.heap.size (0 + 20 + 12 + 200) _ _ [⟨#[97, 110, 110]⟩, ⟨#[98, 111]⟩, ⟨#[122, 111, 101]⟩, ⟨#[90]⟩] _ _ _ (S3.out.keep (by go_grown)) (by omega) (by omega) (new_at rfl) (by simp) (by simp)).mono ?_
  rintro e w4 ⟨who, hwho, rfl, ho, hs⟩
  have HWHO := Lib.hid ((le_all (m := 1000) (zs := [⟨#[97, 110, 110]⟩, ⟨#[98, 111]⟩, ⟨#[122, 111, 101]⟩, ⟨#[90]⟩]) (by decide +kernel)) who hwho)
  have Q4 := Lib.hid (((Gr.refl w.heap.size w3).alloc (.cells #[.string ⟨#[97, 110, 110]⟩, .string ⟨#[98, 111]⟩, .string ⟨#[122, 111, 101]⟩, .string ⟨#[90]⟩] 9)).trans (Gr.only ho))
  have S4 := Lib.hid hs
  have hB4 := S4.out.lt
  have hz4 : w3.heap.size ≤ w4.heap.size := Q4.out.size
  clear ho hs hwho S3
  go_wp2_with fail
  refine (pick_any w.heap.size (0 + 20 + 12 + 200 + 1) _ _ [1, 50, 100, 0, 101] _ _ _ (S4.out.keep (by go_grown)) (by omega) (by omega) (new_at rfl) (by simp) (by simp)).mono ?_
  rintro e w5 ⟨least, hle, rfl, ho, hs⟩
  obtain ⟨hle0, hle1⟩ := least_in hle
  have Q5 := Lib.hid (Q4.out.trans (((Gr.refl w.heap.size w4).alloc (.cells #[.int .i64 1, .int .i64 50, .int .i64 100, .int .i64 0, .int .i64 101] 3)).trans (Gr.only ho)))
  have G5 := Lib.hid (G3.out.trans (Q5.out.toBelow (Nat.le_refl _) hz3))
  have T5 := Lib.hid (T3.out.gr AT.out Q5.out)
  have K5 := Lib.hid (K3.out.gr AT2.out Q5.out)
  have P5 := Lib.hid (HP3.out _ Q5.out)
  have hz5 := G5.out.size
  have hwho := HWHO.out
  clear ho hs hle Q4 S4 T3 K3 HP3 G3 Q5 AT AT2 HWHO hB3 hB4 hz3 hz4
  have XW : Hid (∀ W, Below w5.heap.size w5 W → TL W A l ∧ KL W A2 s ∧ PL W A3 xs ∧ Tabs W ∧ gTop ≤ W.heap.size) := Lib.hid fun W hW => ⟨T5.out.below hW, K5.out.below hW, pl_below P5.out hW, TW.out W (G5.out.trans (hW.mono hz5))⟩
  obtain ⟨r0, hr0⟩ : ∃ r, forestE l = r := ⟨_, rfl⟩
  obtain ⟨rs, hrs⟩ : ∃ r, withE l s = r := ⟨_, rfl⟩
  obtain ⟨rl, hrl⟩ : ∃ r, (if forestE l ≠ 0 then forestE l else learnE l xs who) = r := ⟨_, rfl⟩
  obtain ⟨rz, hrz⟩ : ∃ r, spE l s least = r := ⟨_, rfl⟩
  have R0 := Lib.hid hr0
  have RS := Lib.hid hrs
  have RL := Lib.hid hrl
  have RZ := Lib.hid hrz
  have HLK := Lib.hid (show (learnK l xs who).length ≤ 1000 by have := learnK_len l xs who; have := HL.out; omega)
  have hwe := hrs
  unfold withE at hwe
  rw [hr0] at hwe hrl
  have hze := hrz
  unfold spE at hze
  rw [hrs] at hze
  have C1 : Hid (∀ W, Below w5.heap.size w5 W → Calls Tryz.prog 9 #[.slice A n c] W fun e w' => e = .returned (.int .i64 r0) ∧ Below W.heap.size W w') := Lib.hid fun W hW => faultE_walk A n c l W HL.out (by omega) hnc (XW.out W hW).1 r0 R0
  have C2 : Hid (∀ W, Below w5.heap.size w5 W → Calls Tryz.prog 11 #[.slice A n c, .slice A2 n2 c2] W fun e w' => e = .returned (.int .i64 rs) ∧ Below W.heap.size W w') := Lib.hid fun W hW => checkskillsf_walk A n c l A2 n2 c2 s W HL.out (by omega) (XW.out W hW).1 (XW.out W hW).2.1 HL2.out (by omega) rs RS
  have C3 : Hid (∀ W, Below w5.heap.size w5 W → Calls Tryz.prog 12 #[.slice A n c, .slice A3 n3 c3, .string who] W (SkRet rl (learnK l xs who) W)) := Lib.hid fun W hW => learn_walk A n c l A3 n3 c3 xs who W HL.out (by omega) (XW.out W hW).1 (XW.out W hW).2.2.1 HL3.out (by omega) hwho (XW.out W hW).2.2.2.2 (XW.out W hW).2.2.2.1 rl RL
  have C4 : Hid (∀ W, Below w5.heap.size w5 W → Calls Tryz.prog 15 #[.slice A n c, .slice A2 n2 c2, .int .i64 least] W (SkRet rz (spreadP l s least n) W)) := Lib.hid fun W hW => spread_walk A n c l A2 n2 c2 s least W HL.out (by omega) (XW.out W hW).1 (XW.out W hW).2.1 HL2.out (by omega) hle0 hle1 rz RZ
  have CT : Hid (∀ W : World, Calls Tryz.prog 16 #[] W fun e w' => e = .returned (.bool true) ∧ Below W.heap.size W w') := Lib.hid fun W => Frac.topics_any Frac.add_ok W
  have DONE : Hid (∀ W, Below w5.heap.size w5 W → Below w.heap.size w W) := Lib.hid fun W hW => G5.out.trans (hW.mono hz5)
  have e1 : (r0 != r0) = false := by simp
  have e2 : (rs != rs) = false := by simp
  have e3 : (rl != rl) = false := by simp
  have e4 : (rz == rz) = true := by simp
  have HWE := Lib.hid hwe
  have HZE := Lib.hid hze
  have HRL := Lib.hid hrl
  clear hr0 hrs hrl hrz hwe hze
  go_wp2_with fail
  refine (C1.out _ (Below.refl _ _)).mono ?_; rintro e w6 ⟨rfl, hB6⟩
  have B6 := Lib.hid hB6
  clear hB6 C1
  by_cases h0 : r0 = 0
  · subst h0
    have hse : skE l ⟨#[]⟩ s = rs := by have := HWE.out; simpa using this
    have hle : learnE l xs who = rl := by have := HRL.out; simpa using this
    have C5 : Hid (∀ W, Below w5.heap.size w5 W → Calls Tryz.prog 10 #[.slice A n c, .slice A2 n2 c2] W fun e w' => e = .returned (.int .i64 rs) ∧ Below W.heap.size W w') := Lib.hid fun W hW => skillsfault_walk A n c l A2 n2 c2 s W HL.out (by omega) R0.out (XW.out W hW).1 (XW.out W hW).2.1 HL2.out (by omega) rs (Lib.hid hse)
    have C6 : Hid (∀ W, Below w5.heap.size w5 W → Calls Tryz.prog 13 #[.slice A n c, .slice A3 n3 c3, .string who] W (SkRet rl (learnK l xs who) W)) := Lib.hid fun W hW => learnof_walk A n c l A3 n3 c3 xs who W HL.out (by omega) (XW.out W hW).1 R0.out (XW.out W hW).2.2.1 HL3.out hnc3 (by omega) hwho (XW.out W hW).2.2.2.2 (XW.out W hW).2.2.2.1 rl (Lib.hid hle)
    have HSE := Lib.hid hse
    clear hse hle
    go_wp2_with fail
    refine (C5.out _ B6.out).mono ?_; rintro e w7 ⟨rfl, hB⟩
    have B7 := Lib.hid (B6.out.trans (hB.mono B6.out.size))
    clear hB C5 B6
    go_wp2_with fail
    refine (C2.out _ B7.out).mono ?_; rintro e w8 ⟨rfl, hB⟩
    have B8 := Lib.hid (B7.out.trans (hB.mono B7.out.size))
    clear hB C2 B7
    go_wp2_with fail
    refine (C3.out _ B8.out).mono ?_; rintro e w9 ⟨X1, m1, d1, rfl, q1, q1', hB⟩
    have B9 := Lib.hid (B8.out.trans (hB.mono B8.out.size))
    have Q1 := Lib.hid (show (rl ≠ 0 → m1 = 0) ∧ (rl = 0 → m1 = (learnK l xs who).length ∧ KM w9 X1 (learnK l xs who)) from ⟨q1, q1'⟩)
    clear hB C3 B8 q1 q1'
    go_wp2_with fail
    refine (C6.out _ B9.out).mono ?_; rintro e w10 ⟨X2, m2, d2, rfl, q2, q2', hB⟩
    have B10 := Lib.hid (B9.out.trans (hB.mono B9.out.size))
    have E1 := Lib.hid (equalk_ret (r := rl) X1 X2 m1 m2 d1 d2 w10 HLK.out ⟨Q1.out.1, fun h => ⟨(Q1.out.2 h).1, (Q1.out.2 h).2.below hB⟩⟩ ⟨q2, q2'⟩)
    clear hB C6 B9 q2 q2' Q1
    go_wp2_with fail
    refine (E1.out).mono ?_; rintro e w11 ⟨rfl, hB⟩
    have B11 := Lib.hid (B10.out.trans (hB.mono B10.out.size))
    clear hB E1 B10
    go_wp2_with fail
    refine (C4.out _ B11.out).mono ?_; rintro e w12 ⟨X3, m3, d3, rfl, q3, q3', hB⟩
    have B12 := Lib.hid (B11.out.trans (hB.mono B11.out.size))
    have Q3 := Lib.hid (show (rz ≠ 0 → m3 = 0) ∧ (rz = 0 → m3 = (spreadP l s least n).length ∧ KM w12 X3 (spreadP l s least n)) from ⟨q3, q3'⟩)
    clear hB C4 B11 q3 q3'
    by_cases hs0 : rs = 0
    · subst hs0
      by_cases hl1 : least < 1
      · have hz1 : (1 : Int) = rz := by have := HZE.out; rw [pct_no (Or.inl hl1)] at this; simpa using this
        subst hz1
        have d1 : decide (least < 1) = true := by simpa using hl1
        go_wp2_with fail
        refine (CT.out _).mono ?_; rintro e wa ⟨rfl, hB⟩
        have BA := Lib.hid (B12.out.trans (hB.mono B12.out.size))
        clear hB
        go_wp2_with fail
        go_ret
        exact ⟨rfl, DONE.out _ BA.out⟩
      · have d1 : decide (least < 1) = false := by simpa using hl1
        by_cases hl2 : least > 100
        · have hz1 : (1 : Int) = rz := by have := HZE.out; rw [pct_no (Or.inr hl2)] at this; simpa using this
          subst hz1
          have d2 : decide (least > 100) = true := by simpa using hl2
          go_wp2_with fail
          refine (CT.out _).mono ?_; rintro e wa ⟨rfl, hB⟩
          have BA := Lib.hid (B12.out.trans (hB.mono B12.out.size))
          clear hB
          go_wp2_with fail
          go_ret
          exact ⟨rfl, DONE.out _ BA.out⟩
        · have hz1 : (0 : Int) = rz := by have := HZE.out; rw [pct_yes (by omega) (by omega)] at this; simpa using this
          subst hz1
          have d2 : decide (least > 100) = false := by simpa using hl2
          have C7 : Hid (∀ W, Below w5.heap.size w5 W → Calls Tryz.prog 17 #[.slice A n c, .slice A2 n2 c2, .int .i64 least] W (SkLRet (spreadP l s least n) W)) := Lib.hid fun W hW => spreadof_walk A n c l A2 n2 c2 s least W HL.out (by omega) (XW.out W hW).1 (rightF R0.out) (XW.out W hW).2.1 HL2.out (by omega) (skE_ok s _ HSE.out) hle0 hle1
          obtain ⟨hm3, hk3⟩ := Q3.out.2 rfl
          subst hm3
          have KM3 := Lib.hid hk3
          clear hk3 Q3
          go_wp2_with fail
          refine (CT.out _).mono ?_; rintro e wa ⟨rfl, hB⟩
          have BA := Lib.hid (B12.out.trans (hB.mono B12.out.size))
          have KA := Lib.hid (KM3.out.below hB)
          clear hB KM3
          go_wp2_with fail
          refine (C7.out _ BA.out).mono ?_; rintro e wb ⟨X4, d4, rfl, hk4, hB⟩
          have BB := Lib.hid (BA.out.trans (hB.mono BA.out.size))
          have E2 := Lib.hid (equalk_any X3 X4 d3 d4 (spreadP l s least n) wb _ rfl (by have := spread_len l s least n; omega) (KA.out.below hB) hk4)
          clear hB KA hk4
          go_wp2_with fail
          refine (E2.out).mono ?_; rintro e wc ⟨rfl, hB⟩
          have BC := Lib.hid (BB.out.trans (hB.mono BB.out.size))
          clear hB E2
          go_wp2_with fail
          go_ret
          exact ⟨rfl, DONE.out _ BC.out⟩
    · have hz1 : rs = rz := by have := HZE.out; rwa [if_pos hs0] at this
      subst hz1
      have d0 : (rs == 0) = false := by simpa using hs0
      have d0' : (rs != 0) = true := by simpa using hs0
      clear hs0
      go_wp2_with fail
      refine (CT.out _).mono ?_; rintro e wa ⟨rfl, hB⟩
      have BA := Lib.hid (B12.out.trans (hB.mono B12.out.size))
      clear hB
      go_wp2_with fail
      go_ret
      exact ⟨rfl, DONE.out _ BA.out⟩
  · have hrs : r0 = rs := by have := HWE.out; rwa [if_pos h0] at this
    subst hrs
    have hrl : r0 = rl := by have := HRL.out; rwa [if_pos h0] at this
    subst hrl
    have hz1 : r0 = rz := by have := HZE.out; rwa [if_pos h0] at this
    subst hz1
    have d0 : (r0 == 0) = false := by simpa using h0
    have d0' : (r0 != 0) = true := by simpa using h0
    clear h0
    go_wp2_with fail
    refine (C2.out _ B6.out).mono ?_; rintro e w8 ⟨rfl, hB⟩
    have B8 := Lib.hid (B6.out.trans (hB.mono B6.out.size))
    clear hB C2 B6
    go_wp2_with fail
    refine (C3.out _ B8.out).mono ?_; rintro e w9 ⟨X1, m1, d1, rfl, q1, q1', hB⟩
    have B9 := Lib.hid (B8.out.trans (hB.mono B8.out.size))
    clear hB C3 B8 q1 q1'
    go_wp2_with fail
    refine (C4.out _ B9.out).mono ?_; rintro e w12 ⟨X3, m3, d3, rfl, q3, q3', hB⟩
    have B12 := Lib.hid (B9.out.trans (hB.mono B9.out.size))
    clear hB C4 B9 q3 q3'
    go_wp2_with fail
    refine (CT.out _).mono ?_; rintro e wa ⟨rfl, hB⟩
    have BA := Lib.hid (B12.out.trans (hB.mono B12.out.size))
    clear hB
    go_wp2_with fail
    go_ret
    exact ⟨rfl, DONE.out _ BA.out⟩
end Go.Proofs.YtjlbohbkhfhkpaaGreatDoor.For
