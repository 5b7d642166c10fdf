/-
  MARKS: the reference's MarksFault.
-/
import Derived.Test.YthhiefpickpiaaaGreatDoorCalC
import Derived.Test.YthhiefpickpiaaaGreatDoorRefKeys
import Derived.IntWalk
namespace Go.Proofs.YthhiefpickpiaaaGreatDoor.Cal
open Go.ChangeShapes Go.WideShapes Go.ChangeAt Go.RowKit Stm Key
set_option linter.unusedVariables false

theorem refE_cons (R : List ByteArray) (prev : Option Mk) (x : Mk) (t : List Mk) : refE R prev (x :: t) = if stepR (x.p :: R) prev x ≠ 0 then stepR (x.p :: R) prev x else refE (x.p :: R) (some x) t := rfl
theorem CM.far {w w' : World} {M : Nat} {R : List ByteArray} (h : CM w M R) (hb : Below w.heap.size w w') : CM w' M R := h.below hb
/-- The mark before. -/
def prevM (l : List Mk) (k : Nat) : Option Mk := if k = 0 then none else l[k - 1]?
theorem prevM_next {l : List Mk} {k : Nat} (h : k < l.length) : prevM l (k + 1) = some l[k] := by
  unfold prevM; rw [if_neg (by omega)]; simp [List.getElem?_eq_getElem h]
set_option maxRecDepth 100000 in
set_option maxHeartbeats 8000000 in
theorem marksfault_walk (A : Option Addr) (n cap : Nat) (l : List Mk) (w : World) (hn : l.length = n) (hn2 : n ≤ 1000) (hM : ML w A l) (r : Int) (hr : Hid (refE [] none l = r)) :
    Calls Tryz.prog 8 #[.slice A n cap] w fun e w' => e = .returned (.int .i64 r) ∧ Below w.heap.size w w' := by
  have HN := Lib.hid hn
  have HM := Lib.hid hM
  clear hn hM
  go_enter Tryz.func8, Tryz.ntmps8
  have C0 := Lib.hid (show CM (w.alloc (.map #[] 0)) w.heap.size [] from World.ownsMap_made _ _ _ _)
  have hmm : ∀ W : World, (Instr.makeMap 46 none).run Tryz.prog W = .ok (.map (some W.heap.size)) (W.alloc (.map #[] 0)) := fun W => by
    simp [Instr.makeMap, Result.andThen]
  go_wp2_with fail
  clear hmm
  go_loopw [12] (fun i wr => ∃ (k : Nat) (R : List ByteArray), k ≤ n ∧ R.length = k ∧ w.heap.size < wr.heap.size ∧ i = .int .i64 k ∧ Hid (refE R (prevM l k) (l.drop k) = r) ∧ Hid (CM wr w.heap.size R) ∧ Hid (Below w.heap.size w wr)) (fun i _ => n - (intOf i).toNat)
  case atStart => exact ⟨0, [], Nat.zero_le _, rfl, by simp, rfl, hr, C0, Lib.hid ((Below.refl _ _).alloc (Nat.le_refl _) _)⟩
  case round =>
    clear C0
    obtain ⟨k, R, hk, hR, hzr, rfl, HST, HC, HL⟩ := hrel
    have HRL := Lib.hid hR
    have hRb : R.length ≤ 1000 := by omega
    clear hR
    by_cases hlt : k < n
    · have hkl : k < l.length := by rw [HN.out]; exact hlt
      obtain ⟨g, hA, hgW, hcl⟩ := HM.out.2 (by omega)
      subst hA
      have HCL := Lib.hid hcl
      obtain ⟨d0, d1, d2⟩ := hcl k hkl
      have c0 := (HL.out.cell (p := ⟨g, k * 3, none⟩) hgW).trans d0
      have c1 := (HL.out.cell (p := ⟨g, k * 3 + 1, none⟩) hgW).trans d1
      have c2 := (HL.out.cell (p := ⟨g, k * 3 + 2, none⟩) hgW).trans d2
      have hx := HM.out.1 _ (List.getElem_mem hkl)
      have HST2 : Hid (refE R (prevM l k) (l[k] :: l.drop (k + 1)) = r) := Lib.hid (by rw [← drop_step l k hkl]; exact HST.out)
      have HPN := Lib.hid (prevM_next hkl)
      clear hcl HST d0 d1 d2
      generalize l[k] = x at *
      have a0 : (0 : Int) ≤ (k : Int) := by omega
      have a1 : (k : Int) < (n : Int) := by omega
      obtain ⟨b1, hb1⟩ : ∃ b, keyL x.p.data.toList = b := ⟨_, rfl⟩
      obtain ⟨b2, hb2⟩ : ∃ b, keyL x.h.data.toList = b := ⟨_, rfl⟩
      obtain ⟨q, hq⟩ : ∃ q, cntR R x.p = q := ⟨_, rfl⟩
      have hqb : q ≤ R.length := by rw [← hq]; exact cntR_le _ _
      have HQ := Lib.hid hq
      have HQ2 := Lib.hid (cnt_put x.p R q hq)
      have HPUT := Lib.hid (mR_put x.p R q hq)
      have HSR : Hid (stepR (x.p :: R) (prevM l k) x = if (!b1 || !b2) = true then 5 else if 0 ≤ ordO (prevM l k) x then 7 else if badS x = true then 1 else if 12 < q + 1 then 2 else 0) := Lib.hid (by
        unfold stepR badK; rw [hb1, hb2, HQ2.out])
      have HST3 := Lib.hid (refE_cons R (prevM l k) x (l.drop (k + 1)) ▸ HST2.out)
      have HBS := Lib.hid (show badS x = (decide (x.s < 0) || decide (10 < x.s)) from rfl)
      have HOO := Lib.hid (show ∀ y, ordO (some y) x = ordP y.p y.h x.p x.h from fun _ => rfl)
      obtain ⟨hx0, hx1, hx2, hx3⟩ := hx
      have K1 := Lib.hid (fun W => hb1 ▸ keyOf_any x.p W (by omega))
      have K2 := Lib.hid (fun W => hb2 ▸ keyOf_any x.h W (by omega))
      have HKEY := Lib.hid (show keyOf Tryz.prog 9 (.string x.p) = some (.string x.p.data.toList) from Go.WideMaps.keyOf_string_mk Tryz.underlying9 (by unfold maxLen; omega))
      have hbA : Below wr.heap.size wr (wr.alloc (.cells #[.string x.p, .string x.h, .int .i64 x.s] 59)) := (Below.refl _ _).alloc (Nat.le_refl _) _
      have HO := Lib.hid (show (wr.alloc (.cells #[.string x.p, .string x.h, .int .i64 x.s] 59)).ownsMap Tryz.prog 9 (plainElem Tryz.prog 3) w.heap.size R.length (mR R) from HC.out.below hbA)
      have BA := Lib.hid (HL.out.trans (hbA.mono (Nat.le_of_lt hzr)))
      have XA := Lib.hid (Blk.new wr 59 #[.string x.p, .string x.h, .int .i64 x.s])
      clear hb1 hb2 hq HST2 HC hbA
      go_wp2_with (first | (at_lookup; refine wpList_lookup_own_int _ rfl _ _ 46 rfl 9 3 .i64 keyLaw Tryz.underlying46 Tryz.underlying3 (zeroI _) w.heap.size R.length (mR R) rfl HO.out (.string x.p) _ rfl HKEY.out ?_; intro c hat hwc; obtain rfl := mR_c hat HQ.out; clear hat hwc) | (at_mapUpdate; refine wpList_mapUpdate_own _ rfl _ _ _ 46 rfl 9 3 keyLaw Tryz.underlying46 _ w.heap.size R.length _ rfl HO.out (by unfold maxLen; omega) _ _ _ rfl rfl HKEY.out _ [] (plainElem_int Tryz.underlying3 (WalkArith.wf_i64 (by omega))) ?_; intro w5 hown5 hgrow5; (have O5 := Lib.hid (show w5.ownsMap Tryz.prog 9 (plainElem Tryz.prog 3) w.heap.size (R.length + 1) (mR (x.p :: R)) from HPUT.out ▸ hown5)); (have B5 := Lib.hid (BA.out.grown hgrow5 BA.out.size (fun j hj => by cases hj; exact Nat.le_refl _))); (have X5 := Lib.hid (show Blk w5 wr.heap.size 59 #[.string x.p, .string x.h, .int .i64 x.s] from (hgrow5.block wr.heap.size (by simp) (by intro e; injection e with e; omega)).trans XA.out)); (have m0 := X5.out.cell 0 _ rfl); (have m1 := X5.out.cell 1 _ rfl); (have m2 := X5.out.cell 2 _ rfl); clear hown5 hgrow5))
      refine (K1.out _).mono ?_; rintro e w6 ⟨rfl, hb6⟩
      clear m0 m1 m2
      have B6 := Lib.hid (B5.out.trans (hb6.mono B5.out.size))
      have X6 := Lib.hid (X5.out.below hb6 X5.out.lt)
      have O6 := Lib.hid (show CM w6 w.heap.size (x.p :: R) from CM.below O5.out hb6)
      clear hb6 B5 X5 O5
      have m0 := X6.out.cell 0 _ rfl
      have m1 := X6.out.cell 1 _ rfl
      have m2 := X6.out.cell 2 _ rfl
      have HST3 : Hid ((if (if (!b1 || !b2) = true then 5 else if 0 ≤ ordO (prevM l k) x then 7 else if badS x = true then 1 else if 12 < q + 1 then 2 else 0 : Int) ≠ 0 then (if (!b1 || !b2) = true then 5 else if 0 ≤ ordO (prevM l k) x then 7 else if badS x = true then 1 else if 12 < q + 1 then 2 else 0) else refE (x.p :: R) (some x) (l.drop (k + 1))) = r) := Lib.hid (by rw [← HSR.out]; exact HST3.out)
      clear HSR K1
      cases b1
      · have HE : Hid (5 = r) := Lib.hid (by have := HST3.out; simpa using this)
        go_wp2_with fail
        go_ret
        exact ⟨by rw [HE.out]; try rfl, B6.out⟩
      · go_wp2_with fail
        refine (K2.out _).mono ?_; rintro e w7 ⟨rfl, hb7⟩
        clear m0 m1 m2
        have B7 := Lib.hid (B6.out.trans (hb7.mono B6.out.size))
        have X7 := Lib.hid (X6.out.below hb7 X6.out.lt)
        have O7 := Lib.hid (show CM w7 w.heap.size (x.p :: R) from CM.below O6.out hb7)
        clear hb7 B6 X6 O6
        have m0 := X7.out.cell 0 _ rfl
        have m1 := X7.out.cell 1 _ rfl
        have m2 := X7.out.cell 2 _ rfl
        clear K2
        cases b2
        · have HE : Hid (5 = r) := Lib.hid (by have := HST3.out; simpa using this)
          go_wp2_with fail
          go_ret
          exact ⟨by rw [HE.out]; try rfl, B7.out⟩
        · have HST4 : Hid ((if (if 0 ≤ ordO (prevM l k) x then 7 else if badS x = true then 1 else if 12 < q + 1 then 2 else 0 : Int) ≠ 0 then (if 0 ≤ ordO (prevM l k) x then 7 else if badS x = true then 1 else if 12 < q + 1 then 2 else 0) else refE (x.p :: R) (some x) (l.drop (k + 1))) = r) := Lib.hid (by have := HST3.out; simpa using this)
          clear HST3
          obtain ⟨o, hoo⟩ : ∃ o, ordO (prevM l k) x = o := ⟨_, rfl⟩
          rw [hoo] at HST4
          by_cases hk0 : k = 0
          · have HOM : Hid (o = -1) := Lib.hid (by rw [← hoo]; unfold prevM; rw [if_pos hk0]; rfl)
            have HK0 := Lib.hid hk0
            have e0 : decide ((k : Int) > 0) = false := by simp; omega
            have e1 : ¬ 0 < k := by omega
            have e2 : decide (0 < k) = false := by simp; omega
            clear hoo hk0
            go_wp2_with fail
            go_quiet (fail)
            have B9 := Lib.hid (Stm.Below.drewN B7.out nq)
            have X9 := Lib.hid (show Blk (w7.drewN nq) wr.heap.size 59 #[.string x.p, .string x.h, .int .i64 x.s] from X7.out)
            have O9 := Lib.hid (show CM (w7.drewN nq) w.heap.size (x.p :: R) from CM.below O7.out (Stm.Below.drewN (Below.refl _ _) nq))
            clear m0 m1 m2 B7 X7 O7
            generalize w7.drewN nq = w9 at *
            have m0 := X9.out.cell 0 _ rfl
            have m1 := X9.out.cell 1 _ rfl
            have m2 := X9.out.cell 2 _ rfl
            have ho : ¬ 0 ≤ o := by rw [HOM.out]; decide
            have d1 : decide (o ≥ 0) = false := by simpa using ho
            have HST5 : Hid ((if (if badS x = true then 1 else if 12 < q + 1 then 2 else 0 : Int) ≠ 0 then (if badS x = true then 1 else if 12 < q + 1 then 2 else 0) else refE (x.p :: R) (some x) (l.drop (k + 1))) = r) := Lib.hid (by have := HST4.out; rw [if_neg ho] at this; exact this)
            clear HST4 ho
            by_cases hs0 : x.s < 0
            · have HE : Hid (1 = r) := Lib.hid (by have := HST5.out; rw [HBS.out] at this; simpa [hs0] using this)
              have d2 : decide (x.s < 0) = true := by simpa using hs0
              go_wp2_with fail
              go_ret
              exact ⟨by rw [HE.out]; try rfl, B9.out⟩
            · by_cases hs1 : 10 < x.s
              · have HE : Hid (1 = r) := Lib.hid (by have := HST5.out; rw [HBS.out] at this; simpa [hs1] using this)
                have d2 : decide (x.s < 0) = false := by simpa using hs0
                have d3 : decide (x.s > 10) = true := by simpa using hs1
                go_wp2_with fail
                go_ret
                exact ⟨by rw [HE.out]; try rfl, B9.out⟩
              · have HST6 : Hid ((if (if 12 < q + 1 then 2 else 0 : Int) ≠ 0 then (if 12 < q + 1 then 2 else 0) else refE (x.p :: R) (some x) (l.drop (k + 1))) = r) := Lib.hid (by
                  have := HST5.out; rw [HBS.out] at this; rw [show (decide (x.s < 0) || decide (10 < x.s)) = false by simp; omega] at this; simpa using this)
                have d2 : decide (x.s < 0) = false := by simpa using hs0
                have d3 : decide (x.s > 10) = false := by simp; omega
                clear HST5
                have HOZ := Lib.hid (show w9.ownsMap Tryz.prog 9 (plainElem Tryz.prog 3) w.heap.size (R.length + 1) (mR (x.p :: R)) from O9.out)
                by_cases h12 : 12 < q + 1
                · have HE : Hid (2 = r) := Lib.hid (by have := HST6.out; rw [if_pos h12] at this; simpa using this)
                  have d4 : decide ((q + 1 : Nat) > (12 : Int)) = true := by simp; omega
                  have d5 : decide ((q : Int) + 1 > 12) = true := by simp; omega
                  go_wp2_with (first | (at_lookup; refine wpList_lookup_own_int _ rfl _ _ 46 rfl 9 3 .i64 keyLaw Tryz.underlying46 Tryz.underlying3 (zeroI _) w.heap.size (R.length + 1) (mR (x.p :: R)) rfl HOZ.out (.string x.p) _ rfl HKEY.out ?_; intro c hat hwc; obtain rfl := mR_c hat HQ2.out; clear hat hwc))
                  go_ret
                  exact ⟨by rw [HE.out]; try rfl, B9.out⟩
                · have HE : Hid (refE (x.p :: R) (prevM l (k + 1)) (l.drop (k + 1)) = r) := Lib.hid (by have := HST6.out; rw [if_neg h12] at this; rw [HPN.out]; simpa using this)
                  have d4 : decide ((q + 1 : Nat) > (12 : Int)) = false := by simp; omega
                  have d5 : decide ((q : Int) + 1 > 12) = false := by simp; omega
                  have hfin : w.heap.size < w9.heap.size := Nat.lt_of_lt_of_le hzr (Nat.le_of_lt X9.out.lt)
                  go_wp2_with (first | (at_lookup; refine wpList_lookup_own_int _ rfl _ _ 46 rfl 9 3 .i64 keyLaw Tryz.underlying46 Tryz.underlying3 (zeroI _) w.heap.size (R.length + 1) (mR (x.p :: R)) rfl HOZ.out (.string x.p) _ rfl HKEY.out ?_; intro c hat hwc; obtain rfl := mR_c hat HQ2.out; clear hat hwc))
                  go_roundw
                  case rel => exact ⟨k + 1, x.p :: R, by omega, by rw [List.length_cons, HRL.out], hfin, by go_num, HE, O9, B9⟩
                  case measure => simp [intOf]; omega
          · obtain ⟨j, hj⟩ : ∃ j, k = j + 1 := ⟨k - 1, by omega⟩
            have hjl : j < l.length := by omega
            have HY := Lib.hid (show ordP l[j].p l[j].h x.p x.h = o by
              rw [← hoo]; unfold prevM; rw [if_neg hk0, hj, Nat.add_sub_cancel, List.getElem?_eq_getElem hjl]; rfl)
            have hBW := B7.out
            obtain ⟨p0, p1, _⟩ := HCL.out j hjl
            have y0 := (hBW.cell (p := ⟨g, j * 3, none⟩) hgW).trans p0
            have y1 := (hBW.cell (p := ⟨g, j * 3 + 1, none⟩) hgW).trans p1
            clear p0 p1 hBW hoo
            generalize l[j] = y at *
            have e0 : decide ((k : Int) > 0) = true := by simp; omega
            have e1 : 0 < k := by omega
            have e2 : decide (0 < k) = true := by simp; omega
            have ej : IntKind.i64.wrap ((k : Int) - 1) = (j : Int) := by
              rw [IntWalk.i64_in _ (by omega)]; omega
            have b0 : (0 : Int) ≤ (j : Int) := by omega
            have b1 : (j : Int) < (n : Int) := by omega
            have HJ := Lib.hid hj
            clear hj hk0
            go_wp2_with fail
            refine wp_region_still_tail 11 (by kernel_rfl) (by kernel_rfl) ?_
            change wpStill _ _ (World.drew _) (fun a' => wpList _ _ _ _ a' (World.drew _)) _ _
            have B8 := Lib.hid (Below.drew B7.out)
            have X8 := Lib.hid (show Blk (w7.drew) wr.heap.size 59 #[.string x.p, .string x.h, .int .i64 x.s] from X7.out)
            have O8 := Lib.hid (show CM (w7.drew) w.heap.size (x.p :: R) from CM.below O7.out (Below.drew (Below.refl _ _)))
            have z0 : w7.drew.cell? ⟨g, j * 3, none⟩ = some (.string y.p) := y0
            have z1 : w7.drew.cell? ⟨g, j * 3 + 1, none⟩ = some (.string y.h) := y1
            clear m0 m1 m2 B7 X7 O7 y0 y1 c0 c1 c2
            generalize w7.drew = w8 at *
            have m0 := X8.out.cell 0 _ rfl
            have m1 := X8.out.cell 1 _ rfl
            have m2 := X8.out.cell 2 _ rfl
            simp only [List.take_succ_cons, List.take_zero, List.drop_succ_cons, List.drop_zero]
            repeat still_step
            refine wpStill_nil ?_
            clear ej
            go_wp2_with fail
            refine (rcmp_any y.p y.h x.p x.h o HY _).mono ?_; rintro e w9 ⟨rfl, hb9⟩
            clear m0 m1 m2 z0 z1
            have B9 := Lib.hid (B8.out.trans (hb9.mono B8.out.size))
            have X9 := Lib.hid (X8.out.below hb9 X8.out.lt)
            have O9 := Lib.hid (show CM w9 w.heap.size (x.p :: R) from CM.below O8.out hb9)
            clear hb9 B8 X8 O8
            have m0 := X9.out.cell 0 _ rfl
            have m1 := X9.out.cell 1 _ rfl
            have m2 := X9.out.cell 2 _ rfl
            by_cases ho : 0 ≤ o
            · have HE : Hid (7 = r) := Lib.hid (by have := HST4.out; rw [if_pos ho] at this; simpa using this)
              have d1 : decide (o ≥ 0) = true := by simpa using ho
              go_wp2_with fail
              go_ret
              exact ⟨by rw [HE.out]; try rfl, B9.out⟩
            · have d1 : decide (o ≥ 0) = false := by simpa using ho
              have HST5 : Hid ((if (if badS x = true then 1 else if 12 < q + 1 then 2 else 0 : Int) ≠ 0 then (if badS x = true then 1 else if 12 < q + 1 then 2 else 0) else refE (x.p :: R) (some x) (l.drop (k + 1))) = r) := Lib.hid (by have := HST4.out; rw [if_neg ho] at this; exact this)
              clear HST4 ho
              by_cases hs0 : x.s < 0
              · have HE : Hid (1 = r) := Lib.hid (by have := HST5.out; rw [HBS.out] at this; simpa [hs0] using this)
                have d2 : decide (x.s < 0) = true := by simpa using hs0
                go_wp2_with fail
                go_ret
                exact ⟨by rw [HE.out]; try rfl, B9.out⟩
              · by_cases hs1 : 10 < x.s
                · have HE : Hid (1 = r) := Lib.hid (by have := HST5.out; rw [HBS.out] at this; simpa [hs1] using this)
                  have d2 : decide (x.s < 0) = false := by simpa using hs0
                  have d3 : decide (x.s > 10) = true := by simpa using hs1
                  go_wp2_with fail
                  go_ret
                  exact ⟨by rw [HE.out]; try rfl, B9.out⟩
                · have HST6 : Hid ((if (if 12 < q + 1 then 2 else 0 : Int) ≠ 0 then (if 12 < q + 1 then 2 else 0) else refE (x.p :: R) (some x) (l.drop (k + 1))) = r) := Lib.hid (by
                    have := HST5.out; rw [HBS.out] at this; rw [show (decide (x.s < 0) || decide (10 < x.s)) = false by simp; omega] at this; simpa using this)
                  have d2 : decide (x.s < 0) = false := by simpa using hs0
                  have d3 : decide (x.s > 10) = false := by simp; omega
                  clear HST5
                  have HOZ := Lib.hid (show w9.ownsMap Tryz.prog 9 (plainElem Tryz.prog 3) w.heap.size (R.length + 1) (mR (x.p :: R)) from O9.out)
                  by_cases h12 : 12 < q + 1
                  · have HE : Hid (2 = r) := Lib.hid (by have := HST6.out; rw [if_pos h12] at this; simpa using this)
                    have d4 : decide ((q + 1 : Nat) > (12 : Int)) = true := by simp; omega
                    have d5 : decide ((q : Int) + 1 > 12) = true := by simp; omega
                    go_wp2_with (first | (at_lookup; refine wpList_lookup_own_int _ rfl _ _ 46 rfl 9 3 .i64 keyLaw Tryz.underlying46 Tryz.underlying3 (zeroI _) w.heap.size (R.length + 1) (mR (x.p :: R)) rfl HOZ.out (.string x.p) _ rfl HKEY.out ?_; intro c hat hwc; obtain rfl := mR_c hat HQ2.out; clear hat hwc))
                    go_ret
                    exact ⟨by rw [HE.out]; try rfl, B9.out⟩
                  · have HE : Hid (refE (x.p :: R) (prevM l (k + 1)) (l.drop (k + 1)) = r) := Lib.hid (by have := HST6.out; rw [if_neg h12] at this; rw [HPN.out]; simpa using this)
                    have d4 : decide ((q + 1 : Nat) > (12 : Int)) = false := by simp; omega
                    have d5 : decide ((q : Int) + 1 > 12) = false := by simp; omega
                    have hfin : w.heap.size < w9.heap.size := Nat.lt_of_lt_of_le hzr (Nat.le_of_lt X9.out.lt)
                    go_wp2_with (first | (at_lookup; refine wpList_lookup_own_int _ rfl _ _ 46 rfl 9 3 .i64 keyLaw Tryz.underlying46 Tryz.underlying3 (zeroI _) w.heap.size (R.length + 1) (mR (x.p :: R)) rfl HOZ.out (.string x.p) _ rfl HKEY.out ?_; intro c hat hwc; obtain rfl := mR_c hat HQ2.out; clear hat hwc))
                    go_roundw
                    case rel => exact ⟨k + 1, x.p :: R, by omega, by rw [List.length_cons, HRL.out], hfin, by go_num, HE, O9, B9⟩
                    case measure => simp [intOf]; omega
    · have hkn : k = n := by omega
      subst hkn
      have HE : Hid (0 = r) := Lib.hid (by rw [← HST.out, List.drop_eq_nil_of_le (by rw [HN.out]; exact Nat.le_refl _)]; rfl)
      clear HST
      go_wp2_with fail
      go_ret
      exact ⟨by rw [HE.out]; try rfl, HL.out⟩
end Go.Proofs.YthhiefpickpiaaaGreatDoor.Cal
