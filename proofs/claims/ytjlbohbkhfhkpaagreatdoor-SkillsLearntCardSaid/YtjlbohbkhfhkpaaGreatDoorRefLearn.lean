/-
  THE REFERENCE OF WHAT SOMEBODY LEARNS: LearnOf.
-/
import Derived.Test.YtjlbohbkhfhkpaaGreatDoorLearn1
import Derived.Test.YtjlbohbkhfhkpaaGreatDoorGPapers
namespace Go.Proofs.YtjlbohbkhfhkpaaGreatDoor.For
open Go.ChangeShapes Go.WideShapes Go.ChangeAt Go.RowKit Stm Key
set_option linter.unusedVariables false
attribute [local go_sem ↓] Go.wp_at_zero Go.wp_at_succ

set_option maxRecDepth 100000 in
set_option maxHeartbeats 16000000 in
theorem learnof_walk (A : Option Addr) (n cap : Nat) (l : List Tp) (A3 : Option Addr) (n3 c3 : Nat) (xs : List Pap) (who : ByteArray) (w : World) (hn : l.length = n) (hn2 : n ≤ 900) (hS : TL w A l) (h0 : forestE l = 0) (hP : PL w A3 xs) (hx : xs.length = n3) (hnc : n3 ≤ c3) (h5 : n3 ≤ 5) (hw : who.size ≤ 1000) (hg : gTop ≤ w.heap.size) (hT : Tabs w)
    (r : Int) (hr : Hid (learnE l xs who = r)) :
    Calls Tryz.prog 13 #[.slice A n cap, .slice A3 n3 c3, .string who] w (SkRet r (learnK l xs who) w) := by
  have HTL := Lib.hid hS
  have HPL := Lib.hid hP
  have HX := Lib.hid hx
  have HN := Lib.hid hn
  have HRF := Lib.hid (rightF h0)
  have hr2 := hr.out
  obtain ⟨r2, hr3⟩ : ∃ r2, papersF xs = r2 := ⟨_, rfl⟩
  have HPF : Hid ((if 400 < n3 then 2 else papersE ⟨#[]⟩ xs) = r2) := Lib.hid (by rw [← hr3]; unfold papersF; rw [HX.out])
  unfold learnE at hr2
  rw [hr3] at hr2
  have HPW := Lib.hid (papersR_walk A3 n3 c3 xs w hx (by omega) hnc hP hg hT r2 HPF)
  clear hr3 hS hP hx hn hr hg hT h0
  go_enter Tryz.func13, Tryz.ntmps13
  go_wp2_with fail
  refine (HPW.out).mono ?_; rintro e w2 ⟨rfl, hb2⟩
  have B1 := Lib.hid hb2
  clear hb2 HPW
  by_cases h2 : r2 ≠ 0
  · rw [if_pos h2] at hr2
    subst hr2
    have hbb : (r2 != 0) = true := by rw [bne_iff_ne]; exact h2
    have H2 := Lib.hid h2
    clear h2
    go_wp2_with fail
    go_ret2
    exact ⟨none, 0, 0, rfl, fun _ => rfl, fun h => absurd h H2.out, B1.out⟩
  obtain rfl : r2 = 0 := by simpa using h2
  rw [if_neg h2] at hr2
  clear h2
  obtain ⟨kb, hkb⟩ : ∃ b, keyL who.data.toList = b := ⟨_, rfl⟩
  have HKW := Lib.hid (fun W => keyOf_walk who W (by omega) kb (Lib.hid hkb))
  rw [hkb] at hr2
  clear hkb
  go_wp2_with fail
  refine (HKW.out _).mono ?_; rintro e w2b ⟨rfl, hb2⟩
  have B2 := Lib.hid (B1.out.trans (hb2.mono B1.out.size))
  clear hb2
  cases kb
  · have hr4 : (5 : Int) = r := by simpa using hr2
    subst hr4
    clear hr2
    go_wp2_with fail
    go_ret2
    exact ⟨none, 0, 0, rfl, fun _ => rfl, fun h => absurd h (by decide), B2.out⟩
  have hr4 : endE (learnT l who xs []) = r := by simpa using hr2
  have HR4 := Lib.hid hr4
  clear hr2 hr4
  have hmm : ∀ W : World, (Instr.makeMap 68 none).run Tryz.prog W = .ok (.map (some W.heap.size)) (W.alloc (.map #[] 0)) := fun W => by
    simp [Instr.makeMap, Result.andThen]
  go_wp2_with fail
  clear hmm
  have C0 := Lib.hid (show CM (w2b.alloc (.map #[] 0)) w2b.heap.size [] from World.ownsMap_made _ _ _ _)
  have B0 := Lib.hid (show Below w2b.heap.size w2b (w2b.alloc (.map #[] 0)) from (Below.refl _ _).alloc (Nat.le_refl _) _)
  go_loopw [10, 30] (fun mo i wr => ∃ (k m : Nat) (R : List ByteArray), k ≤ n3 ∧ i = .int .i64 k ∧ mo = .int .i64 m ∧ m ≤ k * 1000 ∧ R.length ≤ k * 1000 ∧ Hid (mostR R = m) ∧ Hid (learnT l who (xs.drop k) R = learnT l who xs []) ∧ Hid (CM wr w2b.heap.size R) ∧ Hid (Below w2b.heap.size w2b wr)) (fun _ i _ => n3 - (intOf i).toNat)
  case atStart => exact ⟨0, 0, [], Nat.zero_le _, rfl, rfl, Nat.le_refl _, Nat.le_refl _, Lib.hid rfl, Lib.hid rfl, C0, B0⟩
  case round =>
    obtain ⟨k, m, R, hk, rfl, rfl, hm, hR, HMO, HLT, HCM, HB⟩ := hrel
    rename World => wo
    clear C0 B0
    have hz := HB.out.size
    by_cases hlt : k < n3
    · have hkl : k < xs.length := by rw [HX.out]; exact hlt
      have HPLo := Lib.hid (pl_below HPL.out (B2.out.trans (HB.out.mono B2.out.size)))
      obtain ⟨g3, hA3, hgl, hc⟩ := HPLo.out.2 (by omega)
      subst hA3
      obtain ⟨c0, c1, c2, c3', c4⟩ := hc k hkl
      have hpk := HPLo.out.1 _ (List.getElem_mem hkl)
      have SX := Lib.hid ((pl_below HPL.out B2.out).1 _ (List.getElem_mem hkl)).2.2.2.2.2.2.2.2
      have HST := Lib.hid (learnT_step (l := l) (who := who) hkl R)
      rw [HLT.out] at HST
      generalize xs[k] = x at *
      obtain ⟨xp, xt, xti, xA, xB, xca, xcb, xau, xtp⟩ := x
      simp only at c0 c1 c2 c3' c4 HST SX
      unfold PapOk at hpk
      simp only at hpk
      obtain ⟨tn, htn⟩ : ∃ tn, xtp.length = tn := ⟨_, rfl⟩
      have htn2 : tn ≤ 1000 := by rw [← htn]; exact hpk.2.2.2.2.1
      rw [htn] at c4
      have HTN := Lib.hid htn
      have hb1 : Below wo.heap.size wo (wo.alloc (.cells #[.string xp, .string xt, .string xti, .slice xA xau.length xca, .slice xB tn xcb] 56)) := (Below.refl _ _).alloc (Nat.le_refl _) _
      have K1 := Lib.hid (Blk.new wo 56 #[.string xp, .string xt, .string xti, .slice xA xau.length xca, .slice xB tn xcb])
      have C1 := Lib.hid (HCM.out.below hb1)
      have B3 := Lib.hid (HB.out.trans (hb1.mono hz))
      have SA := Lib.hid (hpk.2.2.2.2.2.2.2.1.below hb1)
      have SB := Lib.hid (hpk.2.2.2.2.2.2.2.2.below hb1)
      obtain ⟨hh, hhh⟩ : ∃ b, has xau who = b := ⟨_, rfl⟩
      have HCW := Lib.hid (hasS_walk xA xca xau who _ SA.out hpk.2.2.2.1)
      rw [hhh] at HCW HST
      have a0 : (0 : Int) ≤ (k : Int) := by omega
      have a1 : (k : Int) < (n3 : Int) := by omega
      clear hc hpk htn hb1 hhh HLT HCM
      go_wp2_with fail
      refine (HCW.out).mono ?_; rintro e w4 ⟨rfl, rfl⟩
      clear HCW c0 c1 c2 c3'
      cases hh
      · go_wp2_with fail
        go_roundw
        case rel => exact ⟨k + 1, m, R, by omega, by go_num, rfl, by omega, by omega, HMO, Lib.hid (by have h := HST.out; first | exact (h.trans (if_pos rfl)).symm | exact (h.trans (if_pos trivial)).symm | (simp at h; exact h.symm)), C1, B3⟩
        case measure => simp [intOf]; omega
      · have HST2 : Hid (learnT l who xs [] = if misTop l xtp = true then none else learnT l who (xs.drop (k + 1)) (xtp.reverse ++ R)) := Lib.hid (by rw [HST.out, if_neg (by simp)])
        have d4 : (wo.alloc (.cells #[.string xp, .string xt, .string xti, .slice xA xau.length xca, .slice xB tn xcb] 56)).cell? ⟨wo.heap.size, 4, none⟩ = some (.slice xB tn xcb) := K1.out.cell 4 _ rfl
        have B4 := B3
        have C4 := C1
        clear HST SA SB
        go_wp2_with fail
        go_loopw [10, 42] (fun mo i2 wr => ∃ (j m' : Nat) (R' : List ByteArray), j ≤ tn ∧ i2 = .int .i64 j ∧ mo = .int .i64 m' ∧ m' ≤ k * 1000 + j ∧ R'.length ≤ k * 1000 + j ∧ Hid (mostR R' = m') ∧ Hid (R' = (xtp.take j).reverse ++ R) ∧ Hid (misTop l (xtp.take j) = false) ∧ Hid (CM wr w2b.heap.size R') ∧ Hid (Below w2b.heap.size w2b wr)) (fun _ i2 _ => tn - (intOf i2).toNat)
        case atStart => exact ⟨0, m, R, Nat.zero_le _, rfl, rfl, by omega, by omega, HMO, Lib.hid rfl, Lib.hid rfl, C4, B4⟩
        case round =>
          obtain ⟨j, m', R', hj, rfl, rfl, hm', hR', HMO', HRE, HMT, HCM', HBI⟩ := hrel
          rename World => wi
          have hzi := HBI.out.size
          by_cases hjn : j < tn
          · have hjl : j < xtp.length := by rw [HTN.out]; exact hjn
            obtain ⟨gt, hBt, hgtl, hct⟩ := (SX.out.below HBI.out).2 (by omega)
            have ct := hct j hjl
            have hy := SX.out.1 _ (List.getElem_mem hjl)
            have HNXT := Lib.hid (misTop_next (l := l) hjl)
            have HHIT := Lib.hid (misTop_hit (l := l) hjl)
            have HRT := Lib.hid (rev_take hjl R)
            generalize xtp[j] = y at *
            obtain ⟨ht, hht⟩ : ∃ b, (lk l y).isSome = b := ⟨_, rfl⟩
            have HHW := Lib.hid (hastopic_walk A n cap l y _ HN.out (by omega) (HTL.out.below (B2.out.trans (HBI.out.mono B2.out.size))) ht (Lib.hid (by rw [topsome HRF.out]; exact hht)))
            have hnone : (lk l y).isNone = !ht := by rw [← hht]; cases lk l y <;> rfl
            rw [hnone] at HNXT HHIT
            have HKEY := Lib.hid (show keyOf Tryz.prog 9 (.string y) = some (.string y.data.toList) from Go.WideMaps.keyOf_string_mk Tryz.underlying9 (by unfold maxLen; omega))
            obtain ⟨q, hq⟩ : ∃ q, cntR R' y = q := ⟨_, rfl⟩
            have hqb : q ≤ R'.length := by rw [← hq]; exact cntR_le _ _
            have HQ := Lib.hid hq
            have HQ2 := Lib.hid (cnt_put y R' q hq)
            have HPUT := Lib.hid (mR_put y R' q hq)
            obtain ⟨m2, hm2⟩ : ∃ m2, max m' (q + 1) = m2 := ⟨_, rfl⟩
            have hmx : max (m' : Int) ((q : Int) + 1) = (m2 : Int) := by omega
            have HMO2 : Hid (mostR (y :: R') = m2) := Lib.hid (by rw [most_put y R' q m' hq HMO'.out, hm2])
            have HRE2 : Hid (y :: R' = (xtp.take (j + 1)).reverse ++ R) := Lib.hid (by rw [HRT.out, ← HRE.out])
            have hm2b : m2 ≤ k * 1000 + (j + 1) := by omega
            have b0 : (0 : Int) ≤ (j : Int) := by omega
            have b1 : (j : Int) < (tn : Int) := by omega
            subst hBt
            clear hct hq hm2 HRT hht hnone
            go_wp2_with fail
            refine (HHW.out).mono ?_; rintro e w6 ⟨rfl, hb6⟩
            have B6 := Lib.hid (HBI.out.trans (hb6.mono hzi))
            have z6 := B6.out.size
            have HO := Lib.hid (show w6.ownsMap Tryz.prog 9 (plainElem Tryz.prog 3) w2b.heap.size R'.length (mR R') from HCM'.out.below hb6)
            clear hb6 HHW
            cases ht
            · have HE : Hid (r = 8) := Lib.hid (by rw [← HR4.out, HST2.out, HHIT.out rfl]; rfl)
              go_wp2_with fail
              go_ret2
              exact ⟨none, 0, 0, by rw [HE.out]; try rfl, fun _ => rfl, fun h => absurd h (by rw [HE.out]; decide), B2.out.trans (B6.out.mono B2.out.size)⟩
            · have HMT2 : Hid (misTop l (xtp.take (j + 1)) = false) := Lib.hid (by rw [HNXT.out, HMT.out]; rfl)
              go_wp2_with (first | (at_lookup; refine wpList_lookup_own_int _ rfl _ _ 68 rfl 9 3 .i64 keyLaw Tryz.underlying68 Tryz.underlying3 (zeroI _) w2b.heap.size R'.length (mR R') rfl HO.out (.string y) _ rfl HKEY.out ?_; intro c hat hwc; obtain rfl := mR_c hat HQ.out; clear hat hwc) | (at_mapUpdate; refine wpList_mapUpdate_own _ rfl _ _ _ 68 rfl 9 3 keyLaw Tryz.underlying68 _ w2b.heap.size R'.length _ rfl HO.out (by unfold maxLen; omega) _ _ _ rfl rfl HKEY.out _ [] (plainElem_int Tryz.underlying3 (WalkArith.wf_i64 (by omega))) ?_; intro w5 hown5 hgrow5; (have O5 := Lib.hid (show w5.ownsMap Tryz.prog 9 (plainElem Tryz.prog 3) w2b.heap.size (R'.length + 1) (mR (y :: R')) from HPUT.out ▸ hown5)); (have B5 := Lib.hid (B6.out.grown hgrow5 z6 (fun j hj => by cases hj; exact Nat.le_refl _))); clear hown5 hgrow5) | (at_lookup; refine wpList_lookup_own_int _ rfl _ _ 68 rfl 9 3 .i64 keyLaw Tryz.underlying68 Tryz.underlying3 (zeroI _) w2b.heap.size (R'.length + 1) (mR (y :: R')) rfl O5.out (.string y) _ rfl HKEY.out ?_; intro c hat hwc; obtain rfl := mR_c hat HQ2.out; clear hat hwc))
              go_roundw
              case rel => exact ⟨j + 1, m2, y :: R', by omega, by go_num, rfl, hm2b, by simp; omega, HMO2, HRE2, HMT2, Lib.hid O5.out, B5⟩
              case measure => simp [intOf]; omega
          · have hjt : j = tn := by omega
            subst hjt
            have hmt := HMT.out
            rw [List.take_of_length_le (by rw [HTN.out]; exact Nat.le_refl _)] at hmt
            have HLT3 : Hid (learnT l who (xs.drop (k + 1)) R' = learnT l who xs []) := Lib.hid (by rw [HST2.out, hmt, if_neg (by simp), HRE.out, List.take_of_length_le (by rw [HTN.out]; exact Nat.le_refl _)])
            clear hmt
            go_wp2_with fail
            go_roundw
            case rel => exact ⟨k + 1, m', R', by omega, by go_num, rfl, by omega, by omega, HMO', HLT3, HCM', HBI⟩
            case measure => simp [intOf]; omega
    · have hkn : k = n3 := by omega
      subst hkn
      have HLE : Hid (learnT l who xs [] = some R) := Lib.hid (by rw [← HLT.out, List.drop_eq_nil_of_le (by rw [HX.out]; exact Nat.le_refl _)]; rfl)
      have HR0 : Hid (r = 0) := Lib.hid (by rw [← HR4.out, HLE.out]; rfl)
      have HKS : Hid (learnK l xs who = skillsR l R) := Lib.hid (by unfold learnK; rw [HLE.out])
      have hm5 : m ≤ 5000 := by omega
      have hR5 : R.length ≤ 5000 := by omega
      have T5 := Lib.hid (HTL.out.below (B2.out.trans (HB.out.mono B2.out.size)))
      obtain ⟨i0, hi0, hz0, hz1', hz2⟩ := info_parts infoK
      have HI := Lib.hid hi0
      have Z0 := Lib.hid hz0
      have Z1 := Lib.hid hz1'
      have Z2 := Lib.hid hz2
      clear hi0 hz0 hz1' hz2 HLT HLE HKW
      go_wp2_with fail
      go_loopw [15, 63] (fun out i wr => ∃ (k2 : Nat) (Ao : Option Addr) (m2 c : Nat), k2 ≤ n ∧ i = .int .i64 k2 ∧ out = .slice Ao m2 c ∧ m2 ≤ k2 ∧ Hid ((skillsR (l.take k2) R).length = m2) ∧ Hid (wr.ownsRow wo.heap.size 41 2 (.slice Ao m2 c) m2 (flatS (skillsR (l.take k2) R))) ∧ Hid (Below wo.heap.size wo wr)) (fun _ i _ => n - (intOf i).toNat)
      case atStart => exact ⟨0, none, 0, 0, Nat.zero_le _, rfl, rfl, Nat.le_refl _, Lib.hid rfl, Lib.hid (World.ownsRow_nil _ _ _ _), Lib.hid (Below.refl _ _)⟩
      case round =>
        obtain ⟨k2, Ao, m2, c, hk2, rfl, rfl, hmk, HM2, HO, HB3⟩ := hrel
        rename World => wi
        have hzi := HB3.out.size
        by_cases hlt2 : k2 < n
        · have hkl : k2 < l.length := by rw [HN.out]; exact hlt2
          obtain ⟨g3, hA3, hgl, hc⟩ := (T5.out.below HB3.out).2 (by omega)
          subst hA3
          obtain ⟨c0, c1⟩ := hc k2 hkl
          have hx := (T5.out.1 _ (List.getElem_mem hkl)).1
          have HNX := Lib.hid (skillsR_next (R := R) hkl)
          generalize l[k2] = x at *
          obtain ⟨xk, xa⟩ := x
          simp only at c0 c1 hx
          have HKEY := Lib.hid (show keyOf Tryz.prog 9 (.string xk) = some (.string xk.data.toList) from Go.WideMaps.keyOf_string_mk Tryz.underlying9 (by unfold maxLen; omega))
          obtain ⟨q, hq⟩ : ∃ q, cntR R xk = q := ⟨_, rfl⟩
          have hqb : q ≤ R.length := by rw [← hq]; exact cntR_le _ _
          have hqm : q ≤ m := by rw [← hq, ← HMO.out]; exact cnt_most _ _
          have HQ := Lib.hid hq
          have HSI : Hid (skillR R ⟨xk, xa⟩ = if 0 < q then [⟨xk, ((max 1 (100 * q / m) : Nat) : Int)⟩] else []) := Lib.hid (by unfold skillR; rw [hq, HMO.out])
          have hb1 : Below wi.heap.size wi (wi.alloc (.cells #[.string xk, .string xa] 49)) := (Below.refl _ _).alloc (Nat.le_refl _) _
          have C1 := Lib.hid ((HCM.out.below HB3.out).below hb1)
          have HO2 := Lib.hid (show (wi.alloc (.cells #[.string xk, .string xa] 49)).ownsMap Tryz.prog 9 (plainElem Tryz.prog 3) w2b.heap.size R.length (mR R) from C1.out)
          have B3 := Lib.hid (HB3.out.trans (hb1.mono hzi))
          have O1 := Lib.hid (own_below HO.out hb1)
          have a0 : (0 : Int) ≤ (k2 : Int) := by omega
          have a1 : (k2 : Int) < (n : Int) := by omega
          clear hc hq hb1 C1 HO
          by_cases h0 : 0 < q
          · obtain ⟨u, hu⟩ : ∃ u, 100 * q / m = u := ⟨_, rfl⟩
            obtain ⟨v, hv⟩ : ∃ v, max 1 u = v := ⟨_, rfl⟩
            have hub : u ≤ 500000 := by rw [← hu]; exact Nat.le_trans (Nat.div_le_self _ _) (by omega)
            have HSJ := Lib.hid (show skillR R ⟨xk, xa⟩ = [⟨xk, (v : Int)⟩] by rw [HSI.out, if_pos h0, hu, hv])
            have hmz : ((m : Int) == 0) = false := by rw [beq_eq_false_iff_ne]; omega
            have hqe : 100 * (q : Int) / (m : Int) = (u : Int) := by
              rw [← hu]
              show _ = ((100 * q / m : Nat) : Int)
              rw [Int.natCast_ediv, Int.natCast_mul]; rfl
            have hme : max (u : Int) 1 = (v : Int) := by omega
            have HW1 := Lib.hid (show IntKind.i64.wrap (100 * (q : Int)) = 100 * (q : Int) from IntWalk.i64_in _ (by omega))
            have HW2 := Lib.hid (show IntKind.i64.wrap ((100 * (q : Int)).tdiv (m : Int)) = (u : Int) by rw [IntWalk.i64_quo _ _ (by omega)]; exact hqe)
            have hmn : m ≠ 0 := by omega
            have hd : decide (q > 0) = true := by simpa using h0
            clear HSI hu hv
            go_wp2_with (first | (at_lookup; refine wpList_lookup_own_int _ rfl _ _ 68 rfl 9 3 .i64 keyLaw Tryz.underlying68 Tryz.underlying3 (zeroI _) w2b.heap.size R.length (mR R) rfl HO2.out (.string xk) _ rfl HKEY.out ?_; intro c hat hwc; obtain rfl := mR_c hat HQ.out; clear hat hwc))
            have hw1 := HW1.out
            have hw2 := HW2.out
            go_region_law ((first
              | (refine step_append_lies _ (by rfl) _ _ _ (by rfl) wo.heap.size 41 i0 _ 2 24 Tryz.underlying28 HI.out Z0.out Z1.out Z2.out rfl (by omega) (.slice Ao m2 c) m2 (flatS (skillsR (l.take k2) R)) (by rfl) ((own_below O1.out (Below.refl _ _).drew).alloc _)
                   ⟨wi.heap.size + 1, 0, none⟩ 1 1 [.string xk, .int .i64 v] (by rfl) (by rfl) (World.news_of_block (cs := #[.string xk, .int .i64 v]) (t := 41) (fr := (0, 0)) (new_at (by simp))) (by simp [Value.oneCell'])
                   (by omega) (by unfold maxLen; omega) (by omega) (by simp; omega) (wi.heap.size + 1 + 1) (by simp) ?_
                 intro gg cap' w7 hown hgrow hat hgl
                 have O7 := Lib.hid (show w7.ownsRow wo.heap.size 41 2 _ (m2 + 1) (flatS (skillsR (l.take (k2 + 1)) R)) by rw [HNX.out, HSJ.out, flatS_snoc]; exact hown)
                 have B7 := Lib.hid ((B3.out.drew.alloc (by simp; omega) (.cells #[.string xk, .int .i64 v] 41)).trans (grown_below hgrow (fun g e => by have := (O1.out.lt g e).1; omega) (by simp; omega)))
                 clear hown hgrow hat)))
            all_goals
              clear hw1 hw2
              go_wp2_with fail
              go_roundw
              case rel => exact ⟨k2 + 1, _, m2 + 1, _, by omega, by go_num, rfl, by omega, Lib.hid (by rw [HNX.out, HSJ.out, List.length_append, HM2.out]; rfl), O7, B7⟩
              case measure => simp [intOf]; omega
          · have hq0 : q = 0 := by omega
            subst hq0
            have HSJ := Lib.hid (show skillR R ⟨xk, xa⟩ = [] by rw [HSI.out, if_neg h0])
            clear HSI
            go_wp2_with (first | (at_lookup; refine wpList_lookup_own_int _ rfl _ _ 68 rfl 9 3 .i64 keyLaw Tryz.underlying68 Tryz.underlying3 (zeroI _) w2b.heap.size R.length (mR R) rfl HO2.out (.string xk) _ rfl HKEY.out ?_; intro c hat hwc; obtain rfl := mR_c hat HQ.out; clear hat hwc))
            go_roundw
            case rel => exact ⟨k2 + 1, Ao, m2, c, by omega, by go_num, rfl, by omega, Lib.hid (by rw [HNX.out, HSJ.out, List.append_nil, HM2.out]), Lib.hid (by rw [HNX.out, HSJ.out, List.append_nil]; exact O1.out), B3⟩
            case measure => simp [intOf]; omega
        · have hkn : k2 = n := by omega
          subst hkn
          have hfin := HO.out
          have hlen := HM2.out
          rw [List.take_of_length_le (by rw [HN.out]; exact Nat.le_refl _)] at hfin hlen
          have FIN := Lib.hid (row_km hfin hlen)
          have HLN := Lib.hid hlen
          clear hfin hlen
          go_wp2_with fail
          go_ret2
          exact ⟨Ao, m2, c, by rw [HR0.out]; try rfl, fun h => absurd HR0.out h, fun _ => ⟨by rw [HKS.out, HLN.out], by rw [HKS.out]; exact FIN.out⟩, B2.out.trans ((HB.out.trans (HB3.out.mono HB.out.size)).mono B2.out.size)⟩
end Go.Proofs.YtjlbohbkhfhkpaaGreatDoor.For
