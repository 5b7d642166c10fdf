/-
  MARKS: calibrate.Agreement.
-/
import Derived.Test.YthhiefpickpiaaaGreatDoorCalT
import Derived.Test.YthhiefpickpiaaaGreatDoorCalV
import Derived.StillTailTactics
import Derived.IntWalk
namespace Go.Proofs.YthhiefpickpiaaaGreatDoor.Cal
open Go.ChangeShapes Go.WideShapes Go.ChangeAt Go.RowKit Stm Key
set_option linter.unusedVariables false

theorem dif_bd {l : List Int} (h : ∀ x ∈ l, 0 ≤ x ∧ x ≤ 10) {n : Nat} (hn : l.length ≤ n) (hn2 : n ≤ 500) : 0 ≤ difI l ∧ difI l ≤ 50000000 := by
  refine ⟨dif_nonneg l, ?_⟩
  have h1 := sqI_bd l h
  have h2 : (l.length : Int) * sqI l ≤ 500 * 50000 := Int.mul_le_mul (by omega) (by omega) h1.1 (by omega)
  have h3 := sq_nonneg (sumI l)
  unfold difI
  omega
/-- What Agreement hands back. -/
def AgRet (r : Int) (v : Int × Int) (w : World) (e : Ending) (w' : World) : Prop := Below w.heap.size w w' ∧ ((r ≠ 0 ∧ e = .returned (.tuple #[.agg #[.int .i64 0, .int .i64 0], .int .i64 r])) ∨ (r = 0 ∧ e = .returned (.tuple #[.agg #[.int .i64 v.1, .int .i64 v.2], .int .i64 0])))
set_option maxRecDepth 100000 in
set_option maxHeartbeats 8000000 in
theorem agreement_walk (A : Option Addr) (n cap : Nat) (l : List Mk) (w : World) (hn : l.length = n) (hn2 : n ≤ 256) (hM : ML w A l) (r : Int) (hr : Hid (chkE ⟨#[]⟩ ⟨#[]⟩ 0 l = r)) :
    Calls Tryz.prog 6 #[.slice A n cap] w (AgRet r (agR (scP l) (papersL l).length) w) := by
  have HNT := Lib.hid (fun W (hW : Below w.heap.size w W) => newtable_walk A n cap l W hn (by omega) (hM.below hW) r hr)
  have HN := Lib.hid hn
  clear hn hM
  by_cases hr0 : r = 0
  · subst hr0
    have hsc : ∀ x ∈ l, 0 ≤ x.s ∧ x.s ≤ 10 := fun x hx => (chk_scores l _ _ _ hr.out x hx).2
    have HSC := Lib.hid hsc
    have HSM := Lib.hid (fun p => scP_mem hsc p)
    have HAL := Lib.hid (fun k => Nat.le_trans (agA_len l k) (Nat.le_of_eq HN.out))
    obtain ⟨np, hnp⟩ : ∃ np, (papersL l).length = np := ⟨_, rfl⟩
    have hnpb : np ≤ 256 := by rw [← hnp]; have := dedB_length (l.map Mk.p); rw [List.length_map, HN.out] at this; unfold papersL; omega
    rw [hnp]
    have HNP := Lib.hid hnp
    clear hsc hnp
    go_enter Tryz.func6, Tryz.ntmps6
    go_wp2_with fail
    refine (HNT.out _ ((Below.refl _ _).alloc (Nat.le_refl _) _)).mono ?_; rintro e w1 ⟨hb1, hor⟩
    rcases hor with ⟨h0, _⟩ | ⟨_, T, rfl, hT1, hT⟩
    · exact absurd rfl h0
    have B1 := Lib.hid (show Below w.heap.size w w1 from ((Below.refl _ _).alloc (Nat.le_refl _) (.cells #[.int .i64 0, .int .i64 0] 30)).trans (hb1.mono (by simp)))
    have R1 := Lib.hid ((Blk.new w 30 #[.int .i64 0, .int .i64 0]).below hb1 (by simp))
    have T1 := Lib.hid hT
    have TL := Lib.hid (fun W (h : Below w1.heap.size w1 W) => hT.below h)
    obtain ⟨PA, HA, cP, cH, MP, MH, bo, bb, v, h1, _⟩ := hT
    rw [HNP.out] at h1
    have t0 := h1.cell 0 _ rfl
    have hTl := h1.lt
    clear hb1 h1 HNT
    obtain ⟨i0, hi0, hz0, hz1', hz2'⟩ := info_parts infoI1
    have HI := Lib.hid hi0
    have Z0 := Lib.hid hz0
    have Z1 := Lib.hid hz1'
    have Z2 := Lib.hid hz2'
    clear hi0 hz0 hz1' hz2'
    go_wp2_with fail
    go_loopw [6, 7, 25] (fun a o i wr => ∃ (k : Nat) (W : Int) (Ao : Option Addr) (m c : Nat), k ≤ np ∧ i = .int .i64 k ∧ a = .int .i64 W ∧ o = .slice Ao m c ∧ Hid (agW (scP l) k = W) ∧ 0 ≤ W ∧ W ≤ k * 1386000000000 ∧ Hid ((agA (scP l) k).length = m) ∧ m ≤ 256 ∧ Hid (wr.ownsRow w1.heap.size 3 1 (.slice Ao m c) m ((agA (scP l) k).map (Value.int .i64))) ∧ Hid (Below w1.heap.size w1 wr)) (fun _ _ i _ => np - (intOf i).toNat)
    case atStart => exact ⟨0, 0, none, 0, 0, Nat.zero_le _, rfl, rfl, rfl, Lib.hid rfl, by omega, by omega, Lib.hid rfl, by omega, Lib.hid (World.ownsRow_nil _ _ _ _), Lib.hid (Below.refl _ _)⟩
    case round =>
      clear t0
      obtain ⟨k, W, Ao, m, c, hk, rfl, rfl, rfl, HW, hW0, hW1, HM, hm, HO, HB⟩ := hrel
      have hzr := HB.out.size
      by_cases hlt : k < np
      · have hX := Lib.hid (scores_walk T k l wr (by have := HN.out; omega) (TL.out wr HB.out) (by rw [HNP.out]; exact hlt) HSC.out)
        have HNXA := Lib.hid (show agA (scP l) (k + 1) = agA (scP l) k ++ (if (scP l k).length < 2 then [] else scP l k) from rfl)
        have HNXW := Lib.hid (show agW (scP l) (k + 1) = agW (scP l) k + (if (scP l k).length < 2 then 0 else difI (scP l k) * (27720 / (((scP l k).length : Int) - 1))) from rfl)
        have hal := HAL.out (k + 1)
        have hsm := HSM.out k
        have hpl : (scP l k).length ≤ 256 := by rw [scP_eq, List.length_map]; exact Nat.le_trans (List.length_filter_le _ _) (by rw [HN.out]; exact hn2)
        rw [HNXA.out] at hal
        obtain ⟨Y, hY⟩ : ∃ Y, scP l k = Y := ⟨_, rfl⟩
        rw [hY] at HNXA HNXW hal hsm hpl
        have hX2 := hX.out
        rw [hY] at hX2
        have HX := Lib.hid hX2
        clear hX2 hX hY
        obtain ⟨y, hy⟩ : ∃ y, Y.length = y := ⟨_, rfl⟩
        have HY := Lib.hid hy
        rw [hy] at hpl
        have a0 : (0 : Int) ≤ (k : Int) := by omega
        have a1 : (k : Int) < (np : Int) := by omega
        go_wp2_with fail
        refine (HX.out).mono ?_; rintro e w2 ⟨YA, cY, rfl, hil, hyc, hb2, hyg⟩
        rw [HY.out]
        rw [HY.out] at hyc hyg
        have B2 := Lib.hid (HB.out.trans (hb2.mono hzr))
        have O2 := Lib.hid (own_below HO.out hb2)
        have IL2 := Lib.hid hil
        have hz2 := B2.out.size
        clear hil hb2 HX HO HB hy
        by_cases h2 : y < 2
        · have d1 : decide ((y : Int) < 2) = true := by simp; omega
          have HA2 := Lib.hid (show agA (scP l) (k + 1) = agA (scP l) k by rw [HNXA.out, HY.out, if_pos h2, List.append_nil])
          have HW2 := Lib.hid (show agW (scP l) (k + 1) = W by rw [HNXW.out, HY.out, if_pos h2, HW.out, Int.add_zero])
          clear hyg hal hsm
          go_wp2_with fail
          go_roundw
          case rel => exact ⟨k + 1, W, Ao, m, c, by omega, by go_num, rfl, rfl, HW2, hW0, by omega, Lib.hid (by rw [HA2.out, HM.out]), hm, Lib.hid (by rw [HA2.out]; exact O2.out), B2⟩
          case measure => simp [intOf]; omega
        · have d1 : decide ((y : Int) < 2) = false := by simp; omega
          obtain ⟨g, hg, hgl⟩ := hyg (by omega)
          subst hg
          have hcells := IL2.out.2 (by rw [HY.out]; omega)
          have hdb := dif_bd hsm (Nat.le_of_eq HY.out) (by omega)
          have HD := Lib.hid (diff_walk (some ⟨g, 0, none⟩) y cY Y w2 HY.out (by omega) IL2.out)
          obtain ⟨q, hq⟩ : ∃ q, 27720 / ((y : Int) - 1) = q := ⟨_, rfl⟩
          have hqb : 1 ≤ q ∧ q ≤ 27720 := by rw [← hq]; exact div_pos y (by omega) (by omega)
          have HA2 := Lib.hid (show agA (scP l) (k + 1) = agA (scP l) k ++ Y by rw [HNXA.out, HY.out, if_neg h2])
          have HW2 := Lib.hid (show agW (scP l) (k + 1) = W + difI Y * q by rw [HNXW.out, HY.out, if_neg h2, HW.out, hq])
          have hal2 : m + y ≤ 256 := by
            have := hal; rw [if_neg (by rw [HY.out]; exact h2), List.length_append, HM.out, HY.out] at this; omega
          obtain ⟨D, hD⟩ : ∃ D, difI Y = D := ⟨_, rfl⟩
          have hDY := hD
          have hz2' := hz2
          rw [hD] at hdb HW2
          have HD2 := Lib.hid (show Calls Tryz.prog 17 #[.slice (some ⟨g, 0, none⟩) y cY] w2 fun e w' => e = .returned (.int .i64 D) ∧ w' = w2 by rw [← hD]; exact HD.out)
          clear HD hD hal hsm hcells HD2 hyg
          obtain ⟨z, rfl⟩ : ∃ z, y = z + 1 := ⟨y - 1, by omega⟩
          have hqz : (27720 : Int) / (z : Int) = q := by rw [← hq]; congr 1; push_cast; omega
          have hz1 : 1 ≤ z := by omega
          have p0 : 0 ≤ D * q := Int.mul_nonneg hdb.1 (by omega)
          have p1 : D * q ≤ 50000000 * 27720 := Int.mul_le_mul hdb.2 hqb.2 (by omega) (by omega)
          have B3 := Lib.hid (Below.drew B2.out)
          have O3 := Lib.hid (show w2.drew.ownsRow w1.heap.size 3 1 (.slice Ao m c) m ((agA (scP l) k).map (Value.int .i64)) from O2.out)
          have IL3 := Lib.hid (show IL w2.drew (some ⟨g, 0, none⟩) Y from IL2.out.below (Below.drew (Below.refl _ _)))
          have hd : difI Y = D := hDY
          have HD3 := Lib.hid (show Calls Tryz.prog 17 #[.slice (some ⟨g, 0, none⟩) (z + 1) cY] w2.drew fun e w' => e = .returned (.int .i64 D) ∧ w' = w2.drew by rw [← hd]; exact diff_walk (some ⟨g, 0, none⟩) (z + 1) cY Y w2.drew HY.out (by omega) IL3.out)
          have E1 : IntKind.i64.wrap ((z : Int) + 1 - 1) = (z : Int) := by rw [show (z : Int) + 1 - 1 = (z : Int) by omega]; exact IntWalk.i64_in _ (by omega)
          have E2 : IntKind.i64.wrap (z : Int) = (z : Int) := IntWalk.i64_in _ (by omega)
          have E3 : IntKind.i64.wrap ((27720 : Int).tdiv (z : Int)) = q := by rw [Int.tdiv_eq_ediv_of_nonneg (by omega), hqz]; exact IntWalk.i64_in _ (by omega)
          have E4 : IntKind.i64.wrap (D * q) = D * q := IntWalk.i64_in _ (by omega)
          have hk2 : k ≤ 256 := by omega
          have E5 : IntKind.i64.wrap (W + D * q) = W + D * q := IntWalk.i64_in _ (by omega)
          have hz0 : ¬ (z : Int) = 0 := by omega
          have hz2 : z ≠ 0 := by omega
          have hzb : ((z : Int) == 0) = false := by simp; omega
          have hW2b : W + D * q ≤ ((k + 1 : Nat) : Int) * 1386000000000 := by push_cast; omega
          have HQ := Lib.hid hq
          clear hq hqz hd hDY B2 O2 IL2
          go_wp2_with fail
          refine wp_region_still_tail 9 (by kernel_rfl) (by kernel_rfl) ?_
          change wpStill _ _ (World.drew _) (fun a' => wpList _ _ _ _ a' (World.drew _)) _ _
          have hz3 : w1.heap.size ≤ w2.drew.heap.size := hz2'
          generalize w2.drew = w3 at *
          simp only [List.take_succ_cons, List.take_zero, List.drop_succ_cons, List.drop_zero]
          repeat still_step
          still_call HD3.out
          repeat still_step
          refine wpStill_nil ?_
          clear E1 E2 E3 E4 E5 hz0 hz2 hzb HD3
          have hcl := (IL3.out.2 (by rw [HY.out]; omega))
          have HCL := Lib.hid (show ∀ (i : Nat) (h : i < Y.length), w3.cell? ⟨g, i, none⟩ = some (.int .i64 Y[i]) from by
            obtain ⟨g2, hg2, _, hc⟩ := hcl
            have : g = g2 := congrArg Addr.block (Option.some.inj hg2)
            subst this; exact hc)
          have HNEWS := Lib.hid (show ∀ j u, (Y.map (Value.int .i64))[j]? = some u → w3.cell? ((⟨g, 0, none⟩ : Addr).add j) = some u from fun j u hj => by
            have hjl : j < Y.length := by
              rcases Nat.lt_or_ge j Y.length with h | h
              · exact h
              · rw [List.getElem?_eq_none (by simpa using h)] at hj; cases hj
            rw [List.getElem?_map, List.getElem?_eq_getElem hjl] at hj
            injection hj with hj
            rw [row_add', ← hj]; exact HCL.out j hjl)
          have HONE := Lib.hid (show ∀ u ∈ Y.map (Value.int .i64), u.oneCell' = true from fun u hu => by
            obtain ⟨x, _, rfl⟩ := List.mem_map.1 hu; rfl)
          have HYL := Lib.hid (show (Y.map (Value.int .i64)).length = (z + 1) * 1 by rw [List.length_map, HY.out, Nat.mul_one])
          have HAPP := Lib.hid (show (agA (scP l) (k + 1)).map (Value.int .i64) = (agA (scP l) k).map (Value.int .i64) ++ Y.map (Value.int .i64) by rw [HA2.out, List.map_append])
          clear hcl HCL
          go_wp2_with (at_builtin; (refine wpList_append_lies _ rfl _ _ _ rfl w1.heap.size 3 i0 _ 1 8 Tryz.underlying22 HI.out Z0.out Z1.out Z2.out rfl (by omega) (.slice Ao m c) m ((agA (scP l) k).map (Value.int .i64)) rfl O3.out ⟨g, 0, none⟩ (z + 1) cY (Y.map (Value.int .i64)) rfl HYL.out HNEWS.out HONE.out (by omega) (by unfold maxLen; omega) (by omega) hz3 w3.heap.size rfl ?_); intro gg cap' w5 hown hgrow hat hgl; (have O5 := Lib.hid (show w5.ownsRow w1.heap.size 3 1 (.slice (some ⟨gg, 0, none⟩) (m + (z + 1)) cap') (m + (z + 1)) ((agA (scP l) (k + 1)).map (Value.int .i64)) by rw [HAPP.out]; exact hown)); (have B5 := Lib.hid (B3.out.trans (grownB hgrow (fun g e => (O3.out.lt g e).1) hz3))); clear hown hgrow hat)
          go_roundw
          case rel => exact ⟨k + 1, W + D * q, some ⟨gg, 0, none⟩, m + (z + 1), cap', by omega, by go_num, rfl, rfl, HW2, by omega, hW2b, Lib.hid (by rw [HA2.out, List.length_append, HM.out, HY.out]), hal2, O5, B5⟩
          case measure => simp [intOf]; omega
      · have hkn : k = np := by omega
        subst hkn
        have hil := row_il HO.out HM.out (agA_mem HSM.out k)
        have hdb := dif_bd (agA_mem HSM.out k) (Nat.le_of_eq HM.out) (by omega)
        have HD := Lib.hid (diff_walk Ao m c (agA (scP l) k) wr HM.out (by omega) hil)
        have HRE := Lib.hid (show agR (scP l) k = if difI (agA (scP l) k) * 27720 = 0 then (1, 1) else lowZ (difI (agA (scP l) k) * 27720 - (((agA (scP l) k).length : Int) - 1) * agW (scP l) k) (difI (agA (scP l) k) * 27720) from rfl)
        obtain ⟨D, hD⟩ : ∃ D, difI (agA (scP l) k) = D := ⟨_, rfl⟩
        have HD2 := Lib.hid (show Calls Tryz.prog 17 #[.slice Ao m c] wr fun e w' => e = .returned (.int .i64 D) ∧ w' = wr by rw [← hD]; exact HD.out)
        have HRE2 := Lib.hid (show agR (scP l) k = if D * 27720 = 0 then (1, 1) else lowZ (D * 27720 - ((m : Int) - 1) * W) (D * 27720) by rw [HRE.out, hD, HM.out, HW.out])
        rw [hD] at hdb
        obtain ⟨rv, hrv⟩ : ∃ rv, agR (scP l) k = rv := ⟨_, rfl⟩
        have HRV := Lib.hid hrv
        have HRE3 := Lib.hid (show (if D * 27720 = 0 then (1, 1) else lowZ (D * 27720 - ((m : Int) - 1) * W) (D * 27720)) = rv by rw [← HRE2.out, hrv])
        have HBF := Lib.hid (B1.out.trans (HB.out.mono B1.out.size))
        have RF := Lib.hid (R1.out.below HB.out R1.out.lt)
        have f0 := RF.out.frozen 0
        have f1 := RF.out.frozen 1
        have q0 := RF.out.cell 0 _ rfl
        have q1 := RF.out.cell 1 _ rfl
        obtain ⟨hd0, hd1⟩ := hdb
        have HDE := Lib.hid hD
        clear hil HD hD hrv HRE HRE2 HB HO
        by_cases hz : D = 0
        · subst hz
          have HE := Lib.hid (show rv = (1, 1) by rw [← HRE3.out]; rfl)
          go_wp2_with fail
          refine (HD2.out).mono ?_; rintro e w4 ⟨rfl, rfl⟩
          go_wp2_with fail
          refine bodyPost_ret (v := .tuple #[.agg #[.int .i64 1, .int .i64 1], .int .i64 0]) (by simp only [results, Tryz.results6]; go_simp) rfl ⟨(HBF.out.setCell (p := ⟨w.heap.size, 0, none⟩) (Nat.le_refl _) _).setCell (p := ⟨w.heap.size, 1, none⟩) (Nat.le_refl _) _, Or.inr ⟨rfl, by rw [HRV.out, HE.out]⟩⟩
        · have HE := Lib.hid (show lowZ (D * 27720 - ((m : Int) - 1) * W) (D * 27720) = rv by rw [← HRE3.out, if_neg (by omega)])
          have hm1 : 1 ≤ m := by
            rcases Nat.eq_zero_or_pos m with h | h
            · exfalso; apply hz
              have h2 := HM.out
              rw [h] at h2
              rw [← HDE.out, List.length_eq_zero_iff.1 h2]; rfl
            · exact h
          have hk2 : W ≤ 354816000000000 := by omega
          have p0 : 0 ≤ ((m : Int) - 1) * W := Int.mul_nonneg (by omega) hW0
          have p1 : ((m : Int) - 1) * W ≤ 255 * 354816000000000 := Int.mul_le_mul (by omega) hk2 hW0 (by omega)
          have d1 : ¬ D * 27720 = 0 := by omega
          have d2 : (D * 27720 == 0) = false := by simpa using d1
          have a1 : (1 : Int) ≤ (m : Int) := by omega
          have hD1 : 1 ≤ D := by omega
          clear hz hW1 HRE3
          go_wp2_with fail
          refine (HD2.out).mono ?_; rintro e w4 ⟨rfl, rfl⟩
          go_wp2_with fail
          refine (lowZ_any _ _ _ (by omega) (by omega) (by omega) (by omega)).mono ?_; rintro e w5 ⟨rfl, hb5⟩
          rw [HE.out]
          have HBG := Lib.hid (HBF.out.trans (hb5.mono HBF.out.size))
          have RG := Lib.hid (RF.out.below hb5 RF.out.lt)
          clear f0 f1 q0 q1
          have f0 := RG.out.frozen 0
          have f1 := RG.out.frozen 1
          have q0 := RG.out.cell 0 _ rfl
          have q1 := RG.out.cell 1 _ rfl
          clear hb5 HD2 p0 p1
          go_wp2_with fail
          refine bodyPost_ret (v := .tuple #[.agg #[.int .i64 rv.1, .int .i64 rv.2], .int .i64 0]) (by simp only [results, Tryz.results6]; go_simp) rfl ⟨(HBG.out.setCell (p := ⟨w.heap.size, 0, none⟩) (Nat.le_refl _) _).setCell (p := ⟨w.heap.size, 1, none⟩) (Nat.le_refl _) _, Or.inr ⟨rfl, by rw [HRV.out]⟩⟩
  · have HR0 := Lib.hid hr0
    have e1 : (r != 0) = true := by simpa using hr0
    clear hr0
    go_enter Tryz.func6, Tryz.ntmps6
    go_wp2_with fail
    refine (HNT.out _ ((Below.refl _ _).alloc (Nat.le_refl _) _)).mono ?_; rintro e w1 ⟨hb1, hor⟩
    rcases hor with ⟨_, rfl⟩ | ⟨h0, _⟩
    · have B1 := Lib.hid (show Below w.heap.size w w1 from ((Below.refl _ _).alloc (Nat.le_refl _) (.cells #[.int .i64 0, .int .i64 0] 30)).trans (hb1.mono (by simp)))
      have R1 := Lib.hid ((Blk.new w 30 #[.int .i64 0, .int .i64 0]).below hb1 (by simp))
      have f0 := R1.out.frozen 0
      have f1 := R1.out.frozen 1
      have q0 := R1.out.cell 0 _ rfl
      have q1 := R1.out.cell 1 _ rfl
      clear hb1 HNT
      go_wp2_with fail
      refine bodyPost_ret (v := .tuple #[.agg #[.int .i64 0, .int .i64 0], .int .i64 r]) (by simp only [results, Tryz.results6]; go_simp) rfl ⟨(B1.out.setCell (p := ⟨w.heap.size, 0, none⟩) (Nat.le_refl _) _).setCell (p := ⟨w.heap.size, 1, none⟩) (Nat.le_refl _) _, Or.inl ⟨HR0.out, rfl⟩⟩
    · exact absurd h0 HR0.out
end Go.Proofs.YthhiefpickpiaaaGreatDoor.Cal
