/-
  MARKS: the reference's AgreementOf.
-/
import Derived.Test.YthhiefpickpiaaaGreatDoorKapQ
import Derived.Test.YthhiefpickpiaaaGreatDoorCalA
import Derived.Test.YthhiefpickpiaaaGreatDoorCalP
import Derived.StillTailTactics
import Derived.Deep.RegionLaw
namespace Go.Proofs.YthhiefpickpiaaaGreatDoor.Cal
open Go.ChangeShapes Go.WideShapes Go.ChangeAt Go.RowKit Stm Key
set_option linter.unusedVariables false

theorem ref_cnt (s : ByteArray) : ∀ (l : List Mk) (R : List ByteArray) (prev : Option Mk), refE R prev l = 0 → cntR R s + (l.filter fun x => eqB x.p s).length ≤ max 12 (cntR R s)
  | [], R, prev, _ => by simp; omega
  | x :: t, R, prev, h => by
    unfold refE at h
    by_cases h0 : stepR (x.p :: R) prev x = 0
    · rw [if_neg (by simpa using h0)] at h
      have ih := ref_cnt s t _ _ h
      have hc : cntR (x.p :: R) x.p ≤ 12 := by
        unfold stepR at h0
        split at h0
        · exact absurd h0 (by decide)
        · split at h0
          · exact absurd h0 (by decide)
          · split at h0
            · exact absurd h0 (by decide)
            · split at h0
              · exact absurd h0 (by decide)
              · omega
      rw [cntR_cons] at ih
      by_cases he : eqB x.p s = true
      · have e := (eqB_iff _ _).1 he
        rw [e, cntR_cons, if_pos (eqB_self _)] at hc
        rw [if_pos he] at ih
        rw [List.filter_cons, if_pos he, List.length_cons]
        omega
      · rw [if_neg he] at ih
        rw [List.filter_cons, if_neg he]
        omega
    · rw [if_pos h0] at h; exact absurd h h0
theorem scB_12 {l : List Mk} (h : chkE ⟨#[]⟩ ⟨#[]⟩ 0 l = 0) (s : ByteArray) : (scB l s).length ≤ 12 := by
  have := ref_cnt s l [] none (by rw [marks_same]; exact h)
  unfold scB
  rw [List.length_map]
  simp [cntR] at this
  omega
theorem agA_perm {f g : Nat → List Int} (h : ∀ k, (f k).Perm (g k)) : ∀ k, (agA f k).Perm (agA g k)
  | 0 => List.Perm.refl _
  | k + 1 => by
    refine (agA_perm h k).append ?_
    rw [(h k).length_eq]
    split
    · exact List.Perm.refl _
    · exact h k
theorem div_of {z : Nat} (h1 : 1 ≤ z) (h2 : z ≤ 11) : (27720 : Int) / (z : Int) * (z : Int) = 27720 := by
  have : z = 1 ∨ z = 2 ∨ z = 3 ∨ z = 4 ∨ z = 5 ∨ z = 6 ∨ z = 7 ∨ z = 8 ∨ z = 9 ∨ z = 10 ∨ z = 11 := by omega
  rcases this with rfl | rfl | rfl | rfl | rfl | rfl | rfl | rfl | rfl | rfl | rfl <;> decide
theorem sl_ne_int {w : World} {A : Option Addr} {ss : List ByteArray} {b g : Nat} {v : Int} (hS : SL w A ss) (h0 : 0 < ss.length) (hR : w.cell? ⟨b, 0, none⟩ = some (.int .i64 v)) (hA : A = some ⟨g, 0, none⟩) : g ≠ b := by
  intro e
  subst e
  obtain ⟨b2, hb, _, hc⟩ := hS.2 h0
  obtain rfl : b2 = g := by rw [hA] at hb; exact (congrArg Addr.block (Option.some.inj hb)).symm
  have h1 := hc 0 h0
  rw [hR] at h1
  cases h1
theorem sl_grA {w w' : World} {A : Option Addr} {ss : List ByteArray} {M : Nat} (hS : SL w A ss) (hG : Gr M w w') (hne : ∀ g, A = some ⟨g, 0, none⟩ → 0 < ss.length → g ≠ M) : SL w' A ss :=
  ⟨hS.1, fun h0 => by
    obtain ⟨g, hA, hlt, hc⟩ := hS.2 h0
    exact ⟨g, hA, Nat.lt_of_lt_of_le hlt hG.size, fun i hi => (Gr.cell hG g i hlt (hne g hA h0)).trans (hc i hi)⟩⟩
set_option maxRecDepth 100000 in
set_option maxHeartbeats 8000000 in
theorem agreementof_walk (A : Option Addr) (n cap : Nat) (l : List Mk) (w : World) (hn : l.length = n) (hn2 : n ≤ 256) (hM : ML w A l) (hr : Hid (chkE ⟨#[]⟩ ⟨#[]⟩ 0 l = 0)) :
    Calls Tryz.prog 11 #[.slice A n cap] w (FRet (agR (scP l) (papersL l).length) w) := by
  have hsc : ∀ x ∈ l, 0 ≤ x.s ∧ x.s ≤ 10 := fun x hx => (chk_scores l _ _ _ hr.out x hx).2
  have HN := Lib.hid hn
  have HM := Lib.hid hM
  have HRP := Lib.hid (show ∀ W, ML W A l → Calls Tryz.prog 24 #[.slice A n cap] W (SRet (papersL l) W) from fun W h => ref_p A n cap l W hn (by omega) h)
  have HSO := Lib.hid (fun (p : ByteArray) W (hW : ML W A l) => scoresof_new A n cap l p W hn (by omega) hW hsc)
  have HSM := Lib.hid (fun p => scP_mem hsc p)
  have HAL := Lib.hid (fun k => Nat.le_trans (agA_len l k) (Nat.le_of_eq hn))
  have H12 := Lib.hid (fun s => scB_12 hr.out s)
  have hnd : (papersL l).Nodup := dedB_nodup _
  have HSB := Lib.hid (show ∀ (k : Nat) (h : k < (papersL l).length), scB l (papersL l)[k] = scP l k from fun k h => by
    rw [← scB_eq (List.getElem_mem h), idx_of hnd h])
  have hnp : (papersL l).length ≤ 256 := Nat.le_trans (dedB_length _) (by rw [List.length_map, hn]; exact hn2)
  have HAP := Lib.hid (fun k => agA_perm (f := fun k => srtI (scP l k)) (g := scP l) (fun k => srtI_perm (scP l k)) k)
  clear hn hM hsc hnd
  generalize papersL l = ks at *
  obtain ⟨np, he⟩ : ∃ np, ks.length = np := ⟨_, rfl⟩
  rw [he] at hnp ⊢
  have HNP := Lib.hid he; clear he
  obtain ⟨i0, hi0, hz0, hz1', hz2'⟩ := info_parts infoI1
  have HI := Lib.hid hi0
  have Z0 := Lib.hid hz0
  have Z1 := Lib.hid hz1'
  have Z2 := Lib.hid hz2'
  clear hi0 hz0 hz1' hz2'
  have B0 := Lib.hid (show Below w.heap.size w ((w.alloc (.cells #[.int .i64 0, .int .i64 0] 30)).alloc (.cells #[.int .i64 0, .int .i64 1] 30)) from ((Below.refl _ _).alloc (Nat.le_refl _) _).alloc (by simp) _)
  have R0 := Lib.hid (show Blk ((w.alloc (.cells #[.int .i64 0, .int .i64 0] 30)).alloc (.cells #[.int .i64 0, .int .i64 1] 30)) w.heap.size 30 #[.int .i64 0, .int .i64 0] from (Blk.new w _ _).alloc _)
  have F0 := Lib.hid (show Blk ((w.alloc (.cells #[.int .i64 0, .int .i64 0] 30)).alloc (.cells #[.int .i64 0, .int .i64 1] 30)) (w.heap.size + 1) 30 #[.int .i64 0, .int .i64 1] from (by
    have := Blk.new (w.alloc (.cells #[.int .i64 0, .int .i64 0] 30)) 30 #[.int .i64 0, .int .i64 1]
    have e : (w.alloc (.cells #[.int .i64 0, .int .i64 0] 30)).heap.size = w.heap.size + 1 := by simp
    rw [e] at this; exact this))
  go_enter Tryz.func11, Tryz.ntmps11
  go_wp2_with fail
  refine (HRP.out _ (HM.out.below B0.out)).mono ?_; rintro e w2 ⟨A1, c1, rfl, hs1, hb1⟩
  rw [HNP.out]
  have B2 := Lib.hid (B0.out.trans (hb1.mono B0.out.size))
  have R2 := Lib.hid (R0.out.below hb1 R0.out.lt)
  have F2 := Lib.hid (F0.out.below hb1 F0.out.lt)
  have S2 := Lib.hid hs1
  have NE2 := Lib.hid (show ∀ g, A1 = some ⟨g, 0, none⟩ → 0 < ks.length → g ≠ w.heap.size + 1 from fun g hA h0 => sl_ne_int S2.out h0 (F2.out.cell 0 _ rfl) hA)
  have hz2 : w.heap.size + 1 < w2.heap.size := F2.out.lt
  clear hs1 hb1 B0 R0 F0
  go_wp2_with fail
  go_loopw [3, 14] (fun o i wr => ∃ (k : Nat) (W : Int) (Ao : Option Addr) (m c : Nat), k ≤ np ∧ i = .int .i64 k ∧ o = .slice Ao m c ∧ Hid (agW (scP l) k = W) ∧ 0 ≤ W ∧ W ≤ k * 1386000000000 ∧ Hid ((agA (scP l) k).length = m) ∧ m ≤ 256 ∧
    Hid (wr.ownsRow w2.heap.size 3 1 (.slice Ao m c) m ((agA (fun k => srtI (scP l k)) k).map (Value.int .i64))) ∧ Hid (Blk wr (w.heap.size + 1) 30 #[.int .i64 (lowZ W 27720).1, .int .i64 (lowZ W 27720).2]) ∧ Hid (Gr (w.heap.size + 1) w2 wr)) (fun _ i _ => np - (intOf i).toNat)
  case atStart =>
    have F20 := F2.out
    rw [show (0 : Int) = (lowZ 0 27720).1 by decide +kernel, show (1 : Int) = (lowZ 0 27720).2 by decide +kernel] at F20
    exact ⟨0, 0, none, 0, 0, Nat.zero_le _, rfl, rfl, Lib.hid rfl, by omega, by omega, Lib.hid rfl, by omega, Lib.hid (World.ownsRow_nil _ _ _ _), Lib.hid F20, Lib.hid (Gr.refl _ _)⟩
  case round =>
    clear F2
    obtain ⟨k, W, Ao, m, c, hk, rfl, rfl, HW, hW0, hW1, HMl, hm, HO, HF, HG⟩ := hrel
    have hzr := HG.out.size
    have BR := Lib.hid (show Below w.heap.size w wr from B2.out.trans (HG.out.toBelow (by omega) (by omega)))
    by_cases hlt : k < np
    · have hkl : k < ks.length := by rw [HNP.out]; exact hlt
      have SR := Lib.hid (sl_grA S2.out HG.out NE2.out)
      obtain ⟨ga, hA1, hga, hca⟩ := SR.out.2 (by omega)
      subst hA1
      have c0 := hca k hkl
      have hsb := HSB.out k hkl
      have h12 := H12.out ks[k]
      rw [hsb] at h12
      have HNXA := Lib.hid (show agA (scP l) (k + 1) = agA (scP l) k ++ (if (scP l k).length < 2 then [] else scP l k) from rfl)
      have HNXS := Lib.hid (show agA (fun k => srtI (scP l k)) (k + 1) = agA (fun k => srtI (scP l k)) k ++ (if (srtI (scP l k)).length < 2 then [] else srtI (scP l k)) from rfl)
      have HNXW := Lib.hid (show agW (scP l) (k + 1) = agW (scP l) k + (if (scP l k).length < 2 then 0 else difI (scP l k) * (27720 / (((scP l k).length : Int) - 1))) from rfl)
      have hal := HAL.out (k + 1)
      rw [HNXA.out] at hal
      have hsm := HSM.out k
      obtain ⟨kp, he⟩ : ∃ kp, ks[k] = kp := ⟨_, rfl⟩
      rw [he] at c0 hsb
      have HSX := Lib.hid (fun W hW => HSO.out kp W hW)
      have HX := HSX.out wr (HM.out.below BR.out)
      rw [hsb] at HX
      have HX2 := Lib.hid HX
      clear hca he HX HSX hsb
      obtain ⟨Y, hY⟩ : ∃ Y, scP l k = Y := ⟨_, rfl⟩
      rw [hY] at h12 HNXA HNXS HNXW hal hsm HX2
      have HDP := Lib.hid (dif_perm (srtI_perm Y))
      have HYL := Lib.hid (srtI_perm Y).length_eq
      obtain ⟨y, hy⟩ : ∃ y, Y.length = y := ⟨_, rfl⟩
      rw [hy] at h12 HYL
      have HY := Lib.hid hy
      have b0 : (0 : Int) ≤ (k : Int) := by omega
      have b1 : (k : Int) < (np : Int) := by omega
      clear hY hy
      go_wp2_with fail
      refine (HX2.out).mono ?_; rintro e w3 ⟨YA, cY, rfl, hil, hb3, hyc, hyg⟩
      rw [HYL.out] at hyc hyg
      rw [HYL.out]
      have G3 := Lib.hid (HG.out.trans (Gr.below hb3))
      have B3 := Lib.hid (BR.out.trans (hb3.mono BR.out.size))
      have HOB := Lib.hid (show ∀ g', (Value.slice Ao m c).ownBlock = some g' → w2.heap.size ≤ g' ∧ g' < wr.heap.size from fun g' e => HO.out.lt g' e)
      have O3 := Lib.hid (own_below HO.out hb3)
      have F3 := Lib.hid (HF.out.below hb3 HF.out.lt)
      have IL3 := Lib.hid hil
      have hz3 := G3.out.size
      clear hil hb3 HX2 HG HO HF SR c0 BR
      by_cases h2 : y < 2
      · have d1 : decide ((y : Int) < 2) = true := by simp; omega
        have HA2 := Lib.hid (show agA (scP l) (k + 1) = agA (scP l) k by rw [HNXA.out, HY.out, if_pos h2, List.append_nil])
        have HS2 := Lib.hid (show agA (fun k => srtI (scP l k)) (k + 1) = agA (fun k => srtI (scP l k)) k by rw [HNXS.out, HYL.out, if_pos h2, List.append_nil])
        have HW2 := Lib.hid (show agW (scP l) (k + 1) = W by rw [HNXW.out, HY.out, if_pos h2, HW.out, Int.add_zero])
        clear hal hsm hyc hyg
        go_wp2_with fail
        go_roundw
        case rel => exact ⟨k + 1, W, Ao, m, c, by omega, by go_num, rfl, HW2, hW0, by omega, Lib.hid (by rw [HA2.out, HMl.out]), hm, Lib.hid (by rw [HS2.out]; exact O3.out), F3, G3⟩
        case measure => simp [intOf]; omega
      · have d1 : decide ((y : Int) < 2) = false := by simp; omega
        obtain ⟨g, hg, hgl⟩ := hyg (by omega)
        subst hg
        have HA2 := Lib.hid (show agA (scP l) (k + 1) = agA (scP l) k ++ Y by rw [HNXA.out, HY.out, if_neg h2])
        have HS2 := Lib.hid (show (agA (fun k => srtI (scP l k)) (k + 1)).map (Value.int .i64) = (agA (fun k => srtI (scP l k)) k).map (Value.int .i64) ++ (srtI Y).map (Value.int .i64) by rw [HNXS.out, HYL.out, if_neg h2, List.map_append])
        obtain ⟨z, rfl⟩ : ∃ z, y = z + 1 := ⟨y - 1, by omega⟩
        have hz1 : 1 ≤ z := by omega
        have hz11 : z ≤ 11 := by omega
        obtain ⟨q, hq⟩ : ∃ q, (27720 : Int) / (z : Int) = q := ⟨_, rfl⟩
        have hqz : q * (z : Int) = 27720 := by rw [← hq]; exact div_of hz1 hz11
        have hdb := dif_bd hsm (Nat.le_of_eq HY.out) (by omega)
        have HW2 := Lib.hid (show agW (scP l) (k + 1) = W + difI Y * q by rw [HNXW.out, HY.out, if_neg h2, HW.out, ← hq, show (((z + 1 : Nat) : Int) - 1) = (z : Int) by push_cast; omega])
        have hal2 : m + (z + 1) ≤ 256 := by
          have := hal; rw [if_neg (by rw [HY.out]; exact h2), List.length_append, HMl.out, HY.out] at this; omega
        obtain ⟨zs, hzs⟩ : ∃ zs, srtI Y = zs := ⟨_, rfl⟩
        rw [hzs] at IL3 HS2 HYL HDP
        obtain ⟨D, hD⟩ : ∃ D, difI Y = D := ⟨_, rfl⟩
        rw [hD] at hdb HW2 HDP
        have hcl := (IL3.out.2 (by rw [HYL.out]; omega))
        have HCL := Lib.hid (show ∀ (i : Nat) (h : i < zs.length), w3.cell? ⟨g, i, none⟩ = some (.int .i64 zs[i]) from by
          obtain ⟨g2, hg2, _, hc⟩ := hcl
          have : g = g2 := congrArg Addr.block (Option.some.inj hg2)
          subst this; exact hc)
        have hgl3 : g < w3.heap.size := by
          obtain ⟨g2, hg2, hl2, hc⟩ := hcl
          have : g = g2 := congrArg Addr.block (Option.some.inj hg2)
          subst this; exact hl2
        have HNEWS := Lib.hid (show ∀ j u, (zs.map (Value.int .i64))[j]? = some u → w3.cell? ((⟨g, 0, none⟩ : Addr).add j) = some u from fun j u hj => by
          have hjl : j < zs.length := by
            rcases Nat.lt_or_ge j zs.length with h | h
            · exact h
            · rw [List.getElem?_eq_none (by simpa using h)] at hj; cases hj
          rw [List.getElem?_map, List.getElem?_eq_getElem hjl] at hj
          injection hj with hj
          rw [row_add', ← hj]; exact HCL.out j hjl)
        have HONE := Lib.hid (show ∀ u ∈ zs.map (Value.int .i64), u.oneCell' = true from fun u hu => by
          obtain ⟨x, _, rfl⟩ := List.mem_map.1 hu; rfl)
        have HZL := Lib.hid (show (zs.map (Value.int .i64)).length = (z + 1) * 1 by rw [List.length_map, HYL.out, Nat.mul_one])
        obtain ⟨hd0, hd1⟩ := hdb
        clear hq hal hsm hcl HCL hzs hD HNXA HNXS HNXW
        go_wp2_with (at_builtin; (refine wpList_append_lies _ rfl _ _ _ rfl w2.heap.size 3 i0 _ 1 8 Tryz.underlying22 HI.out Z0.out Z1.out Z2.out rfl (by omega) (.slice Ao m c) m ((agA (fun k => srtI (scP l k)) k).map (Value.int .i64)) rfl O3.out ⟨g, 0, none⟩ (z + 1) cY (zs.map (Value.int .i64)) rfl HZL.out HNEWS.out HONE.out (by omega) (by unfold maxLen; omega) (by omega) hz3 w3.heap.size rfl ?_); intro gg cap' w5 hown hgrow hat hgl5; (have O5 := Lib.hid (show w5.ownsRow w2.heap.size 3 1 (.slice (some ⟨gg, 0, none⟩) (m + (z + 1)) cap') (m + (z + 1)) ((agA (fun k => srtI (scP l k)) (k + 1)).map (Value.int .i64)) by rw [HS2.out]; exact hown)); (have GG5 := Lib.hid hgrow); clear hown hgrow hat)
        have G5 := Lib.hid (gr_row G3.out GG5.out (fun g' e => (HOB.out g' e).1))
        have F5 := Lib.hid (show Blk w5 (w.heap.size + 1) 30 #[.int .i64 (lowZ W 27720).1, .int .i64 (lowZ W 27720).2] from (GG5.out.block _ F3.out.lt (fun e => by have := (HOB.out _ e.symm).1; omega)).trans F3.out)
        have IL5 := Lib.hid (show IL w5 (some ⟨g, 0, none⟩) zs from ⟨IL3.out.1, fun h0 => by
          obtain ⟨g2, hg2, hl2, hc⟩ := IL3.out.2 h0
          have e2 : g = g2 := congrArg Addr.block (Option.some.inj hg2)
          subst e2
          exact ⟨g, rfl, Nat.lt_of_lt_of_le hl2 GG5.out.size, fun i hi => (World.cell?_of_block (w := w3) (GG5.out.block g hl2 (fun e => by have := (HOB.out _ e.symm).2; omega))).trans (hc i hi)⟩⟩)
        have B5 := Lib.hid (show Below w.heap.size w w5 from B2.out.trans (G5.out.toBelow (by omega) (by omega)))
        have O6 := Lib.hid (show w5.drew.ownsRow w2.heap.size 3 1 (.slice (some ⟨gg, 0, none⟩) (m + (z + 1)) cap') (m + (z + 1)) ((agA (fun k => srtI (scP l k)) (k + 1)).map (Value.int .i64)) from O5.out)
        have G6 := Lib.hid (show Gr (w.heap.size + 1) w2 w5.drew from Gr.drew G5.out)
        have F6 := Lib.hid (show Blk w5.drew (w.heap.size + 1) 30 #[.int .i64 (lowZ W 27720).1, .int .i64 (lowZ W 27720).2] from F5.out)
        have IL6 := Lib.hid (show IL w5.drew (some ⟨g, 0, none⟩) zs from IL5.out.below (Below.drew (Below.refl _ _)))
        have HSQ := Lib.hid (squares_walk (some ⟨g, 0, none⟩) (z + 1) cY zs w5.drew HYL.out (by omega) IL6.out)
        have h6 := HSQ.out
        rw [HDP.out] at h6
        have HSQ2 := Lib.hid h6
        obtain ⟨p1, p2, p3⟩ := lowZ_says W (show (0 : Int) < 27720 by omega)
        obtain ⟨q1, q2, q3⟩ := lowZ_says D (show (0 : Int) < (z : Int) by omega)
        obtain ⟨r1, r2⟩ := lowZ_abs (M := 354816000000000) (show (0 : Int) < 27720 by omega) hW0 (by omega)
        obtain ⟨s1, s2⟩ := lowZ_abs (M := 50000000) (show (0 : Int) < (z : Int) by omega) hd0 hd1
        have HPL := Lib.hid (lowZ_plus W D z q (by omega) hqz)
        have hq0 : 0 ≤ q := by
          rcases Int.le_total 0 q with h | h
          · exact h
          · have := Int.mul_le_mul_of_nonneg_right h (show 0 ≤ (z : Int) by omega); omega
        have hq9 : q ≤ 27720 := by
          have := Int.mul_le_mul_of_nonneg_left (show (1 : Int) ≤ (z : Int) by omega) hq0
          rw [Int.mul_one, hqz] at this; exact this
        have u0 : 0 ≤ D * q := Int.mul_nonneg hd0 hq0
        have u1 : D * q ≤ 50000000 * 27720 := Int.mul_le_mul hd1 hq9 hq0 (by omega)
        have hW2b : W + D * q ≤ ((k + 1 : Nat) : Int) * 1386000000000 := by push_cast; omega
        have HPT := Lib.hid (fun V => partZ_any D z V (by omega) (by omega) hz1 (by omega))
        obtain ⟨wa, hwa⟩ : ∃ v, (lowZ W 27720).1 = v := ⟨_, rfl⟩
        obtain ⟨wb, hwb⟩ : ∃ v, (lowZ W 27720).2 = v := ⟨_, rfl⟩
        obtain ⟨da, hda⟩ : ∃ v, (lowZ D z).1 = v := ⟨_, rfl⟩
        obtain ⟨db, hdb'⟩ : ∃ v, (lowZ D z).2 = v := ⟨_, rfl⟩
        rw [hwa] at r1 r2
        rw [hwb] at p2 p3
        rw [hda] at s1 s2
        rw [hdb'] at q2 q3
        rw [hwa, hwb] at F6
        rw [hwa, hwb, hda, hdb'] at HPL
        simp only [hda, hdb'] at HPT
        have v0 : 0 ≤ wa * db := Int.mul_nonneg r1 (by omega)
        have v1 : wa * db ≤ 354816000000000 * 11 := Int.mul_le_mul r2 (by omega) (by omega) (by omega)
        have v2 : 0 ≤ da * wb := Int.mul_nonneg s1 (by omega)
        have v3 : da * wb ≤ 50000000 * 27720 := Int.mul_le_mul s2 p3 (by omega) (by omega)
        have v4 : 0 < wb * db := Int.mul_pos p2 q2
        have v5 : wb * db ≤ 27720 * 11 := Int.mul_le_mul p3 (by omega) (by omega) (by omega)
        have HPW := Lib.hid (fun V => plus_walk wa wb da db V (by omega) (by omega) (by omega) (by omega) (by omega) (by omega))
        have E1 : IntKind.i64.wrap ((z : Int) + 1 - 1) = (z : Int) := by rw [show (z : Int) + 1 - 1 = (z : Int) by omega]; exact IntWalk.i64_in _ (by omega)
        have E2 : IntKind.i64.wrap (z : Int) = (z : Int) := IntWalk.i64_in _ (by omega)
        clear GG5 O5 G5 F5 IL5 h6 HSQ p1 q1 hwa hwb hda hdb' v0 v1 v2 v3 v4 v5 u1
        have hz6 : w2.heap.size ≤ w5.drew.heap.size := G6.out.size
        have HB6 := Lib.hid (show ∀ V, Below w5.drew.heap.size w5.drew V → w2.heap.size ≤ V.heap.size ∧ Gr (w.heap.size + 1) w2 V ∧ Blk V (w.heap.size + 1) 30 #[.int .i64 wa, .int .i64 wb] ∧ V.ownsRow w2.heap.size 3 1 (.slice (some ⟨gg, 0, none⟩) (m + (z + 1)) cap') (m + (z + 1)) ((agA (fun k => srtI (scP l k)) (k + 1)).map (Value.int .i64)) from fun V hV =>
          ⟨Nat.le_trans hz6 hV.size, G6.out.trans (Gr.below hV), F6.out.below hV F6.out.lt, own_below O6.out hV⟩)
        have c60 : w5.drew.cell? ⟨w.heap.size + 1, 0, none⟩ = some (.int .i64 wa) := F6.out.cell 0 _ rfl
        have c61 : w5.drew.cell? ⟨w.heap.size + 1, 1, none⟩ = some (.int .i64 wb) := F6.out.cell 1 _ rfl
        have hl6 : w.heap.size + 1 < w5.drew.heap.size := F6.out.lt
        have HPL2 := Lib.hid (fun V => (HPW.out V).mono fun e w' (h : FRet _ _ _ _) => show FRet (lowZ (W + D * q) 27720) V e w' by rw [← HPL.out]; exact h)
        obtain ⟨rr, hrr⟩ : ∃ v, lowZ (W + D * q) 27720 = v := ⟨_, rfl⟩
        rw [hrr] at HPL2
        have HRR := Lib.hid hrr
        clear hrr G6 F6 O6 IL6 HPW HPL
        go_region_law ((first
          | (go_simp; go_at_call 29; with_reducible refine (HSQ2.out).mono ?_; rintro e wq ⟨rfl, rfl⟩)
          | (go_simp; go_at_call 26; with_reducible refine (HPT.out _).mono ?_
             rintro e w7 ⟨rfl, hb7⟩
             have x70 : w7.cell? ⟨w.heap.size + 1, 0, none⟩ = some (.int .i64 wa) := (HB6.out _ hb7).2.2.1.cell 0 _ rfl
             have x71 : w7.cell? ⟨w.heap.size + 1, 1, none⟩ = some (.int .i64 wb) := (HB6.out _ hb7).2.2.1.cell 1 _ rfl
             have l7 := (HB6.out _ hb7).2.2.1.lt)
          | (go_simp; go_at_call 28; with_reducible refine (HPL2.out _).mono ?_
             rintro e w8 ⟨rfl, hb8⟩
             have hb78 := Lib.hid (hb7.trans (hb8.mono hb7.size))
             have f0 := (HB6.out _ hb78.out).2.2.1.frozen 0
             have f1 := (HB6.out _ hb78.out).2.2.1.frozen 1
             have x80 : w8.cell? ⟨w.heap.size + 1, 0, none⟩ = some (.int .i64 wa) := (HB6.out _ hb78.out).2.2.1.cell 0 _ rfl
             have x81 : w8.cell? ⟨w.heap.size + 1, 1, none⟩ = some (.int .i64 wb) := (HB6.out _ hb78.out).2.2.1.cell 1 _ rfl
             have l8 := (HB6.out _ hb78.out).2.2.1.lt)))
        all_goals
          go_wp2_with fail
          go_roundw
          case rel =>
            obtain ⟨s8, G8, F8, O8⟩ := HB6.out _ hb78.out
            exact ⟨k + 1, W + D * q, some ⟨gg, 0, none⟩, m + (z + 1), cap', by omega, by go_num, rfl, HW2, by omega, hW2b, Lib.hid (by rw [HA2.out, List.length_append, HMl.out, HY.out]), hal2,
              Lib.hid (own_gr (own_gr O8 (grownBy_set _ ⟨w.heap.size + 1, 0, none⟩ _) (by show w.heap.size + 1 < w2.heap.size; omega)) (grownBy_set _ ⟨w.heap.size + 1, 1, none⟩ _) (by show w.heap.size + 1 < w2.heap.size; omega)),
              Lib.hid (by rw [HRR.out]; exact (F8.set_ 0 _).set_ 1 _), Lib.hid ((G8.trans (grownBy_set _ ⟨w.heap.size + 1, 0, none⟩ _)).trans (grownBy_set _ ⟨w.heap.size + 1, 1, none⟩ _))⟩
          case measure => simp [intOf]; omega
    · obtain rfl : np = k := by omega
      have hper := HAP.out np
      have hlen : (agA (fun k => srtI (scP l k)) np).length = m := hper.length_eq.trans HMl.out
      have hmem : ∀ x ∈ agA (fun k => srtI (scP l k)) np, 0 ≤ x ∧ x ≤ 10 := fun x hx => agA_mem HSM.out np x (hper.mem_iff.1 hx)
      have hil := row_il HO.out hlen hmem
      have hdb := dif_bd (agA_mem HSM.out np) (Nat.le_of_eq HMl.out) (by omega)
      have HSQ := squares_walk Ao m c (agA (fun k => srtI (scP l k)) np) wr hlen hm hil
      rw [dif_perm hper] at HSQ
      have HRE := Lib.hid (show agR (scP l) np = if difI (agA (scP l) np) * 27720 = 0 then (1, 1) else lowZ (difI (agA (scP l) np) * 27720 - (((agA (scP l) np).length : Int) - 1) * agW (scP l) np) (difI (agA (scP l) np) * 27720) from rfl)
      obtain ⟨D, hD⟩ : ∃ D, difI (agA (scP l) np) = D := ⟨_, rfl⟩
      rw [hD] at HSQ hdb
      have HS := Lib.hid HSQ
      have HRE2 := Lib.hid (show agR (scP l) np = if D * 27720 = 0 then (1, 1) else lowZ (D * 27720 - ((m : Int) - 1) * W) (D * 27720) by rw [HRE.out, hD, HMl.out, HW.out])
      have hm1 : D ≠ 0 → 1 ≤ m := fun hz => by
        rcases Nat.eq_zero_or_pos m with h | h
        · exfalso; apply hz
          have h2 := HMl.out
          rw [h] at h2
          rw [← hD, List.length_eq_zero_iff.1 h2]; rfl
        · exact h
      have RR := Lib.hid (show Blk wr w.heap.size 30 #[.int .i64 0, .int .i64 0] from (HG.out.block _ R2.out.lt (fun e => by have := Option.some.inj e; omega)).trans R2.out)
      obtain ⟨hd0, hd1⟩ := hdb
      clear hper hlen hmem hil HSQ hD HRE HO
      by_cases hz : D = 0
      · subst hz
        have HE := Lib.hid (show agR (scP l) np = (1, 1) by rw [HRE2.out]; rfl)
        have f0 := RR.out.frozen 0
        have f1 := RR.out.frozen 1
        have x0 := RR.out.cell 0 _ rfl
        have x1 := RR.out.cell 1 _ rfl
        go_wp2_with fail
        refine (HS.out).mono ?_; rintro e w4 ⟨rfl, rfl⟩
        go_wp2_with fail
        exact bodyPost_ret (v := .agg #[.int .i64 1, .int .i64 1]) (by simp only [results, Tryz.results11]; go_simp) rfl ⟨by rw [HE.out], (BR.out.setCell (p := ⟨w.heap.size, 0, none⟩) (Nat.le_refl _) _).setCell (p := ⟨w.heap.size, 1, none⟩) (Nat.le_refl _) _⟩
      · obtain ⟨mm, rfl⟩ : ∃ mm, m = mm + 1 := ⟨m - 1, by have := hm1 hz; omega⟩
        have hD1 : 0 < D := by omega
        have HE := Lib.hid (show agR (scP l) np = lowZ (D * 27720 - (mm : Int) * W) (D * 27720) by rw [HRE2.out, if_neg (by omega), show (((mm + 1 : Nat) : Int) - 1) = (mm : Int) by push_cast; omega])
        have HLA := Lib.hid (lowZ_last W D mm hD1)
        have hmm : (mm : Int) ≤ 255 := by omega
        obtain ⟨_, p2, p3⟩ := lowZ_says W (show (0 : Int) < 27720 by omega)
        obtain ⟨r1, r2⟩ := lowZ_abs (M := 354816000000000) (show (0 : Int) < 27720 by omega) hW0 (by omega)
        obtain ⟨wa, hwa⟩ : ∃ v, (lowZ W 27720).1 = v := ⟨_, rfl⟩
        obtain ⟨wb, hwb⟩ : ∃ v, (lowZ W 27720).2 = v := ⟨_, rfl⟩
        rw [hwa] at r1 r2 HF HLA
        rw [hwb] at p2 p3 HF HLA
        have v0 : 0 ≤ wa * (mm : Int) := Int.mul_nonneg r1 (by omega)
        have v1 : wa * (mm : Int) ≤ 354816000000000 * 255 := Int.mul_le_mul r2 hmm (by omega) (by omega)
        obtain ⟨s0, s1, s2⟩ := lowZ_says (wa * (mm : Int)) p2
        obtain ⟨s3, s4⟩ := lowZ_abs p2 v0 v1
        obtain ⟨wbn, hwbn⟩ : ∃ v : Nat, wb = v := ⟨wb.toNat, by omega⟩
        have HP1 := Lib.hid (fun V => partZ_any (wa * (mm : Int)) wbn V (by omega) (by omega) (by omega) (by omega))
        rw [← hwbn] at HP1
        obtain ⟨a2, ha2⟩ : ∃ v, (lowZ (wa * (mm : Int)) wb).1 = v := ⟨_, rfl⟩
        obtain ⟨b2, hb2⟩ : ∃ v, (lowZ (wa * (mm : Int)) wb).2 = v := ⟨_, rfl⟩
        simp only [ha2, hb2] at HP1 HLA
        rw [ha2] at s3 s4
        rw [hb2] at s1 s2
        obtain ⟨t0, t1, t2⟩ := lowZ_says a2 hD1
        obtain ⟨t3, t4⟩ := lowZ_abs hD1 s3 s4
        obtain ⟨Dn, hDn⟩ : ∃ v : Nat, D = v := ⟨D.toNat, by omega⟩
        have HP2 := Lib.hid (fun V => partZ_any a2 Dn V (by omega) (by omega) (by omega) (by omega))
        rw [← hDn] at HP2
        obtain ⟨fa, hfa⟩ : ∃ v, (lowZ a2 D).1 = v := ⟨_, rfl⟩
        obtain ⟨fb, hfb⟩ : ∃ v, (lowZ a2 D).2 = v := ⟨_, rfl⟩
        simp only [hfa, hfb] at HP2 HLA
        rw [hfa] at t3 t4
        rw [hfb] at t1 t2
        have u0 : 0 < fb * b2 := Int.mul_pos t1 s1
        have u1 : fb * b2 ≤ 50000000 * 27720 := Int.mul_le_mul (by omega) (by omega) (by omega) (by omega)
        obtain ⟨en, hen⟩ : ∃ v : Nat, fb * b2 = v := ⟨(fb * b2).toNat, by omega⟩
        have HP3 := Lib.hid (fun V => partZ_any (fb * b2 - fa) en V (by omega) (by omega) (by omega) (by omega))
        rw [← hen] at HP3
        simp only [HLA.out] at HP3
        obtain ⟨u, hu⟩ : ∃ u, lowZ (D * 27720 - (mm : Int) * W) (D * 27720) = u := ⟨_, rfl⟩
        rw [hu] at HE
        simp only [hu] at HP3
        have x0 : wr.cell? ⟨w.heap.size + 1, 0, none⟩ = some (.int .i64 wa) := HF.out.cell 0 _ rfl
        have x1 : wr.cell? ⟨w.heap.size + 1, 1, none⟩ = some (.int .i64 wb) := HF.out.cell 1 _ rfl
        have d1 : (D == 0) = false := by simpa using hz
        clear hm1 hwa hwb hwbn ha2 hb2 hDn hfa hfb hen hu s0 t0 HLA HRE2 hz
        go_wp2_with fail
        refine (HS.out).mono ?_; rintro e w4 ⟨rfl, rfl⟩
        go_wp2_with fail
        refine (HP1.out _).mono ?_; rintro e w5 ⟨rfl, hb5⟩
        have R5 := Lib.hid (RR.out.below hb5 RR.out.lt)
        have F5 := Lib.hid (HF.out.below hb5 HF.out.lt)
        have B5 := Lib.hid (BR.out.trans (hb5.mono BR.out.size))
        clear hb5 x0 x1
        have f0 := F5.out.frozen 0
        have f1 := F5.out.frozen 1
        have x0 : w5.cell? ⟨w.heap.size + 1, 0, none⟩ = some (.int .i64 wa) := F5.out.cell 0 _ rfl
        have x1 : w5.cell? ⟨w.heap.size + 1, 1, none⟩ = some (.int .i64 wb) := F5.out.cell 1 _ rfl
        have l5 := F5.out.lt
        go_upto_region 15 with fail
        have R6 := Lib.hid ((R5.out.far (p := ⟨w.heap.size + 1, 0, none⟩) (by show w.heap.size ≠ w.heap.size + 1; omega) (.int .i64 a2)).far (p := ⟨w.heap.size + 1, 1, none⟩) (by show w.heap.size ≠ w.heap.size + 1; omega) (.int .i64 b2))
        have F6 := Lib.hid (show Blk _ (w.heap.size + 1) 30 #[.int .i64 a2, .int .i64 b2] from (F5.out.set_ 0 (.int .i64 a2)).set_ 1 (.int .i64 b2))
        have B6 := Lib.hid ((B5.out.setCell (p := ⟨w.heap.size + 1, 0, none⟩) (Nat.le_succ _) (.int .i64 a2)).setCell (p := ⟨w.heap.size + 1, 1, none⟩) (Nat.le_succ _) (.int .i64 b2))
        generalize ((w5.setCell ⟨w.heap.size + 1, 0, none⟩ (.int .i64 a2)).setCell ⟨w.heap.size + 1, 1, none⟩ (.int .i64 b2)) = w6 at *
        clear f0 f1 x0 x1 R5 F5 B5 l5
        have x0 : w6.cell? ⟨w.heap.size + 1, 0, none⟩ = some (.int .i64 a2) := F6.out.cell 0 _ rfl
        have x1 : w6.cell? ⟨w.heap.size + 1, 1, none⟩ = some (.int .i64 b2) := F6.out.cell 1 _ rfl
        go_wp2_with fail
        refine (HP2.out _).mono ?_; rintro e w7 ⟨rfl, hb7⟩
        have R7 := Lib.hid (R6.out.below hb7 R6.out.lt)
        have F7 := Lib.hid (F6.out.below hb7 F6.out.lt)
        have B7 := Lib.hid (B6.out.trans (hb7.mono B6.out.size))
        clear hb7 x0 x1 R6 F6 B6
        have x0 : w7.cell? ⟨w.heap.size + 1, 0, none⟩ = some (.int .i64 a2) := F7.out.cell 0 _ rfl
        have x1 : w7.cell? ⟨w.heap.size + 1, 1, none⟩ = some (.int .i64 b2) := F7.out.cell 1 _ rfl
        have l7 := F7.out.lt
        have B8 := Lib.hid (B7.out.alloc B7.out.size (.cells #[.int .i64 fa, .int .i64 fb] 30))
        have R8 := Lib.hid (R7.out.alloc (.cells #[.int .i64 fa, .int .i64 fb] 30))
        go_wp2_with fail
        refine (HP3.out _).mono ?_; rintro e w9 ⟨rfl, hb9⟩
        have R9 := Lib.hid (R8.out.below hb9 R8.out.lt)
        have B9 := Lib.hid (B8.out.trans (hb9.mono B8.out.size))
        clear hb9 x0 x1 R7 F7 B7 B8 R8
        have f0 := R9.out.frozen 0
        have f1 := R9.out.frozen 1
        have x0 : w9.cell? ⟨w.heap.size, 0, none⟩ = some (.int .i64 0) := R9.out.cell 0 _ rfl
        have x1 : w9.cell? ⟨w.heap.size, 1, none⟩ = some (.int .i64 0) := R9.out.cell 1 _ rfl
        go_wp2_with fail
        exact bodyPost_ret (v := .agg #[.int .i64 u.1, .int .i64 u.2]) (by simp only [results, Tryz.results11]; go_simp) rfl ⟨by rw [HE.out], (B9.out.setCell (p := ⟨w.heap.size, 0, none⟩) (Nat.le_refl _) _).setCell (p := ⟨w.heap.size, 1, none⟩) (Nat.le_refl _) _⟩
end Go.Proofs.YthhiefpickpiaaaGreatDoor.Cal
