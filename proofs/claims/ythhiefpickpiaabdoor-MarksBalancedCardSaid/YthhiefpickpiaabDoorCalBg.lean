/-
  MARKS: the reference's BalancedOf.
-/
import Derived.Test.YthhiefpickpiaabDoorCalBf
namespace Go.Proofs.YthhiefpickpiaabDoor.Cal
open Go.ChangeShapes Go.WideShapes Go.ChangeAt Go.RowKit Stm Key
open Go.Maps (Keyed string_keyed)
set_option linter.unusedVariables false

theorem sl_gr {w w' : World} {A : Option Addr} {ss : List ByteArray} {M : Nat} (hS : SL w A ss) (hG : Gr M w w') (hne : ∀ g, A = some ⟨g, 0, none⟩ → 0 < ss.length → g ≠ M) : SL w' A ss :=
  ⟨hS.1, fun h0 => by
    obtain ⟨g, hA, hlt, hc⟩ := hS.2 h0
    exact ⟨g, hA, Nat.lt_of_lt_of_le hlt hG.size, fun i hi => (Gr.cell hG g i hlt (hne g hA h0)).trans (hc i hi)⟩⟩
theorem upd_all {ks : List ByteArray} (hd : ks.Nodup) {p : Nat} (hp : p < ks.length) {f : ByteArray → Int} {W : Nat → Int} (h : ∀ (i : Nat) (hi : i < p) (h2 : i < ks.length), f ks[i] = W i) : ∀ (i : Nat) (hi : i < p + 1) (h2 : i < ks.length), updF f ks[p] (W p) ks[i] = W i := by
  intro i hi h2
  unfold updF
  by_cases e : i = p
  · subst e; rw [eqB_self, if_pos rfl]
  · rw [if_neg, h i (by omega) h2]
    intro he
    have := (eqB_iff _ _).1 he
    exact e ((List.getElem_inj hd).1 this.symm)
/-- What BalancedOf hands back. -/
def BalOfRet (l : List Mk) (r : Nat) (w : World) (e : Ending) (w' : World) : Prop := ∃ (A B : Option Addr) (cA cB : Nat), e = .returned (.tuple #[.slice A (papersL l).length cA, .slice B (peopleL l).length cB]) ∧
  LvL w' A (lvs (papersL l) (bal (papersL l) (peopleL l) l r).1) ∧ LvL w' B (lvs (peopleL l) (bal (papersL l) (peopleL l) l r).2) ∧ Below w.heap.size w w'
set_option maxRecDepth 100000 in
set_option maxHeartbeats 16000000 in
theorem balancedof_walk (A : Option Addr) (n cap : Nat) (l : List Mk) (r : Nat) (w : World) (hn : l.length = n) (hn2 : n ≤ 256) (hM : ML w A l) (hs : ∀ x ∈ l, 0 ≤ x.s ∧ x.s ≤ 10) (hr : r ≤ 100) :
    Calls Tryd.prog 9 #[.slice A n cap, .int .i64 r] w (BalOfRet l r w) := by
  have HRP := Lib.hid (show ∀ W, ML W A l → Calls Tryd.prog 19 #[.slice A n cap] W (SRet (papersL l) W) from fun W h => ref_p A n cap l W hn (by omega) h)
  have HRH := Lib.hid (show ∀ W, ML W A l → Calls Tryd.prog 21 #[.slice A n cap] W (SRet (peopleL l) W) from fun W h => ref_h A n cap l W hn (by omega) h)
  have HN := Lib.hid hn
  have HM := Lib.hid hM
  have hdp : (papersL l).Nodup := dedB_nodup _
  have hdh : (peopleL l).Nodup := dedB_nodup _
  have hnp : (papersL l).length ≤ 256 := Nat.le_trans (dedB_length _) (by rw [List.length_map, hn]; exact hn2)
  have hnh : (peopleL l).length ≤ 256 := Nat.le_trans (dedB_length _) (by rw [List.length_map, hn]; exact hn2)
  have hpm := p_mem l
  have hhm := h_mem l
  have hpx : ∀ s ∈ papersL l, ∃ x ∈ l, x.p = s := fun s h => by
    have := (dedB_mem _ _).1 h
    obtain ⟨x, hx, e⟩ := List.mem_map.1 this; exact ⟨x, hx, e⟩
  have hhx : ∀ s ∈ peopleL l, ∃ x ∈ l, x.h = s := fun s h => by
    have := (dedB_mem _ _).1 h
    obtain ⟨x, hx, e⟩ := List.mem_map.1 this; exact ⟨x, hx, e⟩
  unfold BalOfRet
  generalize papersL l = ks at *
  generalize peopleL l = hs' at *
  have HPP := Lib.hid (fun i hi => rowP_pos (ks := ks) (hs := hs') (l := l) hdp hpx (i := i) hi)
  have HPH := Lib.hid (fun i hi => rowH_pos (ks := ks) (hs := hs') (l := l) hdh hhx (i := i) hi)
  have HBD := Lib.hid (fun k => bal_bd (ks := ks) (hs := hs') hs k)
  have HSP := Lib.hid (fun (q i : Nat) => rowP_sc ks hs' (l := l.take q) (fun x hx => hs x (List.mem_of_mem_take hx)) i)
  have HSH := Lib.hid (fun (q i : Nat) => rowH_sc ks hs' (l := l.take q) (fun x hx => hs x (List.mem_of_mem_take hx)) i)
  have HDP := Lib.hid hdp
  have HDH := Lib.hid hdh
  have HPM := Lib.hid hpm
  have HHM := Lib.hid hhm
  have HSC := Lib.hid hs
  clear hn hM hdp hdh hpm hhm hpx hhx hs
  obtain ⟨np, he⟩ : ∃ np, ks.length = np := ⟨_, rfl⟩
  rw [he] at hnp ⊢
  have HNP := Lib.hid he; clear he
  obtain ⟨nh, he⟩ : ∃ nh, hs'.length = nh := ⟨_, rfl⟩
  rw [he] at hnh ⊢
  have HNH := Lib.hid he; clear he
  go_enter Tryd.func9, Tryd.ntmps9
  have FW0 := Lib.hid (show MF ((w.alloc (.map #[] 0)).alloc (.map #[] 0)) w.heap.size 0 (fun _ => 0) from (mf_new w).below ((Below.refl _ _).alloc (Nat.le_refl _) _))
  have FB0 := Lib.hid (show MF ((w.alloc (.map #[] 0)).alloc (.map #[] 0)) (w.heap.size + 1) 0 (fun _ => 0) from (by
    have := mf_new (w.alloc (.map #[] 0))
    have e : (w.alloc (.map #[] 0)).heap.size = w.heap.size + 1 := by simp
    rw [e] at this; exact this))
  have B0 := Lib.hid (show Below w.heap.size w ((w.alloc (.map #[] 0)).alloc (.map #[] 0)) from ((Below.refl _ _).alloc (Nat.le_refl _) _).alloc (by simp) _)
  have hmm : ∀ W : World, (Instr.makeMap 50 none).run Tryd.prog W = .ok (.map (some W.heap.size)) (W.alloc (.map #[] 0)) := fun W => by
    simp [Instr.makeMap, Result.andThen]
  go_wp2_with fail
  clear hmm
  go_loopw [27] (fun i wr => ∃ (k cw cb : Nat) (f g : ByteArray → Int), k ≤ r ∧ i = .int .i64 k ∧ cw ≤ k * 256 ∧ cb ≤ k * 256 ∧ Hid (MF wr w.heap.size cw f) ∧ Hid (MF wr (w.heap.size + 1) cb g) ∧
    Hid (∀ (i : Nat) (h : i < ks.length), f ks[i] = (bal ks hs' l k).1 i) ∧ Hid (∀ (j : Nat) (h : j < hs'.length), g hs'[j] = (bal ks hs' l k).2 j) ∧ Hid (Below w.heap.size w wr)) (fun i _ => r - (intOf i).toNat)
  case atStart => exact ⟨0, 0, 0, _, _, Nat.zero_le _, rfl, Nat.zero_le _, Nat.zero_le _, FW0, FB0, Lib.hid (fun _ _ => rfl), Lib.hid (fun _ _ => rfl), B0⟩
  case round =>
    clear FW0 FB0 B0
    obtain ⟨k, cw, cb, f, g, hk, rfl, hcw, hcb, HF, HG, HFV, HGV, HB⟩ := hrel
    rename World => wo
    by_cases hlt : k < r
    · have hk0 : (0 : Int) ≤ (k : Int) := by omega
      have hk1 : (k : Int) < (r : Int) := by omega
      have hzo := HB.out.size
      go_wp2_with fail
      refine (HRP.out _ (HM.out.below HB.out)).mono ?_; rintro e w1 ⟨A1, c1, rfl, hs1, hb1⟩
      rw [HNP.out]
      have F1 := Lib.hid (HF.out.below hb1)
      have G1 := Lib.hid (HG.out.below hb1)
      have B1 := Lib.hid (HB.out.trans (hb1.mono hzo))
      have S1 := Lib.hid hs1
      have hz1 := B1.out.size
      have hm1 := G1.out.lt
      have NE1 := Lib.hid (show ∀ g', A1 = some ⟨g', 0, none⟩ → 0 < ks.length → g' ≠ w.heap.size from fun g' hA h0 => sl_ne_map S1.out h0 F1.out hA)
      have HWB := Lib.hid (fun i => bal_w ks hs' l k i)
      clear HF HG HB hs1 hb1 hzo
      go_wp2_with fail
      go_loopw [32] (fun i wr => ∃ (p c : Nat) (f' : ByteArray → Int), p ≤ np ∧ i = .int .i64 p ∧ c ≤ cw + p ∧ Hid (MF wr w.heap.size c f') ∧ Hid (∀ (i : Nat) (h : i < p) (h2 : i < ks.length), f' ks[i] = (bal ks hs' l (k + 1)).1 i) ∧ Hid (Gr w.heap.size w1 wr)) (fun i _ => np - (intOf i).toNat)
      case atStart => exact ⟨0, cw, f, Nat.zero_le _, rfl, Nat.le_refl _, F1, Lib.hid (fun i h => absurd h (by omega)), Lib.hid (Gr.refl _ _)⟩
      case round =>
        clear F1 HFV
        obtain ⟨p, c, f', hp, rfl, hc, HF, HFV, HGR⟩ := hrel
        rename World => wp
        have hzp := HGR.out.size
        have BP := Lib.hid (show Below w.heap.size w wp from B1.out.trans (HGR.out.toBelow (Nat.le_refl _) hz1))
        have SPP := Lib.hid (sl_gr S1.out HGR.out NE1.out)
        have GP := Lib.hid (G1.out.gr HGR.out (by simp))
        by_cases hplt : p < np
        · have hpl : p < ks.length := by rw [HNP.out]; exact hplt
          obtain ⟨ga, hA1, hga, hca⟩ := SPP.out.2 (by omega)
          subst hA1
          have c0 := hca p hpl
          have HKS := Lib.hid (SPP.out.1 _ (List.getElem_mem hpl))
          have HUP := Lib.hid (upd_all HDP.out hpl HFV.out)
          have HIX := Lib.hid (fun (s : ByteArray) (h : s ∈ ks) => idx_is HDP.out h hpl)
          have HPO := Lib.hid (HPP.out p hpl)
          obtain ⟨kp, he⟩ : ∃ kp, ks[p] = kp := ⟨_, rfl⟩
          rw [he] at c0 HKS HUP HIX
          clear he hca
          have q0 : (0 : Int) ≤ (p : Int) := by omega
          have q1 : (p : Int) < (np : Int) := by omega
          go_wp2_with fail
          go_loopw [10, 11, 38] (fun sm m i wr => ∃ (q c2 : Nat) (t : Int), q ≤ n ∧ i = .int .i64 q ∧ sm = .int .i64 t ∧ m = .int .i64 c2 ∧ c2 ≤ q ∧ Hid (resS (rowP ks hs' (l.take q) p) (bal ks hs' l k).2 = t) ∧ Hid ((rowP ks hs' (l.take q) p).length = c2) ∧ Hid (Below wp.heap.size wp wr)) (fun _ _ i _ => n - (intOf i).toNat)
          case atStart => exact ⟨0, 0, 0, Nat.zero_le _, rfl, rfl, rfl, Nat.le_refl _, Lib.hid rfl, Lib.hid rfl, Lib.hid (Below.refl _ _)⟩
          case round =>
            clear c0
            obtain ⟨q, c2, t, hq, rfl, rfl, rfl, hc2, HT, HC, HQ⟩ := hrel
            have hzq := HQ.out.size
            have ht := resS_bd (bal ks hs' l k).2 3000000000 (rowP ks hs' (l.take q) p) (fun y hy => ⟨HSP.out q p y hy, by have := (HBD.out k).2 y.1; omega⟩)
            rw [HT.out, HC.out] at ht
            have ht1 : -900000000000 ≤ t := by have := ht.1; omega
            have ht2 : t ≤ 900000000000 := by have := ht.2; omega
            clear ht
            by_cases hqlt : q < n
            · have hql : q < l.length := by rw [HN.out]; exact hqlt
              obtain ⟨gm, hA, hgm, hcl⟩ := (HM.out.below BP.out).2 (by omega)
              subst hA
              obtain ⟨d0, d1, d2⟩ := hcl q hql
              have m0 := (HQ.out.cell (p := ⟨gm, q * 3, none⟩) hgm).trans d0
              have m1 := (HQ.out.cell (p := ⟨gm, q * 3 + 1, none⟩) hgm).trans d1
              have m2 := (HQ.out.cell (p := ⟨gm, q * 3 + 2, none⟩) hgm).trans d2
              have hx := HM.out.1 _ (List.getElem_mem hql)
              have hsc := HSC.out _ (List.getElem_mem hql)
              have hxp := HPM.out _ (List.getElem_mem hql)
              have hxh := HHM.out _ (List.getElem_mem hql)
              have HTN := take_next l q hql
              have HRN := Lib.hid (rowP_snoc ks hs' (l.take q) l[q] p)
              rw [← HTN] at HRN
              have HIX2 := HIX.out _ hxp
              clear hcl d0 d1 d2 HTN hxp
              generalize l[q] = x at *
              obtain ⟨xp, xh, xs⟩ := x
              obtain ⟨hx0, hx1, hx2, hx3⟩ := hx
              simp only at m0 m1 m2 hx0 hx1 hsc hxh HRN HIX2
              obtain ⟨hs0, hs1⟩ := hsc
              have r0 : (0 : Int) ≤ (q : Int) := by omega
              have r1 : (q : Int) < (n : Int) := by omega
              have Q1 := Lib.hid (HQ.out.alloc hzq (.cells #[.string xp, .string xh, .int .i64 xs] 57))
              obtain ⟨b, hb⟩ : ∃ b, eqB xp kp = b := ⟨_, rfl⟩
              cases b
              · have HR2 := Lib.hid (show rowP ks hs' (l.take (q + 1)) p = rowP ks hs' (l.take q) p by rw [HRN.out, if_neg (fun e => by rw [HIX2.1 e] at hb; cases hb)])
                have e1 : (xp.toList == kp.toList) = false := hb
                have e2 : ¬ xp.toList = kp.toList := by simpa using e1
                have e3 : ¬ kp.toList = xp.toList := fun e => e2 e.symm
                clear hb HIX2 HRN HQ
                go_wp2_with fail
                go_roundw
                case rel => exact ⟨q + 1, c2, t, by omega, by go_num, rfl, rfl, by omega, Lib.hid (by rw [HR2.out]; exact HT.out), Lib.hid (by rw [HR2.out]; exact HC.out), Q1⟩
                case measure => simp [intOf]; omega
              · have HR2 := Lib.hid (show rowP ks hs' (l.take (q + 1)) p = rowP ks hs' (l.take q) p ++ [(idx hs' xh, xs)] by rw [HRN.out, if_pos (HIX2.2 hb)])
                obtain ⟨hi, he⟩ := idx_at hxh
                have hgv := HGV.out _ hi
                rw [he] at hgv
                have hgb := (HBD.out k).2 (idx hs' xh)
                rw [← hgv] at hgb
                have HR3 := Lib.hid (show resS (rowP ks hs' (l.take (q + 1)) p) (bal ks hs' l k).2 = t + (1000000 * xs - g xh) by rw [HR2.out, resS_snoc, HT.out, hgv])
                have HR4 := Lib.hid (show (rowP ks hs' (l.take (q + 1)) p).length = c2 + 1 by rw [HR2.out, List.length_append, HC.out]; rfl)
                obtain ⟨D, hown, hat⟩ := GP.out.below Q1.out
                have HO := Lib.hid hown
                have hat2 := hat xh
                obtain ⟨y, hy⟩ : ∃ y, g xh = y := ⟨_, rfl⟩
                rw [hy] at hgb HR3 hat2
                have HAT := Lib.hid hat2
                obtain ⟨hy0, hy1⟩ := hgb
                have hy2 : -3000000000 ≤ y := by omega
                have hy3 : y ≤ 3000000000 := by omega
                obtain rfl := (eqB_iff _ _).1 hb
                have HKEY := Lib.hid (show keyOf Tryd.prog 9 (.string xh) = some (.string xh.data.toList) from Go.WideMaps.keyOf_string_mk Tryd.underlying9 (by unfold maxLen; omega))
                clear hb HIX2 HRN HQ HR2 hi he hgv hy hown hat hat2 hy0 hy1
                go_wp2_with (at_lookup; refine wpList_lookup_own_int _ rfl _ _ 50 rfl 9 3 .i64 keyLaw Tryd.underlying50 Tryd.underlying3 (zeroI _) (w.heap.size + 1) cb D rfl HO.out (.string xh) _ rfl HKEY.out ?_; intro c' hat hwc; (rw [HAT.out] at hat); obtain rfl := (Lit.int.inj (DataW.lit.inj hat)).2; clear hat hwc)
                go_roundw
                case rel => exact ⟨q + 1, c2 + 1, t + 1000000 * xs - y, by omega, by go_num, rfl, by go_num, by omega, Lib.hid (by rw [HR3.out]; omega), HR4, Q1⟩
                case measure => simp [intOf]; omega
            · obtain rfl : n = q := by omega
              have hlen : l.take n = l := List.take_of_length_le (by rw [HN.out]; exact Nat.le_refl _)
              rw [hlen] at HT HC
              have hpo := HPO.out
              rw [HC.out] at hpo
              have hy0 := (HBD.out (k + 1)).1 p
              have HY := Lib.hid (show t / (c2 : Int) = (bal ks hs' l (k + 1)).1 p by
                rw [HWB.out]; unfold resI; rw [HT.out, HC.out, if_neg (by omega)])
              obtain ⟨y, hy⟩ : ∃ y, (bal ks hs' l (k + 1)).1 p = y := ⟨_, rfl⟩
              rw [hy] at HUP hy0 HY
              obtain ⟨hy1, hy2⟩ := hy0
              push_cast at hy1 hy2
              have hy3 : -3000000000 ≤ y := by omega
              have hy4 : y ≤ 3000000000 := by omega
              have HFL := Lib.hid (fun W => floored_walk t c2 W (by omega) (by omega) (by omega) (by omega))
              obtain ⟨D, hown, hat⟩ := HF.out.below HQ.out
              have HO := Lib.hid hown
              have HPUT := Lib.hid (fun (w' : World) => mf_put (w' := w') (s := kp) (y := y) hown hat)
              have HKEY := Lib.hid (show keyOf Tryd.prog 9 (.string kp) = some (.string kp.data.toList) from Go.WideMaps.keyOf_string_mk Tryd.underlying9 (by have := HKS.out; unfold maxLen; omega))
              have BQ := Lib.hid (HGR.out.trans (Gr.below HQ.out))
              have hzq2 : w.heap.size < wr.heap.size := by omega
              clear hlen HT HC hpo hy hy1 hy2 hown hat HQ HF
              go_wp2_with fail
              refine (HFL.out _).mono ?_; rintro e w2 ⟨rfl, rfl⟩
              rw [HY.out]
              go_wp2_with (at_mapUpdate; refine wpList_mapUpdate_own _ rfl _ _ _ 50 rfl 9 3 keyLaw Tryd.underlying50 _ w.heap.size c _ rfl HO.out (by unfold maxLen; omega) _ _ _ rfl rfl HKEY.out _ [] (plainElem_int Tryd.underlying3 (WalkArith.wf_i64 (by omega))) ?_; intro w5 hown5 hgrow5; (have O5 := Lib.hid (HPUT.out _ hown5)); (have G5 := Lib.hid (show Gr w.heap.size w1 w5 from BQ.out.trans hgrow5)); clear hown5 hgrow5)
              go_roundw
              case rel => exact ⟨p + 1, c + 1, _, by omega, by go_num, by omega, O5, HUP, G5⟩
              case measure => simp [intOf]; omega
        · obtain rfl : np = p := by omega
          have HFV2 := Lib.hid (show ∀ (i : Nat) (h : i < ks.length), f' ks[i] = (bal ks hs' l (k + 1)).1 i from fun i h => HFV.out i (by rw [← HNP.out]; exact h) h)
          obtain ⟨cf, rfl⟩ : ∃ cf, cf = c := ⟨c, rfl⟩
          clear HFV NE1 S1 SPP HWB HGR G1 B1 hm1
          go_wp2_with fail
          refine (HRH.out _ (HM.out.below BP.out)).mono ?_; rintro e w2 ⟨A2, c3, rfl, hs2, hb2⟩
          rw [HNH.out]
          have F2 := Lib.hid (HF.out.below hb2)
          have G2 := Lib.hid (GP.out.below hb2)
          have B2 := Lib.hid (BP.out.trans (hb2.mono BP.out.size))
          have S2 := Lib.hid hs2
          have hz2 := B2.out.size
          have hm2 := G2.out.lt
          have NE2 := Lib.hid (show ∀ g', A2 = some ⟨g', 0, none⟩ → 0 < hs'.length → g' ≠ w.heap.size + 1 from fun g' hA h0 => sl_ne_map S2.out h0 G2.out hA)
          have HBB := Lib.hid (fun i => bal_b ks hs' l k i)
          clear HF GP BP hs2 hb2
          go_wp2_with fail
          go_loopw [70] (fun i wr => ∃ (p c : Nat) (g' : ByteArray → Int), p ≤ nh ∧ i = .int .i64 p ∧ c ≤ cb + p ∧ Hid (MF wr (w.heap.size + 1) c g') ∧ Hid (∀ (i : Nat) (h : i < p) (h2 : i < hs'.length), g' hs'[i] = (bal ks hs' l (k + 1)).2 i) ∧ Hid (Gr (w.heap.size + 1) w2 wr)) (fun i _ => nh - (intOf i).toNat)
          case atStart => exact ⟨0, cb, g, Nat.zero_le _, rfl, Nat.le_refl _, G2, Lib.hid (fun i h => absurd h (by omega)), Lib.hid (Gr.refl _ _)⟩
          case round =>
            clear G2 HGV
            obtain ⟨p, c, g', hp, rfl, hc, HG, HGV, HGR⟩ := hrel
            rename World => wp
            have hzp := HGR.out.size
            have BP := Lib.hid (show Below w.heap.size w wp from B2.out.trans (HGR.out.toBelow (Nat.le_succ _) hz2))
            have SPP := Lib.hid (sl_gr S2.out HGR.out NE2.out)
            have FP := Lib.hid (F2.out.gr HGR.out (by simp))
            by_cases hplt : p < nh
            · have hpl : p < hs'.length := by rw [HNH.out]; exact hplt
              obtain ⟨ga, hA2, hga, hca⟩ := SPP.out.2 (by omega)
              subst hA2
              have c0 := hca p hpl
              have HKS := Lib.hid (SPP.out.1 _ (List.getElem_mem hpl))
              have HUP := Lib.hid (upd_all HDH.out hpl HGV.out)
              have HIX := Lib.hid (fun (s : ByteArray) (h : s ∈ hs') => idx_is HDH.out h hpl)
              have HPO := Lib.hid (HPH.out p hpl)
              obtain ⟨kp, he⟩ : ∃ kp, hs'[p] = kp := ⟨_, rfl⟩
              rw [he] at c0 HKS HUP HIX
              clear he hca
              have q0 : (0 : Int) ≤ (p : Int) := by omega
              have q1 : (p : Int) < (nh : Int) := by omega
              go_wp2_with fail
              go_loopw [16, 17, 76] (fun sm m i wr => ∃ (q c2 : Nat) (t : Int), q ≤ n ∧ i = .int .i64 q ∧ sm = .int .i64 t ∧ m = .int .i64 c2 ∧ c2 ≤ q ∧ Hid (resS (rowH ks hs' (l.take q) p) (bal ks hs' l (k + 1)).1 = t) ∧ Hid ((rowH ks hs' (l.take q) p).length = c2) ∧ Hid (Below wp.heap.size wp wr)) (fun _ _ i _ => n - (intOf i).toNat)
              case atStart => exact ⟨0, 0, 0, Nat.zero_le _, rfl, rfl, rfl, Nat.le_refl _, Lib.hid rfl, Lib.hid rfl, Lib.hid (Below.refl _ _)⟩
              case round =>
                clear c0
                obtain ⟨q, c2, t, hq, rfl, rfl, rfl, hc2, HT, HC, HQ⟩ := hrel
                have hzq := HQ.out.size
                have ht := resS_bd (bal ks hs' l (k + 1)).1 3000000000 (rowH ks hs' (l.take q) p) (fun y hy => ⟨HSH.out q p y hy, by have := (HBD.out (k + 1)).1 y.1; push_cast at this; omega⟩)
                rw [HT.out, HC.out] at ht
                have ht1 : -900000000000 ≤ t := by have := ht.1; omega
                have ht2 : t ≤ 900000000000 := by have := ht.2; omega
                clear ht
                by_cases hqlt : q < n
                · have hql : q < l.length := by rw [HN.out]; exact hqlt
                  obtain ⟨gm, hA, hgm, hcl⟩ := (HM.out.below BP.out).2 (by omega)
                  subst hA
                  obtain ⟨d0, d1, d2⟩ := hcl q hql
                  have m0 := (HQ.out.cell (p := ⟨gm, q * 3, none⟩) hgm).trans d0
                  have m1 := (HQ.out.cell (p := ⟨gm, q * 3 + 1, none⟩) hgm).trans d1
                  have m2 := (HQ.out.cell (p := ⟨gm, q * 3 + 2, none⟩) hgm).trans d2
                  have hx := HM.out.1 _ (List.getElem_mem hql)
                  have hsc := HSC.out _ (List.getElem_mem hql)
                  have hxp0 := HPM.out _ (List.getElem_mem hql)
                  have hxh0 := HHM.out _ (List.getElem_mem hql)
                  have HTN := take_next l q hql
                  have HRN := Lib.hid (rowH_snoc ks hs' (l.take q) l[q] p)
                  rw [← HTN] at HRN
                  have HIX2 := HIX.out _ hxh0
                  clear hcl d0 d1 d2 HTN hxh0
                  generalize l[q] = x at *
                  obtain ⟨xp, xh, xs⟩ := x
                  obtain ⟨hx0, hx1, hx2, hx3⟩ := hx
                  simp only at m0 m1 m2 hx0 hx1 hsc hxp0 HRN HIX2
                  obtain ⟨hs0, hs1⟩ := hsc
                  have r0 : (0 : Int) ≤ (q : Int) := by omega
                  have r1 : (q : Int) < (n : Int) := by omega
                  have Q1 := Lib.hid (HQ.out.alloc hzq (.cells #[.string xp, .string xh, .int .i64 xs] 57))
                  obtain ⟨b, hb⟩ : ∃ b, eqB xh kp = b := ⟨_, rfl⟩
                  cases b
                  · have HR2 := Lib.hid (show rowH ks hs' (l.take (q + 1)) p = rowH ks hs' (l.take q) p by rw [HRN.out, if_neg (fun e => by rw [HIX2.1 e] at hb; cases hb)])
                    have e1 : (xh.toList == kp.toList) = false := hb
                    have e2 : ¬ xh.toList = kp.toList := by simpa using e1
                    have e3 : ¬ kp.toList = xh.toList := fun e => e2 e.symm
                    clear hb HIX2 HRN HQ
                    go_wp2_with fail
                    go_roundw
                    case rel => exact ⟨q + 1, c2, t, by omega, by go_num, rfl, rfl, by omega, Lib.hid (by rw [HR2.out]; exact HT.out), Lib.hid (by rw [HR2.out]; exact HC.out), Q1⟩
                    case measure => simp [intOf]; omega
                  · have HR2 := Lib.hid (show rowH ks hs' (l.take (q + 1)) p = rowH ks hs' (l.take q) p ++ [(idx ks xp, xs)] by rw [HRN.out, if_pos (HIX2.2 hb)])
                    obtain ⟨hi, he⟩ := idx_at hxp0
                    have hgv := HFV2.out _ hi
                    rw [he] at hgv
                    have hgb := (HBD.out (k + 1)).1 (idx ks xp)
                    push_cast at hgb
                    rw [← hgv] at hgb
                    have HR3 := Lib.hid (show resS (rowH ks hs' (l.take (q + 1)) p) (bal ks hs' l (k + 1)).1 = t + (1000000 * xs - f' xp) by rw [HR2.out, resS_snoc, HT.out, hgv])
                    have HR4 := Lib.hid (show (rowH ks hs' (l.take (q + 1)) p).length = c2 + 1 by rw [HR2.out, List.length_append, HC.out]; rfl)
                    obtain ⟨D, hown, hat⟩ := FP.out.below Q1.out
                    have HO := Lib.hid hown
                    have hat2 := hat xp
                    obtain ⟨y, hy⟩ : ∃ y, f' xp = y := ⟨_, rfl⟩
                    rw [hy] at hgb HR3 hat2
                    have HAT := Lib.hid hat2
                    obtain ⟨hy0, hy1⟩ := hgb
                    have hy2 : -3000000000 ≤ y := by omega
                    have hy3 : y ≤ 3000000000 := by omega
                    obtain rfl := (eqB_iff _ _).1 hb
                    have HKEY := Lib.hid (show keyOf Tryd.prog 9 (.string xp) = some (.string xp.data.toList) from Go.WideMaps.keyOf_string_mk Tryd.underlying9 (by unfold maxLen; omega))
                    clear hb HIX2 HRN HQ HR2 hi he hgv hy hown hat hat2 hy0 hy1
                    go_wp2_with (at_lookup; refine wpList_lookup_own_int _ rfl _ _ 50 rfl 9 3 .i64 keyLaw Tryd.underlying50 Tryd.underlying3 (zeroI _) w.heap.size cf D rfl HO.out (.string xp) _ rfl HKEY.out ?_; intro c' hat hwc; (rw [HAT.out] at hat); obtain rfl := (Lit.int.inj (DataW.lit.inj hat)).2; clear hat hwc)
                    go_roundw
                    case rel => exact ⟨q + 1, c2 + 1, t + 1000000 * xs - y, by omega, by go_num, rfl, by go_num, by omega, Lib.hid (by rw [HR3.out]; omega), HR4, Q1⟩
                    case measure => simp [intOf]; omega
                · obtain rfl : n = q := by omega
                  have hlen : l.take n = l := List.take_of_length_le (by rw [HN.out]; exact Nat.le_refl _)
                  rw [hlen] at HT HC
                  have hpo := HPO.out
                  rw [HC.out] at hpo
                  have hy0 := (HBD.out (k + 1)).2 p
                  have HY := Lib.hid (show t / (c2 : Int) = (bal ks hs' l (k + 1)).2 p by
                    rw [HBB.out]; unfold resI; rw [HT.out, HC.out, if_neg (by omega)])
                  obtain ⟨y, hy⟩ : ∃ y, (bal ks hs' l (k + 1)).2 p = y := ⟨_, rfl⟩
                  rw [hy] at HUP hy0 HY
                  obtain ⟨hy1, hy2⟩ := hy0
                  push_cast at hy1 hy2
                  have hy3 : -3000000000 ≤ y := by omega
                  have hy4 : y ≤ 3000000000 := by omega
                  have HFL := Lib.hid (fun W => floored_walk t c2 W (by omega) (by omega) (by omega) (by omega))
                  obtain ⟨D, hown, hat⟩ := HG.out.below HQ.out
                  have HO := Lib.hid hown
                  have HPUT := Lib.hid (fun (w' : World) => mf_put (w' := w') (s := kp) (y := y) hown hat)
                  have HKEY := Lib.hid (show keyOf Tryd.prog 9 (.string kp) = some (.string kp.data.toList) from Go.WideMaps.keyOf_string_mk Tryd.underlying9 (by have := HKS.out; unfold maxLen; omega))
                  have BQ := Lib.hid (HGR.out.trans (Gr.below HQ.out))
                  have hzq2 : w.heap.size + 1 < wr.heap.size := by omega
                  clear hlen HT HC hpo hy hy1 hy2 hown hat HQ HG
                  go_wp2_with fail
                  refine (HFL.out _).mono ?_; rintro e w4 ⟨rfl, rfl⟩
                  rw [HY.out]
                  go_wp2_with (at_mapUpdate; refine wpList_mapUpdate_own _ rfl _ _ _ 50 rfl 9 3 keyLaw Tryd.underlying50 _ (w.heap.size + 1) c _ rfl HO.out (by unfold maxLen; omega) _ _ _ rfl rfl HKEY.out _ [] (plainElem_int Tryd.underlying3 (WalkArith.wf_i64 (by omega))) ?_; intro w5 hown5 hgrow5; (have O5 := Lib.hid (HPUT.out _ hown5)); (have G5 := Lib.hid (show Gr (w.heap.size + 1) w2 w5 from BQ.out.trans hgrow5)); clear hown5 hgrow5)
                  go_roundw
                  case rel => exact ⟨p + 1, c + 1, _, by omega, by go_num, by omega, O5, HUP, G5⟩
                  case measure => simp [intOf]; omega
            · obtain rfl : nh = p := by omega
              have HGV2 := Lib.hid (show ∀ (i : Nat) (h : i < hs'.length), g' hs'[i] = (bal ks hs' l (k + 1)).2 i from fun i h => HGV.out i (by rw [← HNH.out]; exact h) h)
              go_wp2_with fail
              go_roundw
              case rel => exact ⟨k + 1, cf, c, f', g', by omega, by go_num, by omega, by omega, FP, HG, HFV2, HGV2, BP⟩
              case measure => simp [intOf]; omega
    · obtain rfl : r = k := by omega
      obtain ⟨i0, hi0, hz0, hz1', hz2'⟩ := info_parts infoLv
      have HI := Lib.hid hi0
      have Z0 := Lib.hid hz0
      have Z1 := Lib.hid hz1'
      have Z2 := Lib.hid hz2'
      clear hi0 hz0 hz1' hz2'
      go_wp2_with fail
      refine (HRP.out _ (HM.out.below HB.out)).mono ?_; rintro e w1 ⟨A1, c1, rfl, hs1, hb1⟩
      rw [HNP.out]
      have F1 := Lib.hid (HF.out.below hb1)
      have G1 := Lib.hid (HG.out.below hb1)
      have B1 := Lib.hid (HB.out.trans (hb1.mono HB.out.size))
      have S1 := Lib.hid hs1
      have hz1 := B1.out.size
      clear HF HG HB hs1 hb1
      go_wp2_with fail
      go_loopw [4, 109] (fun o i wr => ∃ (p : Nat) (Ao : Option Addr) (c2 : Nat), p ≤ np ∧ i = .int .i64 p ∧ o = .slice Ao p c2 ∧ Hid (wr.ownsRow w1.heap.size 39 2 (.slice Ao p c2) p (flatV ((lvs ks (bal ks hs' l r).1).take p))) ∧ Hid (Below w1.heap.size w1 wr)) (fun _ i _ => np - (intOf i).toNat)
      case atStart => exact ⟨0, none, 0, Nat.zero_le _, rfl, rfl, Lib.hid (World.ownsRow_nil _ _ _ _), Lib.hid (Below.refl _ _)⟩
      case round =>
        obtain ⟨p, Ao, c2, hp, rfl, rfl, HO, HQ⟩ := hrel
        have hzq := HQ.out.size
        by_cases hplt : p < np
        · have hpl : p < ks.length := by rw [HNP.out]; exact hplt
          obtain ⟨ga, hA1, hga, hca⟩ := S1.out.2 (by omega)
          subst hA1
          have c0 := (HQ.out.cell (p := ⟨ga, p, none⟩) hga).trans (hca p hpl)
          have HKS := Lib.hid (S1.out.1 _ (List.getElem_mem hpl))
          have HNX := Lib.hid (flatV_next (f := (bal ks hs' l r).1) hpl)
          have hfv := HFV.out p hpl
          obtain ⟨D, hown, hat⟩ := F1.out.below HQ.out
          have hat2 := hat ks[p]
          obtain ⟨kp, he⟩ : ∃ kp, ks[p] = kp := ⟨_, rfl⟩
          rw [he] at c0 HKS HNX hfv hat2
          rw [hfv] at hat2
          obtain ⟨y, hy⟩ : ∃ y, (bal ks hs' l r).1 p = y := ⟨_, rfl⟩
          rw [hy] at HNX hat2
          have HMO := Lib.hid hown
          have HAT := Lib.hid hat2
          have HKEY := Lib.hid (show keyOf Tryd.prog 9 (.string kp) = some (.string kp.data.toList) from Go.WideMaps.keyOf_string_mk Tryd.underlying9 (by have := HKS.out; unfold maxLen; omega))
          clear hca hfv hown hat hat2 he hy
          have q0 : (0 : Int) ≤ (p : Int) := by omega
          have q1 : (p : Int) < (np : Int) := by omega
          go_wp2_with (first
            | (at_lookup; refine wpList_lookup_own_int _ rfl _ _ 50 rfl 9 3 .i64 keyLaw Tryd.underlying50 Tryd.underlying3 (zeroI _) w.heap.size cw D rfl HMO.out (.string kp) _ rfl HKEY.out ?_; intro c' hat hwc; (rw [HAT.out] at hat); obtain rfl := (Lit.int.inj (DataW.lit.inj hat)).2; clear hat hwc)
            | (at_builtin; (refine wpList_append_lies _ rfl _ _ _ rfl w1.heap.size 39 i0 _ 2 24 Tryd.underlying29 HI.out Z0.out Z1.out Z2.out rfl (by omega) (.slice Ao p c2) p (flatV ((lvs ks (bal ks hs' l r).1).take p)) rfl (HO.out.alloc _) ⟨wr.heap.size, 0, none⟩ 1 1 [.string kp, .int .i64 y] rfl rfl (World.news_of_block (cs := #[.string kp, .int .i64 y]) (t := 39) (fr := (0, 0)) (new_at (by simp))) (by simp [Value.oneCell']) (by omega) (by unfold maxLen; omega) (by omega) (by simp; omega) (wr.heap.size + 1) (by simp) ?_); intro gg cap' w5 hown hgrow hat hgl; (have O5 := Lib.hid (show w5.ownsRow w1.heap.size 39 2 (.slice (some ⟨gg, 0, none⟩) (p + 1) cap') (p + 1) (flatV ((lvs ks (bal ks hs' l r).1).take (p + 1))) by rw [HNX.out]; exact hown)); (have Q5 := Lib.hid ((HQ.out.alloc hzq (.cells #[.string kp, .int .i64 y] 39)).trans (grownB hgrow (fun g e => (HO.out.lt g e).1) (by simp; omega)))); clear hown hgrow hat))
          go_roundw
          case rel => exact ⟨p + 1, _, _, by omega, by go_num, rfl, O5, Q5⟩
          case measure => simp [intOf]; omega
        · obtain rfl : np = p := by omega
          have hO := HO.out
          rw [List.take_of_length_le (by rw [lvs_len, HNP.out]; exact Nat.le_refl _)] at hO
          have LA := Lib.hid (row_lv hO (by rw [lvs_len, HNP.out]))
          have B2 := Lib.hid (B1.out.trans (HQ.out.mono hz1))
          have G2 := Lib.hid (G1.out.below HQ.out)
          clear hO HO HQ G1 F1 B1 S1 HFV hzq
          go_wp2_with fail
          refine (HRH.out _ (HM.out.below B2.out)).mono ?_; rintro e w3 ⟨A3, c3, rfl, hs3, hb3⟩
          rw [HNH.out]
          have G3 := Lib.hid (G2.out.below hb3)
          have L3 := Lib.hid (LA.out.below hb3)
          have B3 := Lib.hid (B2.out.trans (hb3.mono B2.out.size))
          have S3 := Lib.hid hs3
          have hz3 := B3.out.size
          obtain ⟨cP, rfl⟩ : ∃ cP, cP = c2 := ⟨c2, rfl⟩
          obtain ⟨AP, rfl⟩ : ∃ AP, AP = Ao := ⟨Ao, rfl⟩
          clear G2 LA B2 hs3 hb3
          go_wp2_with fail
          go_loopw [5, 125] (fun o i wr => ∃ (p : Nat) (Ao : Option Addr) (c2 : Nat), p ≤ nh ∧ i = .int .i64 p ∧ o = .slice Ao p c2 ∧ Hid (wr.ownsRow w3.heap.size 39 2 (.slice Ao p c2) p (flatV ((lvs hs' (bal ks hs' l r).2).take p))) ∧ Hid (Below w3.heap.size w3 wr)) (fun _ i _ => nh - (intOf i).toNat)
          case atStart => exact ⟨0, none, 0, Nat.zero_le _, rfl, rfl, Lib.hid (World.ownsRow_nil _ _ _ _), Lib.hid (Below.refl _ _)⟩
          case round =>
            obtain ⟨p, Ao, c2, hp, rfl, rfl, HO, HQ⟩ := hrel
            have hzq := HQ.out.size
            by_cases hplt : p < nh
            · have hpl : p < hs'.length := by rw [HNH.out]; exact hplt
              obtain ⟨ga, hA3, hga, hca⟩ := S3.out.2 (by omega)
              subst hA3
              have c0 := (HQ.out.cell (p := ⟨ga, p, none⟩) hga).trans (hca p hpl)
              have HKS := Lib.hid (S3.out.1 _ (List.getElem_mem hpl))
              have HNX := Lib.hid (flatV_next (f := (bal ks hs' l r).2) hpl)
              have hfv := HGV.out p hpl
              obtain ⟨D, hown, hat⟩ := G3.out.below HQ.out
              have hat2 := hat hs'[p]
              obtain ⟨kp, he⟩ : ∃ kp, hs'[p] = kp := ⟨_, rfl⟩
              rw [he] at c0 HKS HNX hfv hat2
              rw [hfv] at hat2
              obtain ⟨y, hy⟩ : ∃ y, (bal ks hs' l r).2 p = y := ⟨_, rfl⟩
              rw [hy] at HNX hat2
              have HMO := Lib.hid hown
              have HAT := Lib.hid hat2
              have HKEY := Lib.hid (show keyOf Tryd.prog 9 (.string kp) = some (.string kp.data.toList) from Go.WideMaps.keyOf_string_mk Tryd.underlying9 (by have := HKS.out; unfold maxLen; omega))
              clear hca hfv hown hat hat2 he hy
              have q0 : (0 : Int) ≤ (p : Int) := by omega
              have q1 : (p : Int) < (nh : Int) := by omega
              go_wp2_with (first
                | (at_lookup; refine wpList_lookup_own_int _ rfl _ _ 50 rfl 9 3 .i64 keyLaw Tryd.underlying50 Tryd.underlying3 (zeroI _) (w.heap.size + 1) cb D rfl HMO.out (.string kp) _ rfl HKEY.out ?_; intro c' hat hwc; (rw [HAT.out] at hat); obtain rfl := (Lit.int.inj (DataW.lit.inj hat)).2; clear hat hwc)
                | (at_builtin; (refine wpList_append_lies _ rfl _ _ _ rfl w3.heap.size 39 i0 _ 2 24 Tryd.underlying29 HI.out Z0.out Z1.out Z2.out rfl (by omega) (.slice Ao p c2) p (flatV ((lvs hs' (bal ks hs' l r).2).take p)) rfl (HO.out.alloc _) ⟨wr.heap.size, 0, none⟩ 1 1 [.string kp, .int .i64 y] rfl rfl (World.news_of_block (cs := #[.string kp, .int .i64 y]) (t := 39) (fr := (0, 0)) (new_at (by simp))) (by simp [Value.oneCell']) (by omega) (by unfold maxLen; omega) (by omega) (by simp; omega) (wr.heap.size + 1) (by simp) ?_); intro gg cap' w5 hown hgrow hat hgl; (have O5 := Lib.hid (show w5.ownsRow w3.heap.size 39 2 (.slice (some ⟨gg, 0, none⟩) (p + 1) cap') (p + 1) (flatV ((lvs hs' (bal ks hs' l r).2).take (p + 1))) by rw [HNX.out]; exact hown)); (have Q5 := Lib.hid ((HQ.out.alloc hzq (.cells #[.string kp, .int .i64 y] 39)).trans (grownB hgrow (fun g e => (HO.out.lt g e).1) (by simp; omega)))); clear hown hgrow hat))
              go_roundw
              case rel => exact ⟨p + 1, _, _, by omega, by go_num, rfl, O5, Q5⟩
              case measure => simp [intOf]; omega
            · obtain rfl : nh = p := by omega
              have hO := HO.out
              rw [List.take_of_length_le (by rw [lvs_len, HNH.out]; exact Nat.le_refl _)] at hO
              have LB := Lib.hid (row_lv hO (by rw [lvs_len, HNH.out]))
              clear hO HO
              go_wp2_with fail
              go_ret2
              exact ⟨AP, Ao, cP, c2, rfl, L3.out.below HQ.out, LB.out, B3.out.trans (HQ.out.mono hz3)⟩
end Go.Proofs.YthhiefpickpiaabDoor.Cal
