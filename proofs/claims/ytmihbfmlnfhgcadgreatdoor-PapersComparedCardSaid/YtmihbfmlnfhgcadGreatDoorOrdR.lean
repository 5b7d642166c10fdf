/-
  THE ORDER OF PAPERS: the reference's crit, sign and OrderOf (committeeref2).
-/
import Derived.Test.YtmihbfmlnfhgcadGreatDoorOrdC
import Derived.Test.YtmihbfmlnfhgcadGreatDoorDecF
import Derived.Test.YtmihbfmlnfhgcadGreatDoorCmpS
namespace Go.Proofs.YtmihbfmlnfhgcadGreatDoor.Cal
open Go.Shelf
open Go.ChangeShapes Go.WideShapes Go.ChangeAt Go.RowKit Stm Key
set_option linter.unusedVariables false

theorem sign_any (z : Int) (w : World) (r : Int) (hr : sgn z = r) : Calls Tryz.prog 34 #[.int .i64 z] w fun e w' => e = .returned (.int .i64 r) ∧ w' = w := by
  unfold sgn at hr
  by_cases h : z < 0
  · rw [if_pos h] at hr
    have HR := Lib.hid hr
    have e1 : decide (z < 0) = true := by simpa using h
    clear hr
    go_enter Tryz.func34, Tryz.ntmps34
    go_wp2_with fail
    go_ret
    exact ⟨Stm.ret_int HR.out, rfl⟩
  · rw [if_neg h] at hr
    have e1 : decide (z < 0) = false := by simpa using h
    by_cases h2 : 0 < z
    · rw [if_pos h2] at hr
      have HR := Lib.hid hr
      have e2 : decide (z > 0) = true := by simpa using h2
      clear hr
      go_enter Tryz.func34, Tryz.ntmps34
      go_wp2_with fail
      go_ret
      exact ⟨Stm.ret_int HR.out, rfl⟩
    · rw [if_neg h2] at hr
      have HR := Lib.hid hr
      have e2 : decide (z > 0) = false := by simpa using h2
      clear hr
      go_enter Tryz.func34, Tryz.ntmps34
      go_wp2_with fail
      go_ret
      exact ⟨Stm.ret_int HR.out, rfl⟩
theorem oth_srt {xs : List Int} (h : ∀ x ∈ xs, 0 ≤ x ∧ x ≤ 10) : oth xs 11 = srtI xs :=
  perm_sorted ((oth_all h).trans (srtI_perm xs).symm) (oth_sorted xs 11) (srtI_sorted xs)
theorem blk_fracR {w : World} {B : Nat} (h : Blk w B 71 #[.int .i64 0, .int .i64 0]) : w.frozen? ⟨B, 0, none⟩ = false ∧ w.frozen? ⟨B, 1, none⟩ = false ∧ w.cell? ⟨B, 0, none⟩ = some (.int .i64 0) ∧ w.cell? ⟨B, 1, none⟩ = some (.int .i64 0) :=
  ⟨h.frozen 0, h.frozen 1, h.cell 0 _ rfl, h.cell 1 _ rfl⟩
set_option maxRecDepth 100000 in
set_option maxHeartbeats 4000000 in
theorem crit_walk (k : Int) (A : Option Addr) (n cap : Nat) (l : List Mk) (p : ByteArray) (w : World) (hn : l.length = n) (hn2 : n ≤ 256) (hM : ML w A l) (hok : ∀ x ∈ l, 0 ≤ x.s ∧ x.s ≤ 10) (v : Int × Int) (hv : frR k (srtI (scB l p)) = v) :
    Calls Tryz.prog 33 #[.int .i64 k, .slice A n cap, .string p] w fun e w' => e = .returned (.agg #[.int .i64 v.1, .int .i64 v.2]) ∧ Below w.heap.size w w' := by
  have B0 := Lib.hid ((Below.refl w.heap.size w).alloc (Nat.le_refl _) (.cells #[.int .i64 0, .int .i64 0] 71))
  have X0 := Lib.hid (Blk.new w 71 #[.int .i64 0, .int .i64 0])
  have HSO := Lib.hid (scores2_walk A n cap l p (w.alloc (.cells #[.int .i64 0, .int .i64 0] 71)) hn hn2 (hM.below B0.out) hok)
  have hlen : (srtI (scB l p)).length ≤ 256 := by rw [(srtI_perm _).length_eq]; exact Nat.le_trans (scB_len l p) (by rw [hn]; exact hn2)
  rw [oth_srt (scB_mem hok p)] at HSO
  obtain ⟨s, hs⟩ : ∃ s, srtI (scB l p) = s := ⟨_, rfl⟩
  rw [hs] at hv HSO hlen
  obtain ⟨m, hm⟩ : ∃ m, s.length = m := ⟨_, rfl⟩
  rw [hm] at hlen
  have HS := Lib.hid hm
  have HV := Lib.hid hv
  have FIN : Hid (∀ (W' : World) (a b : Int), Below w.heap.size w W' → Below w.heap.size w ((W'.setCell ⟨w.heap.size, 0, none⟩ (.int .i64 a)).setCell ⟨w.heap.size, 1, none⟩ (.int .i64 b))) := Lib.hid (fun W' a b h => (h.setCell (p := ⟨w.heap.size, 0, none⟩) (Nat.le_refl _) _).setCell (p := ⟨w.heap.size, 1, none⟩) (Nat.le_refl _) _)
  clear hn hn2 hM hok hv hs hm
  go_enter Tryz.func33, Tryz.ntmps33
  go_wp2_with fail
  refine (HSO.out).mono ?_; rintro e w1 ⟨A1, c1, rfl, hI, hb1⟩
  rw [HS.out]
  have I1 := Lib.hid hI
  have B1 := Lib.hid (B0.out.trans (hb1.mono B0.out.size))
  have X1 := Lib.hid (X0.out.below hb1 X0.out.lt)
  obtain ⟨f0, f1, q0, q1⟩ := blk_fracR X1.out
  have hlw := X1.out.lt
  clear hI hb1 HSO B0 X0
  by_cases h4 : k = 4
  · subst h4
    have HE := Lib.hid (show ((m : Int), (1 : Int)) = v by rw [← HV.out, ← HS.out]; rfl)
    go_wp2_with fail
    exact bodyPost_ret (v := .agg #[.int .i64 m, .int .i64 1]) (by simp only [results, Tryz.results33]; go_simp) rfl ⟨by rw [← HE.out], FIN.out _ _ _ B1.out⟩
  have e4 : (k == 4) = false := by simpa using h4
  by_cases h0 : m = 0
  · subst h0
    have HE := Lib.hid (show ((-1 : Int), (1 : Int)) = v by rw [← HV.out]; unfold frR; rw [if_neg h4, if_pos HS.out])
    clear h4
    go_wp2_with fail
    exact bodyPost_ret (v := .agg #[.int .i64 (-1), .int .i64 1]) (by simp only [results, Tryz.results33]; go_simp) rfl ⟨by rw [← HE.out], FIN.out _ _ _ B1.out⟩
  have e0 : ((m : Int) == 0) = false := by simp; omega
  have HV2 := Lib.hid (show (if k = 1 then (sumI s, (m : Int)) else if k = 2 then (s[0]?.getD 0, 1) else if k = 3 then (s[m - 1]?.getD 0, 1) else (s[(m - 1) / 2]?.getD 0, 1)) = v by
    rw [← HV.out]; unfold frR; rw [if_neg h4, if_neg (show ¬ s.length = 0 by rw [HS.out]; exact h0), HS.out])
  obtain ⟨b, hA, hbl, hcl⟩ := I1.out.2 (by rw [HS.out]; omega)
  subst hA
  have HCL := Lib.hid hcl
  have hm0 : 0 < m := by omega
  clear hcl h4 h0
  by_cases h1 : k = 1
  · subst h1
    have HE := Lib.hid (show (sumI s, (m : Int)) = v by have := HV2.out; rwa [if_pos rfl] at this)
    have HTO := Lib.hid (total2_walk (some ⟨b, 0, none⟩) m c1 s w1 HS.out (by omega) I1.out)
    obtain ⟨u, hu⟩ : ∃ u, sumI s = u := ⟨_, rfl⟩
    rw [hu] at HTO HE
    clear hu
    go_wp2_with fail
    refine (HTO.out).mono ?_; rintro e w2 ⟨rfl, rfl⟩
    go_wp2_with fail
    exact bodyPost_ret (v := .agg #[.int .i64 u, .int .i64 m]) (by simp only [results, Tryz.results33]; go_simp) rfl ⟨by rw [← HE.out], FIN.out _ _ _ B1.out⟩
  have e1 : (k == 1) = false := by simpa using h1
  by_cases h2 : k = 2
  · subst h2
    have hl : 0 < s.length := by rw [HS.out]; exact hm0
    have c0 := HCL.out 0 hl
    have HE := Lib.hid (show (s[0], (1 : Int)) = v by have := HV2.out; rw [if_neg (by decide), if_pos rfl] at this; simpa [hl] using this)
    generalize s[0] = z at *
    have a1 : (0 : Int) < (m : Int) := by omega
    clear h1
    go_wp2_with fail
    exact bodyPost_ret (v := .agg #[.int .i64 z, .int .i64 1]) (by simp only [results, Tryz.results33]; go_simp) rfl ⟨by rw [← HE.out], FIN.out _ _ _ B1.out⟩
  have e2 : (k == 2) = false := by simpa using h2
  by_cases h3 : k = 3
  · subst h3
    have hl : m - 1 < s.length := by rw [HS.out]; omega
    have c0 := HCL.out (m - 1) hl
    have HE := Lib.hid (show (s[m - 1], (1 : Int)) = v by have := HV2.out; rw [if_neg (by decide), if_neg (by decide), if_pos rfl] at this; rw [List.getElem?_eq_getElem hl] at this; exact this)
    generalize s[m - 1] = z at *
    obtain ⟨j, rfl⟩ : ∃ j, m = j + 1 := ⟨m - 1, by omega⟩
    have c1 : w1.cell? ⟨b, j, none⟩ = some (.int .i64 z) := c0
    have hw : IntKind.i64.wrap (((j + 1 : Nat) : Int) - 1) = (j : Int) := by rw [IntWalk.i64_in _ (by omega)]; omega
    have a0 : (0 : Int) ≤ (j : Int) := by omega
    clear c0 h1 h2
    go_wp2_with fail
    exact bodyPost_ret (v := .agg #[.int .i64 z, .int .i64 1]) (by simp only [results, Tryz.results33]; go_simp) rfl ⟨by rw [← HE.out], FIN.out _ _ _ B1.out⟩
  have e3 : (k == 3) = false := by simpa using h3
  have hl : (m - 1) / 2 < s.length := by rw [HS.out]; omega
  have c0 := HCL.out ((m - 1) / 2) hl
  have HE := Lib.hid (show (s[(m - 1) / 2], (1 : Int)) = v by have := HV2.out; rw [if_neg h1, if_neg h2, if_neg h3] at this; rw [List.getElem?_eq_getElem hl] at this; exact this)
  generalize s[(m - 1) / 2] = z at *
  have hw : IntKind.i64.wrap ((m : Int) - 1) = ((m - 1 : Nat) : Int) := by rw [IntWalk.i64_in _ (by omega)]; omega
  clear h1 h2 h3
  obtain ⟨j, hj⟩ : ∃ j, m - 1 = j := ⟨_, rfl⟩
  rw [hj] at c0 hw
  have hjm : j < m := by omega
  have hjm2 : j / 2 < m := by omega
  have a0 : (0 : Int) ≤ (j : Int) / 2 := by omega
  clear hj hl
  go_wp2_with fail
  exact bodyPost_ret (v := .agg #[.int .i64 z, .int .i64 1]) (by simp only [results, Tryz.results33]; go_simp) rfl ⟨by rw [← HE.out], FIN.out _ _ _ B1.out⟩
theorem frR_mul {x y : Int × Int} (hx : -1 ≤ x.1 ∧ x.1 ≤ 2560 ∧ 1 ≤ x.2 ∧ x.2 ≤ 256) (hy : -1 ≤ y.1 ∧ y.1 ≤ 2560 ∧ 1 ≤ y.2 ∧ y.2 ≤ 256) : -256 ≤ x.1 * y.2 ∧ x.1 * y.2 ≤ 655360 := by
  obtain ⟨h1, h2, h3, h4⟩ := hx
  obtain ⟨k1, k2, k3, k4⟩ := hy
  have a := Int.mul_le_mul_of_nonneg_right h2 (show 0 ≤ y.2 by omega)
  have b := Int.mul_le_mul_of_nonneg_right h1 (show 0 ≤ y.2 by omega)
  omega
theorem sgn_ne {z : Int} : sgn z ≠ 0 ↔ z ≠ 0 := by
  unfold sgn
  constructor
  · intro h e; subst e; simp at h
  · intro h; split
    · decide
    · split
      · decide
      · omega
set_option maxRecDepth 100000 in
set_option maxHeartbeats 4000000 in
theorem orderof_walk (A : Option Addr) (n c : Nat) (zs : List Int) (f : Int) (Am : Option Addr) (nm cm : Nat) (l : List Mk) (ia ib : ByteArray) (w : World) (hn : zs.length = n) (hn2 : n ≤ 1000) (hI : IL w A zs) (hl : l.length = nm) (hnm : nm ≤ 256) (hM : ML w Am l) (hok : ∀ x ∈ l, 0 ≤ x.s ∧ x.s ≤ 10)
    (r : Int) (hr : Hid (ordK frR (srtI (scB l ia)) (srtI (scB l ib)) (Lib.compareBytes ia.data.toList ib.data.toList) zs = r)) :
    Calls Tryz.prog 14 #[.agg #[.slice A n c, .int .i64 f], .slice Am nm cm, .string ia, .string ib] w fun e w' => e = .returned (.int .i64 r) ∧ Below w.heap.size w w' := by
  have HN := Lib.hid hn
  have HL := Lib.hid hl
  have B0 := Lib.hid ((Below.refl w.heap.size w).alloc (Nat.le_refl _) (.cells #[.slice A n c, .int .i64 f] 27))
  have X0 := Lib.hid (Blk.new w 27 #[.slice A n c, .int .i64 f])
  have I0 := Lib.hid (hI.below B0.out)
  have M0 := Lib.hid (hM.below B0.out)
  have HOK := Lib.hid hok
  have hla : (srtI (scB l ia)).length ≤ 256 := by rw [(srtI_perm _).length_eq]; exact Nat.le_trans (scB_len l ia) (by rw [hl]; exact hnm)
  have hlb : (srtI (scB l ib)).length ≤ 256 := by rw [(srtI_perm _).length_eq]; exact Nat.le_trans (scB_len l ib) (by rw [hl]; exact hnm)
  have hma : ∀ x ∈ srtI (scB l ia), 0 ≤ x ∧ x ≤ 10 := fun x hx => scB_mem hok ia x ((srtI_perm _).mem_iff.1 hx)
  have hmb : ∀ x ∈ srtI (scB l ib), 0 ≤ x ∧ x ≤ 10 := fun x hx => scB_mem hok ib x ((srtI_perm _).mem_iff.1 hx)
  have HCA := Lib.hid (fun (k : Int) W (h : ML W Am l) => crit_walk k Am nm cm l ia W hl hnm h hok _ rfl)
  have HCB := Lib.hid (fun (k : Int) W (h : ML W Am l) => crit_walk k Am nm cm l ib W hl hnm h hok _ rfl)
  have HFA := Lib.hid (fun k => frR_bd hma hla k)
  have HFB := Lib.hid (fun k => frR_bd hmb hlb k)
  have hr0 := hr.out
  obtain ⟨t, ht⟩ : ∃ t, Lib.compareBytes ia.data.toList ib.data.toList = t := ⟨_, rfl⟩
  rw [ht] at hr0
  obtain ⟨sa, hsa⟩ : ∃ sa, srtI (scB l ia) = sa := ⟨_, rfl⟩
  obtain ⟨sb, hsb⟩ : ∃ sb, srtI (scB l ib) = sb := ⟨_, rfl⟩
  rw [hsa] at hr0 HCA HFA
  rw [hsb] at hr0 HCB HFB
  have HT0 := Lib.hid (show ordK frR sa sb t (zs.drop 0) = r from hr0)
  have HSC := Lib.hid (fun W => show Calls Tryz.prog 35 #[.string ia, .string ib] W fun e w' => e = .returned (.int .i64 t) ∧ w' = W from by have h := Any.strings_Compare Tryz.lays106 ia ib W; rw [ht] at h; exact h)
  clear hn hl hI hM hok hla hlb hma hmb hr hr0 ht hsa hsb
  go_enter Tryz.func14, Tryz.ntmps14
  go_upto_region 1 with fail
  generalize hwa : w.alloc (.cells #[.slice A n c, .int .i64 f] 27) = wa at *
  clear hwa
  have x0 := X0.out.cell 0 _ rfl
  have x2 := X0.out.lt
  have hz0 := B0.out.size
  go_wp2_with fail
  go_loopw [17] (fun i wr => ∃ k : Nat, k ≤ n ∧ i = .int .i64 k ∧ Hid (ordK frR sa sb t (zs.drop k) = r) ∧ Hid (Below wa.heap.size wa wr)) (fun i _ => n - (intOf i).toNat)
  case atStart => exact ⟨0, Nat.zero_le _, rfl, HT0, Lib.hid (Below.refl _ _)⟩
  case round =>
    clear HT0
    obtain ⟨k, hk, rfl, HT, HB⟩ := hrel
    by_cases hlt : k < n
    · have hkl : k < zs.length := by rw [HN.out]; exact hlt
      obtain ⟨b, hA, hbl, hcl⟩ := I0.out.2 (by omega)
      subst hA
      have c0 := (HB.out.cell (p := ⟨b, k, none⟩) hbl).trans (hcl k hkl)
      have HT2 := Lib.hid (show (if cmpF (frR zs[k] sb) (frR zs[k] sa) ≠ 0 then cmpF (frR zs[k] sb) (frR zs[k] sa) else ordK frR sa sb t (zs.drop (k + 1))) = r by
        rw [← HT.out, List.drop_eq_getElem_cons hkl]; rfl)
      generalize zs[k] = z at *
      have h1 := HFA.out z
      have h2 := HFB.out z
      have HA1 := Lib.hid (HCA.out z)
      have HB1 := Lib.hid (HCB.out z)
      obtain ⟨xv, hxv⟩ : ∃ xv, frR z sa = xv := ⟨_, rfl⟩
      obtain ⟨yv, hyv⟩ : ∃ yv, frR z sb = yv := ⟨_, rfl⟩
      rw [hxv] at h1 HT2 HA1
      rw [hyv] at h2 HT2 HB1
      have m1 := frR_mul h2 h1
      have m2 := frR_mul h1 h2
      obtain ⟨xa, xb⟩ := xv
      obtain ⟨ya, yb⟩ := yv
      simp only at m1 m2
      have HT3 := Lib.hid (show (if sgn (ya * xb - xa * yb) ≠ 0 then sgn (ya * xb - xa * yb) else ordK frR sa sb t (zs.drop (k + 1))) = r from HT2.out)
      have a0 : (0 : Int) ≤ (k : Int) := by omega
      have a1 : (k : Int) < (n : Int) := by omega
      obtain ⟨m10, m11⟩ := m1
      obtain ⟨m20, m21⟩ := m2
      clear hcl h1 h2 hxv hyv HT2 HT
      go_wp2_with fail
      refine (HA1.out wr (M0.out.below HB.out)).mono ?_; rintro e w1 ⟨rfl, hb1⟩
      have B1 := Lib.hid (HB.out.trans (hb1.mono HB.out.size))
      clear hb1 HA1
      go_wp2_with fail
      refine (HB1.out w1 (M0.out.below B1.out)).mono ?_; rintro e w2 ⟨rfl, hb2⟩
      have B2 := Lib.hid (B1.out.trans (hb2.mono B1.out.size))
      have B3 := Lib.hid ((B2.out.alloc B2.out.size (.cells #[.int .i64 xa, .int .i64 xb] 71)).alloc (by have := B2.out.size; simp; omega) (.cells #[.int .i64 ya, .int .i64 yb] 71))
      clear hb2 HB1 B1
      by_cases hq0 : ya * xb - xa * yb = 0
      · have HE := Lib.hid (show ordK frR sa sb t (zs.drop (k + 1)) = r by have := HT3.out; rw [hq0] at this; simpa [sgn] using this)
        have e1 : (ya * xb - xa * yb != 0) = false := by simpa using hq0
        clear hq0 HT3
        go_wp2_with fail
        go_roundw
        case rel => exact ⟨k + 1, by omega, by go_num, HE, B3⟩
        case measure => simp [intOf]; omega
      · have e1 : (ya * xb - xa * yb != 0) = true := by simpa using hq0
        have HE := Lib.hid (show sgn (ya * xb - xa * yb) = r by have := HT3.out; rwa [if_pos (sgn_ne.2 hq0)] at this)
        have HSG := Lib.hid (fun W => sign_any (ya * xb - xa * yb) W r HE.out)
        have BZ := Lib.hid (B0.out.trans (B3.out.mono hz0))
        clear hq0 HT3
        go_wp2_with fail
        refine (HSG.out _).mono ?_; rintro e w3 ⟨rfl, rfl⟩
        go_wp2_with fail
        go_ret
        exact ⟨rfl, BZ.out⟩
    · have hkn : k = n := by omega
      subst hkn
      have HE := Lib.hid (show t = r by rw [← HT.out, List.drop_eq_nil_of_le (by rw [HN.out]; exact Nat.le_refl _)]; rfl)
      have BZ := Lib.hid (B0.out.trans (HB.out.mono hz0))
      clear HT
      go_wp2_with fail
      refine (HSC.out _).mono ?_; rintro e w3 ⟨rfl, rfl⟩
      go_wp2_with fail
      go_ret
      exact ⟨Stm.ret_int HE.out, BZ.out⟩
end Go.Proofs.YtmihbfmlnfhgcadGreatDoor.Cal
