/-
  THE LAW MarksChecked.
-/
import Derived.Test.YtgajencgpceabaaGreatDoorMarksAny
import Derived.Test.YtgajencgpceabaaGreatDoorLaw
import Derived.Test.YtgajencgpceabaaGreatDoorEqual
import Derived.Test.YtgajencgpceabaaGreatDoorCalF
import Derived.Test.YtgajencgpceabaaGreatDoorCalK
import Derived.Test.YtgajencgpceabaaGreatDoorCalP
import Derived.Test.YtgajencgpceabaaGreatDoorCalX
import Derived.Test.YtgajencgpceabaaGreatDoorCalO2
import Derived.Test.YtgajencgpceabaaGreatDoorCalMm
import Derived.Test.YtgajencgpceabaaGreatDoorCalEq
import Derived.Deep.RegionHeld3
namespace Go.Proofs.YtgajencgpceabaaGreatDoor.Cal
open Go.Shelf
open Go.ChangeShapes Go.WideShapes Go.ChangeAt Go.RowKit Stm Key
set_option linter.unusedVariables false

/-- The answers of Mean, Median and Spread where the marks are right. -/
theorem mean0 {l : List Mk} {s : ByteArray} {w w' : World} {e : Ending} (h : MeanRet 0 l s w e w') : Below w.heap.size w w' ∧ ∃ x0 x1 g : Int, e = .returned (.tuple #[.agg #[.int .i64 x0, .int .i64 x1], .int .i64 g]) ∧ Hid ((s ∉ papersL l ∧ g = 8) ∨ (s ∈ papersL l ∧ g = 0 ∧ lowZ (sumI (scB l s)) ((scB l s).length : Int) = (x0, x1))) := by
  obtain ⟨hb, ⟨h0, _⟩ | ⟨_, hs, rfl⟩ | ⟨_, hs, rfl⟩⟩ := h
  · exact absurd rfl h0
  · exact ⟨hb, 0, 0, 8, rfl, Lib.hid (Or.inl ⟨hs, rfl⟩)⟩
  · exact ⟨hb, _, _, 0, rfl, Lib.hid (Or.inr ⟨hs, rfl, by rw [scB_eq hs]⟩)⟩
theorem med0 {l : List Mk} {s : ByteArray} {w w' : World} {e : Ending} (h : MedRet 0 l s w e w') : Below w.heap.size w w' ∧ ∃ x g : Int, e = .returned (.tuple #[.int .i64 x, .int .i64 g]) ∧ Hid ((s ∉ papersL l ∧ g = 8) ∨ (s ∈ papersL l ∧ g = 0 ∧ medI (scB l s) = x)) := by
  obtain ⟨hb, ⟨h0, _⟩ | ⟨_, hs, rfl⟩ | ⟨_, hs, rfl⟩⟩ := h
  · exact absurd rfl h0
  · exact ⟨hb, 0, 8, rfl, Lib.hid (Or.inl ⟨hs, rfl⟩)⟩
  · exact ⟨hb, _, 0, rfl, Lib.hid (Or.inr ⟨hs, rfl, by rw [scB_eq hs]⟩)⟩
theorem spr0 {l : List Mk} {s : ByteArray} {w w' : World} {e : Ending} (h : SpreadRet 0 l s w e w') : Below w.heap.size w w' ∧ ∃ x0 x1 g : Int, e = .returned (.tuple #[.agg #[.int .i64 x0, .int .i64 x1], .int .i64 g]) ∧ Hid ((s ∉ papersL l ∧ g = 8) ∨ (s ∈ papersL l ∧ g = 0 ∧ lowZ (difI (scB l s)) (2 * ((scB l s).length : Int) * ((scB l s).length : Int)) = (x0, x1))) := by
  obtain ⟨hb, ⟨h0, _⟩ | ⟨_, hs, rfl⟩ | ⟨_, hs, rfl⟩⟩ := h
  · exact absurd rfl h0
  · exact ⟨hb, 0, 0, 8, rfl, Lib.hid (Or.inl ⟨hs, rfl⟩)⟩
  · exact ⟨hb, _, _, 0, rfl, Lib.hid (Or.inr ⟨hs, rfl, by rw [scB_eq hs]⟩)⟩
/-- The marks that the law looks at. -/
def McJ (w : World) (v : Value) (wx : World) : Prop := ∃ (A : Option Addr) (n c : Nat) (l : List Mk), v = .slice A n c ∧ l.length = n ∧ n ≤ 256 ∧ ML wx A l ∧ ((A = none ∧ n = 0) ∨ ∃ g, A = some ⟨g, 0, none⟩) ∧ Below w.heap.size w wx
set_option maxRecDepth 100000 in
set_option maxHeartbeats 8000000 in
theorem law_markschecked (a0 : Option Addr) (len0 cap0 : Nat) (z0 : List Int) (w : World) (w0 : IsRow .i64 w a0 len0 cap0 z0) :
    Calls Tryz.prog 3 #[.slice a0 len0 cap0] w fun e w' => e = .returned (.bool true) ∧ Below w.heap.size w w' := by
  have SA := Lib.hid (strm_new w0)
  have G0 := Lib.hid (show Below w.heap.size w (w.alloc (.cells #[.slice a0 len0 cap0, .int .i64 0] 25)) from (Below.refl _ _).alloc (Nat.le_refl _) _)
  clear w0
  go_enter Tryz.func3, Tryz.ntmps3
  go_wp2_with fail
  refine (anymarks_any w.heap.size 0 _ SA.out (by omega)).mono ?_
  rintro e w1 ⟨A, n, c, l, rfl, hl, hn, hnc, hml, hat, hgr, hs⟩
  have G1 := Lib.hid (G0.out.trans (hgr.toBelow (Nat.le_refl _) (by simp)))
  have HL := Lib.hid hl
  have M1 := Lib.hid hml
  have HA := Lib.hid hat
  have S1 := Lib.hid hs
  have hz1 := G1.out.size
  clear hgr hs hl hml hat SA G0
  go_wp2_with fail
  refine (markpaper_any w.heap.size (0 + 602) _ S1.out (by omega)).mono ?_
  rintro e w2 ⟨p, hp, rfl, hgr, hs⟩
  have G2 := Lib.hid (G1.out.trans (hgr.toBelow (Nat.le_refl _) hz1))
  have M2 := Lib.hid (M1.out.gr (by rw [HL.out]; exact HA.out) hgr)
  have S2 := Lib.hid hs
  have hz2 := G2.out.size
  clear hgr hs M1 S1 G1 hz1
  go_wp2_with fail
  refine (flip_any w.heap.size (0 + 602 + 1) 10 _ S2.out (by omega) (by omega) (by omega)).mono ?_
  rintro e w3 ⟨r, rfl, ho, hs⟩
  have G3 := Lib.hid (G2.out.trans ((Gr.only ho).toBelow (Nat.le_refl _) hz2))
  have M3 := Lib.hid (M2.out.gr (by rw [HL.out]; exact HA.out) (Gr.only ho))
  have S3 := Lib.hid hs
  have hz3 := G3.out.size
  clear ho hs M2 S2 G2 hz2
  go_upto_if 25 with fail
  go_cut [4] (fun v wx => McJ w v wx)
  case first =>
    cases r
    · go_wp2_with fail
      go_meet
      case rel => exact ⟨A, n, c, l, rfl, HL.out, hn, M3.out, HA.out.imp id (fun ⟨g, e, _⟩ => ⟨g, e⟩), G3.out⟩
    · go_wp2_with fail
      refine (marks_any w.heap.size (0 + 602 + 1 + 1) 2 16 _ S3.out (by omega) (by omega) (by omega)).mono ?_
      rintro e w4 ⟨A2, n2, c2, l2, rfl, hl2, hn2, hnc2, hml2, hat2, hgr2, hs2⟩
      have HRES := Lib.hid (show McJ w (.slice A2 n2 c2) w4 from ⟨A2, n2, c2, l2, rfl, hl2, hn2, hml2, hat2.imp id (fun ⟨g, e, _⟩ => ⟨g, e⟩), G3.out.trans (hgr2.toBelow (Nat.le_refl _) hz3)⟩)
      clear hl2 hml2 hat2 hgr2 hs2
      go_wp2_with fail
      go_meet
      case rel => exact HRES.out
  case rest =>
    clear HL HA M3 S3 G3 hz3 hn hnc
    obtain ⟨A, n, c, l, rfl, hl, hn, hml, hat, hb⟩ := hcut
    have HL := Lib.hid hl
    have M0 := Lib.hid hml
    have GA := Lib.hid hb
    have HPT := Lib.hid hat
    have hz0 := hb.size
    clear hl hml hat hb
    obtain ⟨r, hr⟩ : ∃ r, chkE ⟨#[]⟩ ⟨#[]⟩ 0 l = r := ⟨_, rfl⟩
    have HR := Lib.hid hr
    have HRE := Lib.hid (show refE [] none l = r by rw [marks_same, hr])
    clear hr
    go_wp2_with fail
    refine (marksfault_walk A n c l wc HL.out (by omega) M0.out r HRE).mono ?_; rintro e wd ⟨rfl, hb⟩
    have GD := Lib.hid (GA.out.trans (hb.mono hz0))
    have MD := Lib.hid (M0.out.below hb)
    have hzD := GD.out.size
    clear hb M0 GA hz0
    have ern : (r != r) = false := by simp
    go_wp2_with fail
    refine (checkmarks_walk A n c l wd HL.out (by omega) MD.out r HR).mono ?_
    rintro e we ⟨rfl, hb⟩
    have GE := Lib.hid (GD.out.trans (hb.mono hzD))
    have ME := Lib.hid (MD.out.below hb)
    have hzE := GE.out.size
    clear hb GD MD hzD
    go_wp2_with fail
    by_cases hr0 : r = 0
    rotate_left
    · have e1 : (r != 0) = true := by simpa using hr0
      have e2 : (r == r) = true := by simp
      refine (papersof_walk A n c l _ HL.out (by omega) ME.out r HR).mono ?_; rintro e wf ⟨hb, ⟨_, rfl⟩ | ⟨h0, _⟩⟩
      rotate_left; exact absurd h0 hr0
      have GF := Lib.hid (GE.out.trans (hb.mono hzE))
      have MF := Lib.hid (ME.out.below hb)
      have hzF := GF.out.size
      clear hb GE ME hzE
      go_wp2_with fail
      refine (peopleof_walk A n c l _ HL.out (by omega) MF.out r HR).mono ?_; rintro e wg ⟨hb, ⟨_, rfl⟩ | ⟨h0, _⟩⟩
      rotate_left; exact absurd h0 hr0
      have GH := Lib.hid (GF.out.trans (hb.mono hzF))
      have MH := Lib.hid (MF.out.below hb)
      have hzH := GH.out.size
      clear hb GF MF hzF
      go_wp2_with fail
      refine (mean_any A n c l p hp _ HL.out (by omega) MH.out r HR).mono ?_; rintro e wh ⟨hb, ⟨_, rfl⟩ | ⟨h0, _⟩ | ⟨h0, _⟩⟩
      rotate_left; exact absurd h0 hr0; exact absurd h0 hr0
      have GI := Lib.hid (GH.out.trans (hb.mono hzH))
      have MI := Lib.hid (MH.out.below hb)
      have hzI := GI.out.size
      clear hb GH MH hzH
      have GJ := Lib.hid (GI.out.alloc hzI (.cells #[.int .i64 0, .int .i64 0] 37))
      have MJ := Lib.hid (MI.out.below ((Below.refl _ wh).alloc (Nat.le_refl _) (.cells #[.int .i64 0, .int .i64 0] 37)))
      have hzJ := GJ.out.size
      clear GI MI hzI
      go_wp2_with fail
      refine (median_any A n c l p hp _ HL.out (by omega) MJ.out r HR).mono ?_; rintro e wi ⟨hb, ⟨_, rfl⟩ | ⟨h0, _⟩ | ⟨h0, _⟩⟩
      rotate_left; exact absurd h0 hr0; exact absurd h0 hr0
      have GK := Lib.hid (GJ.out.trans (hb.mono hzJ))
      have MK := Lib.hid (MJ.out.below hb)
      have hzK := GK.out.size
      clear hb GJ MJ hzJ
      go_wp2_with fail
      refine (spread_any A n c l p hp _ HL.out (by omega) MK.out r HR).mono ?_; rintro e wj ⟨hb, ⟨_, rfl⟩ | ⟨h0, _⟩ | ⟨h0, _⟩⟩
      rotate_left; exact absurd h0 hr0; exact absurd h0 hr0
      have GL := Lib.hid (GK.out.trans (hb.mono hzK))
      have ML := Lib.hid (MK.out.below hb)
      have hzL := GL.out.size
      clear hb GK MK hzK
      have GN := Lib.hid (GL.out.alloc hzL (.cells #[.int .i64 0, .int .i64 0] 37))
      have MN := Lib.hid (ML.out.below ((Below.refl _ wj).alloc (Nat.le_refl _) (.cells #[.int .i64 0, .int .i64 0] 37)))
      have hzN := GN.out.size
      clear GL ML hzL
      go_wp2_with fail
      refine (scores1_true _).mono ?_; rintro e wk ⟨rfl, hb⟩
      have GO := Lib.hid (GN.out.trans (hb.mono hzN))
      have MO := Lib.hid (MN.out.below hb)
      have hzO := GO.out.size
      clear hb GN MN hzN
      go_wp2_with fail
      go_ret
      exact ⟨rfl, GO.out⟩
    · subst hr0
      have HSC := Lib.hid (show ∀ x ∈ l, 0 ≤ x.s ∧ x.s ≤ 10 from fun x hx => (chk_scores l _ _ _ HR.out x hx).2)
      have HRP := Lib.hid (show ∀ W, ML W A l → Calls Tryz.prog 17 #[.slice A n c] W (SRet (papersL l) W) from fun W h => ref_p A n c l W HL.out (by omega) h)
      have HRH := Lib.hid (show ∀ W, ML W A l → Calls Tryz.prog 18 #[.slice A n c] W (SRet (peopleL l) W) from fun W h => ref_h A n c l W HL.out (by omega) h)
      refine (papersof_walk A n c l _ HL.out (by omega) ME.out 0 HR).mono ?_; rintro e wf ⟨hb, ⟨h0, _⟩ | ⟨_, P, cP, rfl, hP⟩⟩
      exact absurd rfl h0
      have hnp : (papersL l).length ≤ 256 := Nat.le_trans (dedB_length _) (by rw [List.length_map, HL.out]; exact hn)
      have hnh : (peopleL l).length ≤ 256 := Nat.le_trans (dedB_length _) (by rw [List.length_map, HL.out]; exact hn)
      obtain ⟨np, he⟩ : ∃ np, (papersL l).length = np := ⟨_, rfl⟩
      rw [he] at hnp ⊢; have HNP := Lib.hid he; clear he
      obtain ⟨nh, he⟩ : ∃ nh, (peopleL l).length = nh := ⟨_, rfl⟩
      rw [he] at hnh; have HNH := Lib.hid he; clear he
      have SP := Lib.hid hP
      clear hP
      have GF := Lib.hid (GE.out.trans (hb.mono hzE))
      have MF := Lib.hid (ME.out.below hb)
      have hzF := GF.out.size
      clear hb GE ME hzE
      go_wp2_with fail
      refine (peopleof_walk A n c l _ HL.out (by omega) MF.out 0 HR).mono ?_; rintro e wg ⟨hb, ⟨h0, _⟩ | ⟨_, H, cH, rfl, hH⟩⟩
      exact absurd rfl h0
      rw [HNH.out]
      have SH := Lib.hid hH
      clear hH
      have GH := Lib.hid (GF.out.trans (hb.mono hzF))
      have MH := Lib.hid (MF.out.below hb)
      have hzH := GH.out.size
      replace SP := Lib.hid (SP.out.below hb)
      clear hb GF MF hzF
      go_wp2_with fail
      refine (mean_any A n c l p hp _ HL.out (by omega) MH.out 0 HR).mono ?_; intro e wh hret
      obtain ⟨hb, x0, x1, g1, rfl, HX⟩ := mean0 hret
      clear hret
      have GI := Lib.hid (GH.out.trans (hb.mono hzH))
      have MI := Lib.hid (MH.out.below hb)
      have hzI := GI.out.size
      replace SP := Lib.hid (SP.out.below hb)
      replace SH := Lib.hid (SH.out.below hb)
      clear hb GH MH hzH
      have hb := (Below.refl _ wh).alloc (Nat.le_refl _) (.cells #[.int .i64 x0, .int .i64 x1] 37)
      have GJ := Lib.hid (GI.out.alloc hzI (.cells #[.int .i64 x0, .int .i64 x1] 37))
      have MJ := Lib.hid (MI.out.below hb)
      have hzJ := GJ.out.size
      replace SP := Lib.hid (SP.out.below hb)
      replace SH := Lib.hid (SH.out.below hb)
      have BX := Lib.hid (Blk.new wh 37 #[.int .i64 x0, .int .i64 x1])
      clear hb GI MI hzI
      go_wp2_with fail
      refine (median_any A n c l p hp _ HL.out (by omega) MJ.out 0 HR).mono ?_; intro e wi hret
      obtain ⟨hb, md, g2, rfl, HD⟩ := med0 hret
      clear hret
      have GK := Lib.hid (GJ.out.trans (hb.mono hzJ))
      have MK := Lib.hid (MJ.out.below hb)
      have hzK := GK.out.size
      replace SP := Lib.hid (SP.out.below hb)
      replace SH := Lib.hid (SH.out.below hb)
      replace BX := Lib.hid (BX.out.below hb BX.out.lt)
      clear hb GJ MJ hzJ
      go_wp2_with fail
      refine (spread_any A n c l p hp _ HL.out (by omega) MK.out 0 HR).mono ?_; intro e wj hret
      obtain ⟨hb, y0, y1, g3, rfl, HY⟩ := spr0 hret
      clear hret
      have GL := Lib.hid (GK.out.trans (hb.mono hzK))
      have ML := Lib.hid (MK.out.below hb)
      have hzL := GL.out.size
      replace SP := Lib.hid (SP.out.below hb)
      replace SH := Lib.hid (SH.out.below hb)
      replace BX := Lib.hid (BX.out.below hb BX.out.lt)
      clear hb GK MK hzK
      have hb := (Below.refl _ wj).alloc (Nat.le_refl _) (.cells #[.int .i64 y0, .int .i64 y1] 37)
      have GN := Lib.hid (GL.out.alloc hzL (.cells #[.int .i64 y0, .int .i64 y1] 37))
      have MN := Lib.hid (ML.out.below hb)
      have hzN := GN.out.size
      replace SP := Lib.hid (SP.out.below hb)
      replace SH := Lib.hid (SH.out.below hb)
      replace BX := Lib.hid (BX.out.below hb BX.out.lt)
      have BY := Lib.hid (Blk.new wj 37 #[.int .i64 y0, .int .i64 y1])
      clear hb GL ML hzL
      go_wp2_with fail
      refine (HRP.out _ MN.out).mono ?_; rintro e wk ⟨A1, c1, rfl, hS1, hb⟩
      rw [HNP.out]
      have GO := Lib.hid (GN.out.trans (hb.mono hzN))
      have MO := Lib.hid (MN.out.below hb)
      have hzO := GO.out.size
      replace SP := Lib.hid (SP.out.below hb)
      replace SH := Lib.hid (SH.out.below hb)
      replace BX := Lib.hid (BX.out.below hb BX.out.lt)
      replace BY := Lib.hid (BY.out.below hb BY.out.lt)
      clear hb GN MN hzN
      have S1 := Lib.hid hS1; clear hS1
      go_wp2_with fail
      refine (For.equal_any P A1 cP c1 (papersL l) _ np HNP.out (by omega) SP.out S1.out).mono ?_; rintro e wl ⟨rfl, hb⟩
      clear S1
      have GQ := Lib.hid (GO.out.trans (hb.mono hzO))
      have MQ := Lib.hid (MO.out.below hb)
      have hzQ := GQ.out.size
      replace SP := Lib.hid (SP.out.below hb)
      replace SH := Lib.hid (SH.out.below hb)
      replace BX := Lib.hid (BX.out.below hb BX.out.lt)
      replace BY := Lib.hid (BY.out.below hb BY.out.lt)
      clear hb GO MO hzO
      go_wp2_with fail
      refine (HRH.out _ MQ.out).mono ?_; rintro e wm ⟨A2, c2, rfl, hS2, hb⟩
      rw [HNH.out]
      have GR := Lib.hid (GQ.out.trans (hb.mono hzQ))
      have MR := Lib.hid (MQ.out.below hb)
      have hzR := GR.out.size
      replace SP := Lib.hid (SP.out.below hb)
      replace SH := Lib.hid (SH.out.below hb)
      replace BX := Lib.hid (BX.out.below hb BX.out.lt)
      replace BY := Lib.hid (BY.out.below hb BY.out.lt)
      clear hb GQ MQ hzQ
      have S2 := Lib.hid hS2; clear hS2
      go_wp2_with fail
      refine (For.equal_any H A2 cH c2 (peopleL l) _ nh HNH.out (by omega) SH.out S2.out).mono ?_; rintro e wn ⟨rfl, hb⟩
      clear S2
      have GS := Lib.hid (GR.out.trans (hb.mono hzR))
      have MS := Lib.hid (MR.out.below hb)
      have hzS := GS.out.size
      replace SP := Lib.hid (SP.out.below hb)
      replace SH := Lib.hid (SH.out.below hb)
      replace BX := Lib.hid (BX.out.below hb BX.out.lt)
      replace BY := Lib.hid (BY.out.below hb BY.out.lt)
      clear hb GR MR hzR
      clear SP SH HRH HNH
      go_wp2_with fail
      refine (HRP.out _ MS.out).mono ?_; rintro e wo ⟨A3, c3, rfl, hS3, hb⟩
      rw [HNP.out]
      have GT := Lib.hid (GS.out.trans (hb.mono hzS))
      have MT := Lib.hid (MS.out.below hb)
      have hzT := GT.out.size
      replace BX := Lib.hid (BX.out.below hb BX.out.lt)
      replace BY := Lib.hid (BY.out.below hb BY.out.lt)
      clear hb GS MS hzS
      have HCT := Lib.hid (contains_any A3 np c3 (papersL l) p wo HNP.out (by omega) hS3)
      clear hS3 HRP HNP
      go_wp2_with fail
      refine (HCT.out).mono ?_; rintro e wq ⟨⟨b, rfl, hbi⟩, rfl⟩
      have HBI := Lib.hid hbi
      clear hbi HCT
      cases b
      · have hno : p ∉ papersL l := fun h => by have := HBI.out.2 h; cases this
        obtain rfl : g1 = 8 := by rcases HX.out with ⟨_, h⟩ | ⟨h, _⟩; exact h; exact absurd h hno
        obtain rfl : g2 = 8 := by rcases HD.out with ⟨_, h⟩ | ⟨h, _⟩; exact h; exact absurd h hno
        obtain rfl : g3 = 8 := by rcases HY.out with ⟨_, h⟩ | ⟨h, _⟩; exact h; exact absurd h hno
        clear hno HX HD HY
        go_wp2_with fail
        refine (scores1_true _).mono ?_; rintro e wr ⟨rfl, hb⟩
        have GU := Lib.hid (GT.out.trans (hb.mono hzT)); clear hb
        go_wp2_with fail
        go_ret
        exact ⟨rfl, GU.out⟩
      · have hin : p ∈ papersL l := HBI.out.1 rfl
        obtain ⟨hx, hd, hy⟩ : (g1 = 0 ∧ lowZ (sumI (scB l p)) ((scB l p).length : Int) = (x0, x1)) ∧ (g2 = 0 ∧ medI (scB l p) = md) ∧ (g3 = 0 ∧ lowZ (difI (scB l p)) (2 * ((scB l p).length : Int) * ((scB l p).length : Int)) = (y0, y1)) := by
          refine ⟨?_, ?_, ?_⟩
          · rcases HX.out with ⟨h, _⟩ | ⟨_, h⟩; exact absurd hin h; exact h
          · rcases HD.out with ⟨h, _⟩ | ⟨_, h⟩; exact absurd hin h; exact h
          · rcases HY.out with ⟨h, _⟩ | ⟨_, h⟩; exact absurd hin h; exact h
        obtain ⟨rfl, hx⟩ := hx
        obtain ⟨rfl, hd⟩ := hd
        obtain ⟨rfl, hy⟩ := hy
        obtain ⟨C, hC⟩ : ∃ C, wq.heap.size = C := ⟨_, rfl⟩
        have hTB : ∀ v, Below C wq v → Below wq.heap.size wq v := fun v h => by rw [hC]; exact h
        have HME := Lib.hid (show ∀ v, Below C wq v → Calls Tryz.prog 20 #[.slice A n c, .string p] v fun e w' => e = .returned (.agg #[.int .i64 x0, .int .i64 x1]) ∧ Below v.heap.size v w' from fun v h =>
          (meanof_walk A n c l p v HL.out hn (MT.out.below (hTB v h)) HSC.out hin).mono fun e w' ⟨he, hb⟩ => ⟨by rw [he, hx], hb⟩)
        have HMD := Lib.hid (show ∀ v, Below C wq v → Calls Tryz.prog 21 #[.slice A n c, .string p] v fun e w' => e = .returned (.int .i64 md) ∧ Below v.heap.size v w' from fun v h =>
          (medianof_walk A n c l p v HL.out hn (MT.out.below (hTB v h)) HSC.out hin).mono fun e w' ⟨he, hb⟩ => ⟨by rw [he, hd], hb⟩)
        have HSD := Lib.hid (show ∀ v, Below C wq v → Calls Tryz.prog 22 #[.slice A n c, .string p] v fun e w' => e = .returned (.agg #[.int .i64 y0, .int .i64 y1]) ∧ Below v.heap.size v w' from fun v h =>
          (spreadof_walk A n c l p v HL.out hn (MT.out.below (hTB v h)) HSC.out hin).mono fun e w' ⟨he, hb⟩ => ⟨by rw [he, show ((2 * (scB l p).length * (scB l p).length : Nat) : Int) = 2 * ((scB l p).length : Int) * ((scB l p).length : Int) by push_cast; rfl, hy], hb⟩)
        have HST := Lib.hid (fun (v : World) => scores1_true v)
        have HCA := Lib.hid (show ∀ v, Below C wq v → Blk v wh.heap.size 37 #[.int .i64 x0, .int .i64 x1] ∧ Blk v wj.heap.size 37 #[.int .i64 y0, .int .i64 y1] ∧ Below w.heap.size w v from fun v h =>
          ⟨BX.out.below (hTB v h) BX.out.lt, BY.out.below (hTB v h) BY.out.lt, GT.out.trans ((hTB v h).mono hzT)⟩)
        have HB0 := Lib.hid (show Below C wq wq from Below.refl _ _)
        have HSZ := Lib.hid (show C ≤ wq.heap.size from Nat.le_of_eq hC.symm)
        clear HX HD HY hx hd hy hin HBI hTB hC BX BY MT GT hzT HSC HR HRE
        go_wp2_with fail
        go_region_held3 (fun v => v.cell? ⟨wh.heap.size, 0, none⟩ = some (.int .i64 x0) ∧ v.cell? ⟨wh.heap.size, 1, none⟩ = some (.int .i64 x1) ∧ v.cell? ⟨wj.heap.size, 0, none⟩ = some (.int .i64 y0) ∧ v.cell? ⟨wj.heap.size, 1, none⟩ = some (.int .i64 y1) ∧ Below C wq v ∧ C ≤ v.heap.size)
          (first
            | (go_split_ands; have hv := Below.trans (by assumption) (hb.mono (by assumption)); obtain ⟨k0, k1, _⟩ := HCA.out _ hv; exact ⟨k0.cell 0 _ rfl, k0.cell 1 _ rfl, k1.cell 0 _ rfl, k1.cell 1 _ rfl, hv, Nat.le_trans (by assumption) hb.size⟩)
            | (obtain ⟨k0, k1, _⟩ := HCA.out _ HB0.out.drew; exact ⟨k0.cell 0 _ rfl, k0.cell 1 _ rfl, k1.cell 0 _ rfl, k1.cell 1 _ rfl, HB0.out.drew, by have := HSZ.out; simpa using this⟩))
          (first
            | (go_at_call 15; refine (HST.out _).mono ?_; rintro e wz ⟨rfl, hb⟩)
            | (go_at_call 20; go_split_ands; refine (HME.out _ (by assumption)).mono ?_; rintro e wz ⟨rfl, hb⟩)
            | (go_at_call 21; go_split_ands; refine (HMD.out _ (by assumption)).mono ?_; rintro e wz ⟨rfl, hb⟩)
            | (go_at_call 22; go_split_ands; refine (HSD.out _ (by assumption)).mono ?_; rintro e wz ⟨rfl, hb⟩))
        go_split_ands
        go_wp2_with fail
        go_ret
        exact ⟨rfl, (HCA.out _ (by assumption)).2.2⟩
end Go.Proofs.YtgajencgpceabaaGreatDoor.Cal
