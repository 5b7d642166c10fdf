/-
  THE WALK OF THE LAW PapersChecked, over its contracts.
-/
import Derived.Test.YtanoojmgjinmfaaDoorLaw
import Derived.Test.YtanoojmgjinmfaaDoorPapersAny
import Derived.Test.YtanoojmgjinmfaaDoorRefPapers
import Derived.Test.YtanoojmgjinmfaaDoorSubmits
import Derived.Deep.RegionHeld3
namespace Go.Proofs.YtanoojmgjinmfaaDoor.Stm
open Go.ChangeShapes Go.WideShapes Go.ChangeAt Go.RowKit Key
set_option linter.unusedVariables false

/-- What stands while a paper is checked. -/
def YS (wb : World) (Y : Nat) (y : Pap) (v : World) : Prop := Below wb.heap.size wb v ∧ Blk v Y 30 y.cells ∧ Y < wb.heap.size
theorem YS.below {wb v v' : World} {Y : Nat} {y : Pap} (h : YS wb Y y v) (hb : Below v.heap.size v v') : YS wb Y y v' := ⟨h.1.trans (hb.mono h.1.size), h.2.1.below hb h.2.1.lt, h.2.2⟩
theorem YS.cells {wb v : World} {Y : Nat} {y : Pap} (h : YS wb Y y v) : v.cell? ⟨Y, 0, none⟩ = some (.string y.p) ∧ v.cell? ⟨Y, 1, none⟩ = some (.string y.t) ∧ v.cell? ⟨Y, 2, none⟩ = some (.string y.ti) ∧ v.cell? ⟨Y, 3, none⟩ = some (.slice y.A y.au.length y.ca) ∧ v.cell? ⟨Y, 4, none⟩ = some (.slice y.B y.tp.length y.cb) ∧ YS wb Y y v :=
  ⟨h.2.1.cell 0 _ rfl, h.2.1.cell 1 _ rfl, h.2.1.cell 2 _ rfl, h.2.1.cell 3 _ rfl, h.2.1.cell 4 _ rfl, h⟩
theorem YS.drew {wb v : World} {Y : Nat} {y : Pap} (h : YS wb Y y v) : YS wb Y y v.drew := h.below (Below.refl _ _).drew
/-- Behind the paper's spoiling or not. -/
def YJ (w1 : World) (B K Y : Nat) (wx : World) : Prop := ∃ y : Pap, Blk wx Y 30 y.cells ∧ PapN wx B 8 y ∧ Gr B w1 wx ∧ Strm wx B K

theorem YJ.name {w1 wx : World} {B K Y : Nat} (h : YJ w1 B K Y wx) : ∃ v, v = wx ∧ YJ w1 B K Y v := ⟨_, rfl, h⟩

set_option maxRecDepth 100000 in
set_option maxHeartbeats 8000000 in
theorem law_papers (a0 : Option Addr) (len0 cap0 : Nat) (z0 : List Int) (w : World) (w0 : IsRow .i64 w a0 len0 cap0 z0) (hg : gTop ≤ w.heap.size) (hT : Tabs w) :
    Calls Tryd.prog 3 #[.slice a0 len0 cap0] w fun e w' => e = .returned (.bool true) ∧ Below w.heap.size w w' := by
  have hs0 := strm_new w0
  have g0 : Below w.heap.size w (w.alloc (.cells #[.slice a0 len0 cap0, .int .i64 0] 25)) := (Below.refl _ _).alloc (Nat.le_refl _) _
  clear w0
  have HT := Lib.hid hT
  clear hT
  go_enter Tryd.func3, Tryd.ntmps3
  go_wp2_with fail
  refine (papers_gen _ 0 _ hs0 (by omega)).mono ?_
  rintro e w1 ⟨A, n, c, xs, rfl, hl, hn5, hnc, hrow, hx, hgr, hs1⟩
  have G1 := Lib.hid (g0.trans (hgr.toBelow (Nat.le_refl _) (by simp)))
  have HL := Lib.hid hl
  have HX := Lib.hid hx
  have HR := Lib.hid hrow
  have S1 := Lib.hid hs1
  have hz1 := G1.out.size
  have hB1 := hs1.lt
  clear hs0 g0 hgr hs1 hl hx hrow
  have BW : Hid (∀ W, Gr w.heap.size w1 W → Below w.heap.size w W) := Lib.hid fun W hW => G1.out.trans (hW.toBelow (Nat.le_refl _) hz1)
  have TW : Hid (∀ W, Below w.heap.size w W → Tabs W ∧ gTop ≤ W.heap.size) := Lib.hid fun W hW => ⟨HT.out.below (hW.mono hg), Nat.le_trans hg hW.size⟩
  have HPL : Hid (∀ W, Gr w.heap.size w1 W → PL W A xs) := Lib.hid fun W hW => by
    rcases HR.out with h0 | ⟨g, rfl, hgB, hP⟩
    · have : xs = [] := List.length_eq_zero_iff.1 (by rw [HL.out, h0])
      subst this
      exact ⟨by simp, fun h => absurd h (by simp)⟩
    · exact pb_pl (hP.gr hW hgB) (fun x hx => (HX.out x hx).1.gr hW)
  go_wp2_with fail
  go_loopw [15] (fun i wr => ∃ kk : Nat, kk ≤ n ∧ i = .int .i64 kk ∧ Hid (Gr w.heap.size w1 wr) ∧ Hid (Strm wr w.heap.size (200 + 4 * kk))) (fun i _ => n - (intOf i).toNat)
  case atStart => exact ⟨0, Nat.zero_le _, rfl, Lib.hid (Gr.refl _ _), Lib.hid (by have := S1.out; simpa using this)⟩
  case round =>
    obtain ⟨kk, hk, rfl, HG, HS⟩ := hrel
    have zw := HG.out.size
    have hBw := HS.out.lt
    by_cases hlt : kk < n
    · have hkl : kk < xs.length := by have := HL.out; omega
      obtain ⟨g, hA, hgB, hP⟩ : ∃ g, A = some ⟨g, 0, none⟩ ∧ g ≠ w.heap.size ∧ PB w1 g xs := by
        rcases HR.out with h0 | h
        · omega
        · exact h
      have P := Lib.hid (hP.gr HG.out hgB)
      obtain ⟨c0, c1, c2, c3, c4⟩ := P.out.cell kk hkl
      obtain ⟨hxn, hxf⟩ := HX.out xs[kk] (List.getElem_mem hkl)
      have XN := Lib.hid (hxn.gr HG.out)
      have XF := Lib.hid hxf
      generalize xs[kk] = x at *
      subst hA
      clear hP hxn hxf
      have hb2 : Below wr.heap.size wr ((wr.alloc (.cells x.cells 30)).alloc (.cells x.cells 30)) := ((Below.refl _ _).alloc (Nat.le_refl _) _).alloc (by simp) _
      have BX := Lib.hid (new_old (o := .cells x.cells 30) (Blk.new wr 30 x.cells))
      have BY := Lib.hid (new_at (w := wr.alloc (.cells x.cells 30)) (cs := x.cells) (t := 30) (n := wr.heap.size + 1) (by simp))
      have HB2 := Lib.hid hb2
      have S2 := Lib.hid (HS.out.keep (hb2.mono (by omega)))
      have G2 := Lib.hid (HG.out.trans (Gr.below hb2))
      have X2 := Lib.hid (XN.out.gr (Gr.below hb2))
      clear hb2
      unfold Pap.cells at BX BY HB2 S2 G2 X2
      go_wp2_with fail
      refine (flip_any w.heap.size (200 + 4 * kk) 2 _ S2.out (by omega) (by omega) (by omega)).mono ?_
      rintro e w2 ⟨fl, rfl, ho, hs⟩
      have BX3 := Lib.hid (show Blk w2 wr.heap.size 30 x.cells from (ho.block wr.heap.size (by omega)).trans BX.out)
      have BY3 := Lib.hid (show Blk w2 (wr.heap.size + 1) 30 x.cells from (ho.block (wr.heap.size + 1) (by omega)).trans BY.out)
      have S3 := Lib.hid hs
      have G3 := Lib.hid (G2.out.trans (Gr.only ho))
      have X3 := Lib.hid (X2.out.gr (Gr.only ho))
      have hY3 := BY3.out.lt
      clear ho hs BX BY HB2 S2 G2 X2 c0 c1 c2 c3 c4 XN HG HS
      have c0 : w2.cell? ⟨wr.heap.size, 0, none⟩ = some (.string x.p) := BX3.out.cell 0 _ rfl
      have c1 : w2.cell? ⟨wr.heap.size, 1, none⟩ = some (.string x.t) := BX3.out.cell 1 _ rfl
      have c2 : w2.cell? ⟨wr.heap.size, 2, none⟩ = some (.string x.ti) := BX3.out.cell 2 _ rfl
      have c3 : w2.cell? ⟨wr.heap.size, 3, none⟩ = some (.slice x.A x.au.length x.ca) := BX3.out.cell 3 _ rfl
      have c4 : w2.cell? ⟨wr.heap.size, 4, none⟩ = some (.slice x.B x.tp.length x.cb) := BX3.out.cell 4 _ rfl
      have HSP := Lib.hid (spoiled_any w.heap.size (200 + 4 * kk + 1) 7 x w2 S3.out (by omega) X3.out (by omega))
      unfold Pap.cells at HSP
      go_upto_if 21 with fail
      go_cut [] (fun wx => YJ w1 w.heap.size (200 + 4 * kk + 4) (wr.heap.size + 1) wx)
      case first =>
        cases fl
        · go_wp2_with fail
          go_meet
          exact ⟨x, BY3.out, X3.out.mono (by omega), G3.out, S3.out.mono (by omega)⟩
        · go_wp2_with fail
          refine (HSP.out).mono ?_
          rintro e w3 ⟨y, rfl, hyN, hgr, hs, hat⟩
          have hYY := XF.out (wr.heap.size + 1) (by omega)
          obtain ⟨hA, hBt⟩ := hat (wr.heap.size + 1) (Or.inl hY3) hYY.1 hYY.2
          have BY4 := Lib.hid (show Blk w3 (wr.heap.size + 1) 30 x.cells from (hgr.block (wr.heap.size + 1) hY3 (by simp; omega)).trans BY3.out)
          have G4 := Lib.hid (G3.out.trans hgr)
          have S4 := Lib.hid hs
          have YN := Lib.hid hyN
          have YA := Lib.hid hA
          have YB := Lib.hid hBt
          obtain ⟨yp, yt, yti, yA, yB, yca, ycb, yau, ytp⟩ := y
          clear hgr hs hyN hA hBt hat c0 c1 c2 c3 c4 HSP hYY
          have c0 : w3.cell? ⟨wr.heap.size + 1, 0, none⟩ = some (.string x.p) := BY4.out.cell 0 _ rfl
          have c1 : w3.cell? ⟨wr.heap.size + 1, 1, none⟩ = some (.string x.t) := BY4.out.cell 1 _ rfl
          have c2 : w3.cell? ⟨wr.heap.size + 1, 2, none⟩ = some (.string x.ti) := BY4.out.cell 2 _ rfl
          have c3 : w3.cell? ⟨wr.heap.size + 1, 3, none⟩ = some (.slice x.A x.au.length x.ca) := BY4.out.cell 3 _ rfl
          have c4 : w3.cell? ⟨wr.heap.size + 1, 4, none⟩ = some (.slice x.B x.tp.length x.cb) := BY4.out.cell 4 _ rfl
          have f0 := BY4.out.frozen 0
          have f1 := BY4.out.frozen 1
          have f2 := BY4.out.frozen 2
          have f3 := BY4.out.frozen 3
          have f4 := BY4.out.frozen 4
          unfold Pap.cells
          go_wp2_with fail
          go_meet
          refine ⟨⟨yp, yt, yti, yA, yB, yca, ycb, yau, ytp⟩, ((((BY4.out.set_ 0 _).set_ 1 _).set_ 2 _).set_ 3 _).set_ 4 _, PapN.far5 YN.out YA.out YB.out _ _ _ _ _, gr_far5 G4.out (by omega) _ _ _ _ _, (S4.out.keep (bel_far5 (by omega) _ _ _ _ _)).mono (by omega)⟩
      case rest =>
        obtain ⟨wx, hwx, hcx⟩ := YJ.name hcut
        subst hwx
        obtain ⟨y, by5, yn5, g5, s5⟩ := hcx
        clear hcut
        have YS0 := Lib.hid (show YS wx (wr.heap.size + 1) y wx from ⟨Below.refl _ _, by5, by5.lt⟩)
        have YN := Lib.hid yn5.1
        have G5 := Lib.hid g5
        have S5 := Lib.hid s5
        have hY5 := by5.lt
        clear by5 yn5 g5 s5 c0 c1 c2 c3 c4 HSP BX3 BY3 G3 X3 S3 XF
        have CP : Hid (∀ W, Below wx.heap.size wx W → Calls Tryd.prog 7 #[.agg y.cells] W fun e w' => e = .returned (.int .i64 y.fault) ∧ Below W.heap.size W w') := Lib.hid fun W hW => by
          have hw := (BW.out _ G5.out).trans (hW.mono (by have := G5.out.size; omega))
          exact paper_pap y W (YN.out.below hW) (TW.out W hw).2 (TW.out W hw).1
        have CR : Hid (∀ W, Below wx.heap.size wx W → Calls Tryd.prog 8 #[.agg y.cells] W fun e w' => e = .returned (.int .i64 y.fault) ∧ Below W.heap.size W w') := Lib.hid fun W hW => by
          have hw := (BW.out _ G5.out).trans (hW.mono (by have := G5.out.size; omega))
          exact paperR_pap y W (YN.out.below hW) (TW.out W hw).2 (TW.out W hw).1
        unfold Pap.cells at CP CR
        generalize y.fault = yf at *
        have eF : (yf != yf) = false := by simp
        obtain ⟨c0, c1, c2, c3, c4, _⟩ := YS0.out.cells
        go_wp2_with fail
        go_region_held3 (fun v => v.cell? ⟨wr.heap.size + 1, 0, none⟩ = some (.string y.p) ∧ v.cell? ⟨wr.heap.size + 1, 1, none⟩ = some (.string y.t) ∧ v.cell? ⟨wr.heap.size + 1, 2, none⟩ = some (.string y.ti) ∧ v.cell? ⟨wr.heap.size + 1, 3, none⟩ = some (.slice y.A y.au.length y.ca) ∧ v.cell? ⟨wr.heap.size + 1, 4, none⟩ = some (.slice y.B y.tp.length y.cb) ∧ YS wx (wr.heap.size + 1) y v)
          (first
            | (go_split_ands; exact YS.cells (YS.below (by assumption) hB))
            | exact YS.cells (YS.drew YS0.out)
            | exact YS.cells YS0.out)
          (first
            | (go_at_call 7; go_split_ands; refine (CP.out _ (And.left (by assumption : YS wx (wr.heap.size + 1) y _))).mono ?_; rintro e w6 ⟨rfl, hB⟩)
            | (go_at_call 8; go_split_ands; refine (CR.out _ (And.left (by assumption : YS wx (wr.heap.size + 1) y _))).mono ?_; rintro e w6 ⟨rfl, hB⟩))
        all_goals
          go_split_ands
          have S6 : Hid (YS wx (wr.heap.size + 1) y w6) := Lib.hid (by assumption)
          go_wp2_with fail
          go_roundw
          case rel => exact ⟨kk + 1, by omega, by go_num, Lib.hid (G5.out.trans (Gr.below S6.out.1)), Lib.hid ((S5.out.keep (S6.out.1.mono (by have := S5.out.lt; omega))).mono (by omega))⟩
          case measure => simp [intOf]; omega
    · have hw := BW.out _ HG.out
      have C1 : Hid (Calls Tryd.prog 9 #[] wr fun e w' => e = .returned (.bool true) ∧ Below wr.heap.size wr w') := Lib.hid (submits1_any wr (TW.out _ hw).2 (TW.out _ hw).1)
      obtain ⟨r, hr⟩ : ∃ r, (if 400 < n then 2 else papersE ⟨#[]⟩ xs) = r := ⟨_, rfl⟩
      have HRR := Lib.hid hr
      have C2 : Hid (∀ W, Below wr.heap.size wr W → Calls Tryd.prog 10 #[.slice A n c] W fun e w' => e = .returned (.int .i64 r) ∧ Below W.heap.size W w') := Lib.hid fun W hW => by
        have hW2 := HG.out.trans (Gr.below hW)
        exact papers_walk A n c xs W HL.out (by omega) (HPL.out W hW2) (TW.out W (BW.out W hW2)).2 (TW.out W (BW.out W hW2)).1 r HRR
      have C3 : Hid (∀ W, Below wr.heap.size wr W → Calls Tryd.prog 11 #[.slice A n c] W fun e w' => e = .returned (.int .i64 r) ∧ Below W.heap.size W w') := Lib.hid fun W hW => by
        have hW2 := HG.out.trans (Gr.below hW)
        exact papersR_walk A n c xs W HL.out (by omega) hnc (HPL.out W hW2) (TW.out W (BW.out W hW2)).2 (TW.out W (BW.out W hW2)).1 r HRR
      have HW := Lib.hid hw
      have er : (r == r) = true := by simp
      clear hr hw
      go_wp2_with fail
      refine (C1.out).mono ?_; rintro e w6 ⟨rfl, hB6⟩
      go_wp2_with fail
      refine (C2.out _ hB6).mono ?_; rintro e w7 ⟨rfl, hB7⟩
      have H7 := Lib.hid (hB6.trans (hB7.mono hB6.size))
      go_wp2_with fail
      refine (C3.out _ H7.out).mono ?_; rintro e w8 ⟨rfl, hB8⟩
      have H8 := Lib.hid (H7.out.trans (hB8.mono H7.out.size))
      go_wp2_with fail
      go_ret
      exact ⟨rfl, HW.out.trans (H8.out.mono (by have := HG.out.size; omega))⟩
end Go.Proofs.YtanoojmgjinmfaaDoor.Stm
