/-
  MARKS: calibrate.newTable.
-/
import Derived.Test.YthhiefpickpiaaaGreatDoorCalTd
import Derived.StillTailTactics
import Derived.Deep.RegionLaw
import Derived.Deep.CutBlock
import Derived.Deep.DeepCutAuto
namespace Go.Proofs.YthhiefpickpiaaaGreatDoor.Cal
open Go.ChangeShapes Go.WideShapes Go.ChangeAt Go.RowKit Stm Key
set_option linter.unusedVariables false

theorem infoR : (Tryz.prog.info? 74).map (fun i => (i.zero, i.size, i.bytes)) = some (some (.slice none 0 0), 1, 24) := by kernel_rfl
theorem infoC : (Tryz.prog.info? 76).map (fun i => (i.zero, i.size, i.bytes)) = some (some (.agg #[.int .i64 0, .int .i64 0]), 2, 16) := by kernel_rfl
/-- Behind the two makes. -/
def MkJ (w5 : World) (T : Nat) (cs : Array Value) (np nh : Nat) (wx : World) : Prop := ∃ bo bb, w5.heap.size ≤ bo ∧ w5.heap.size ≤ bb ∧ bo ≠ bb ∧ bo < wx.heap.size ∧ bb < wx.heap.size ∧ w5.grownBy wx (some T) ∧
  Blk wx T 49 (cs ++ #[.slice (some ⟨bo, 0, none⟩) np np, .slice (some ⟨bb, 0, none⟩) nh nh]) ∧ wx.rowIs bo 74 np (fun _ => .slice none 0 0) ∧ wx.rowIs bb 74 nh (fun _ => .slice none 0 0)
theorem size_two (w5 : World) (T : Nat) (u v : Value) : ((w5.setCell ⟨T, 4, none⟩ u).setCell ⟨T, 5, none⟩ v).heap.size = w5.heap.size := by simp [World.setCell]
theorem gr_two (w5 : World) (T : Nat) (u v : Value) (o1 o2 : Obj) : w5.grownBy (((((w5.setCell ⟨T, 4, none⟩ u).setCell ⟨T, 5, none⟩ v).alloc o1).alloc o2).drew) (some T) :=
  Gr.drew (Gr.alloc (Gr.alloc (Gr.trans (grownBy_set w5 ⟨T, 4, none⟩ u) (grownBy_set _ ⟨T, 5, none⟩ v)) o1) o2)
theorem mkJ_a {w5 : World} {T : Nat} {a b c d e f : Value} {np nh : Nat} (h : Blk w5 T 49 #[a, b, c, d, e, f]) :
    MkJ w5 T #[a, b, c, d] np nh (((((w5.setCell ⟨T, 4, none⟩ (.slice (some ⟨w5.heap.size, 0, none⟩) np np)).setCell ⟨T, 5, none⟩ (.slice (some ⟨w5.heap.size + 1, 0, none⟩) nh nh)).alloc (.cells (madeCells #[.slice none 0 0] np) 74)).alloc (.cells (madeCells #[.slice none 0 0] nh) 74)).drew) := by
  have hs := size_two w5 T (.slice (some ⟨w5.heap.size, 0, none⟩) np np) (.slice (some ⟨w5.heap.size + 1, 0, none⟩) nh nh)
  refine ⟨w5.heap.size, w5.heap.size + 1, Nat.le_refl _, by omega, by omega, ?_, ?_, gr_two _ _ _ _ _ _, ?_, ?_, ?_⟩
  · simp [World.setCell]; omega
  · simp [World.setCell]
  · exact (((h.set_ 4 _).set_ 5 _).alloc _).alloc _
  · have := (World.rowIs_made ((w5.setCell ⟨T, 4, none⟩ (.slice (some ⟨w5.heap.size, 0, none⟩) np np)).setCell ⟨T, 5, none⟩ (.slice (some ⟨w5.heap.size + 1, 0, none⟩) nh nh)) (.slice none 0 0) np 74).alloc (.cells (madeCells #[.slice none 0 0] nh) 74)
    rw [hs] at this; exact this.drew
  · have := (World.rowIs_made (((w5.setCell ⟨T, 4, none⟩ (.slice (some ⟨w5.heap.size, 0, none⟩) np np)).setCell ⟨T, 5, none⟩ (.slice (some ⟨w5.heap.size + 1, 0, none⟩) nh nh)).alloc (.cells (madeCells #[.slice none 0 0] np) 74)) (.slice none 0 0) nh 74)
    have e : (((w5.setCell ⟨T, 4, none⟩ (.slice (some ⟨w5.heap.size, 0, none⟩) np np)).setCell ⟨T, 5, none⟩ (.slice (some ⟨w5.heap.size + 1, 0, none⟩) nh nh)).alloc (.cells (madeCells #[.slice none 0 0] np) 74)).heap.size = w5.heap.size + 1 := by simp [World.setCell]
    rw [e] at this; exact this.drew
theorem mkJ_b {w5 : World} {T : Nat} {a b c d e f : Value} {np nh : Nat} (h : Blk w5 T 49 #[a, b, c, d, e, f]) :
    MkJ w5 T #[a, b, c, d] np nh (((((w5.setCell ⟨T, 4, none⟩ (.slice (some ⟨w5.heap.size + 1, 0, none⟩) np np)).setCell ⟨T, 5, none⟩ (.slice (some ⟨w5.heap.size, 0, none⟩) nh nh)).alloc (.cells (madeCells #[.slice none 0 0] nh) 74)).alloc (.cells (madeCells #[.slice none 0 0] np) 74)).drew) := by
  have hs := size_two w5 T (.slice (some ⟨w5.heap.size + 1, 0, none⟩) np np) (.slice (some ⟨w5.heap.size, 0, none⟩) nh nh)
  refine ⟨w5.heap.size + 1, w5.heap.size, by omega, Nat.le_refl _, by omega, ?_, ?_, gr_two _ _ _ _ _ _, ?_, ?_, ?_⟩
  · simp [World.setCell]
  · simp [World.setCell]; omega
  · exact (((h.set_ 4 _).set_ 5 _).alloc _).alloc _
  · have := (World.rowIs_made (((w5.setCell ⟨T, 4, none⟩ (.slice (some ⟨w5.heap.size + 1, 0, none⟩) np np)).setCell ⟨T, 5, none⟩ (.slice (some ⟨w5.heap.size, 0, none⟩) nh nh)).alloc (.cells (madeCells #[.slice none 0 0] nh) 74)) (.slice none 0 0) np 74)
    have e : (((w5.setCell ⟨T, 4, none⟩ (.slice (some ⟨w5.heap.size + 1, 0, none⟩) np np)).setCell ⟨T, 5, none⟩ (.slice (some ⟨w5.heap.size, 0, none⟩) nh nh)).alloc (.cells (madeCells #[.slice none 0 0] nh) 74)).heap.size = w5.heap.size + 1 := by simp [World.setCell]
    rw [e] at this; exact this.drew
  · have := (World.rowIs_made ((w5.setCell ⟨T, 4, none⟩ (.slice (some ⟨w5.heap.size + 1, 0, none⟩) np np)).setCell ⟨T, 5, none⟩ (.slice (some ⟨w5.heap.size, 0, none⟩) nh nh)) (.slice none 0 0) nh 74).alloc (.cells (madeCells #[.slice none 0 0] np) 74)
    rw [hs] at this; exact this.drew
set_option maxRecDepth 100000 in
set_option maxHeartbeats 8000000 in
theorem newtable_walk (A : Option Addr) (n cap : Nat) (l : List Mk) (w : World) (hn : l.length = n) (hn2 : n ≤ 500) (hM : ML w A l) (r : Int) (hr : Hid (chkE ⟨#[]⟩ ⟨#[]⟩ 0 l = r)) :
    Calls Tryz.prog 15 #[.slice A n cap] w (TabRet r l w) := by
  have HN := Lib.hid hn
  have HM := Lib.hid hM
  have HCK := Lib.hid (checkmarks_walk A n cap l w hn (by omega) hM r hr)
  clear hn hM
  by_cases hr0 : r = 0
  · subst hr0
    go_enter Tryz.func15, Tryz.ntmps15
    go_wp2_with fail
    refine (HCK.out).mono ?_; rintro e w1 ⟨rfl, hb1⟩
    have B1 := Lib.hid hb1
    have M1 := Lib.hid (HM.out.below hb1)
    clear hb1 HCK
    go_wp2_with fail
    have T1 := Lib.hid (Blk.new w1 49 #[.slice none 0 0, .slice none 0 0, .map none, .map none, .slice none 0 0, .slice none 0 0])
    have B2 := Lib.hid (B1.out.alloc B1.out.size (.cells #[.slice none 0 0, .slice none 0 0, .map none, .map none, .slice none 0 0, .slice none 0 0] 49))
    have hz1 := B1.out.size
    refine (numbered_p A n cap l _ HN.out (by omega) (HM.out.below B2.out)).mono ?_
    rintro e w2 ⟨PA, cP, MP, rfl, hsl, hab, hmp, hmp2, hns, hb⟩
    have TB2 := Lib.hid (T1.out.below hb (by simp))
    have B3 := Lib.hid (B2.out.trans (hb.mono B2.out.size))
    have hz2 : w1.heap.size + 1 ≤ w2.heap.size := by have := hb.size; simpa using this
    have hmp' : w1.heap.size + 1 ≤ MP := by simpa using hmp
    have HAP := Lib.hid (show ∀ b, PA = some ⟨b, 0, none⟩ → w1.heap.size + 1 ≤ b ∧ b < w2.heap.size from fun b e => by have := hab b e; simpa using this)
    have SP2 := Lib.hid hsl
    have NP2 := Lib.hid hns
    clear T1 B1 B2 M1 hsl hab hmp hns hb
    obtain ⟨ks, hks⟩ : ∃ ks, papersL l = ks := ⟨_, rfl⟩
    have HKS := Lib.hid hks
    change Hid (SL w2 PA (papersL l)) at SP2
    change Hid (NS w2 MP (papersL l)) at NP2
    rw [hks] at SP2 NP2
    have hks2 : (dedB (l.map Mk.p)) = ks := hks
    rw [hks2]
    have hkl : ks.length ≤ 500 := by have := dedB_length (l.map Mk.p); rw [hks2, List.length_map, HN.out] at this; omega
    clear hks hks2
    obtain ⟨np, hnp⟩ : ∃ np, ks.length = np := ⟨_, rfl⟩
    rw [hnp]
    have HNP := Lib.hid hnp
    rw [hnp] at hkl
    clear hnp
    have f0 := TB2.out.frozen 0
    have f2 := TB2.out.frozen 2
    have t0 := TB2.out.cell 0 _ rfl
    have t2 := TB2.out.cell 2 _ rfl
    go_wp2_with fail
    have TB3 := Lib.hid (show Blk ((w2.setCell ⟨w1.heap.size, 0, none⟩ (.slice PA np cP)).setCell ⟨w1.heap.size, 2, none⟩ (.map (some MP))) w1.heap.size 49 #[.slice PA np cP, .slice none 0 0, .map (some MP), .map none, .slice none 0 0, .slice none 0 0] from (TB2.out.set_ 0 _).set_ 2 _)
    have SP3 := Lib.hid (show SL ((w2.setCell ⟨w1.heap.size, 0, none⟩ (.slice PA np cP)).setCell ⟨w1.heap.size, 2, none⟩ (.map (some MP))) PA ks from sl_set (sl_set SP2.out (fun g e => by have := (HAP.out g e).1; show g ≠ w1.heap.size; omega) _) (fun g e => by have := (HAP.out g e).1; show g ≠ w1.heap.size; omega) _)
    have NP3 := Lib.hid (show NS ((w2.setCell ⟨w1.heap.size, 0, none⟩ (.slice PA np cP)).setCell ⟨w1.heap.size, 2, none⟩ (.map (some MP))) MP ks from (NP2.out.gr (grownBy_set _ _ _) (fun e => by injection e with e; show False; change MP = w1.heap.size at e; omega)).gr (grownBy_set _ _ _) (fun e => by injection e with e; change MP = w1.heap.size at e; omega))
    have B4 := Lib.hid ((B3.out.setCell (p := ⟨w1.heap.size, 0, none⟩) hz1 (.slice PA np cP)).setCell (p := ⟨w1.heap.size, 2, none⟩) hz1 (.map (some MP)))
    have hz3 : w2.heap.size = ((w2.setCell ⟨w1.heap.size, 0, none⟩ (.slice PA np cP)).setCell ⟨w1.heap.size, 2, none⟩ (.map (some MP))).heap.size := by simp [World.setCell]
    have HZ3 := Lib.hid hz3
    clear hz3 TB2 SP2 NP2 B3 f0 f2 t0 t2
    refine (numbered_h A n cap l _ HN.out (by omega) (HM.out.below B4.out)).mono ?_
    rintro e w4 ⟨HA, cH, MH, rfl, hsl, hab, hmh, hmh2, hns, hb⟩
    rw [← HZ3.out] at hab hmh
    have hz4 : w2.heap.size ≤ w4.heap.size := by have := hb.size; rwa [← HZ3.out] at this
    have TB4 := Lib.hid (TB3.out.below hb (by rw [← HZ3.out]; omega))
    have SP4 := Lib.hid (SP3.out.below hb)
    have NP4 := Lib.hid (NP3.out.below hb)
    have B5 := Lib.hid (B4.out.trans (hb.mono B4.out.size))
    have HAH := Lib.hid hab
    have SH4 := Lib.hid hsl
    have NH4 := Lib.hid hns
    clear TB3 SP3 NP3 B4 hsl hab hns hb HZ3
    obtain ⟨hs, hhs⟩ : ∃ hs, peopleL l = hs := ⟨_, rfl⟩
    have HHS := Lib.hid hhs
    change Hid (SL w4 HA (peopleL l)) at SH4
    change Hid (NS w4 MH (peopleL l)) at NH4
    rw [hhs] at SH4 NH4
    have hhs2 : (dedB (l.map Mk.h)) = hs := hhs
    rw [hhs2]
    have hhl : hs.length ≤ 500 := by have := dedB_length (l.map Mk.h); rw [hhs2, List.length_map, HN.out] at this; omega
    clear hhs hhs2
    obtain ⟨nh, hnh⟩ : ∃ nh, hs.length = nh := ⟨_, rfl⟩
    rw [hnh]
    have HNH := Lib.hid hnh
    rw [hnh] at hhl
    clear hnh
    have f1 := TB4.out.frozen 1
    have f3 := TB4.out.frozen 3
    have t1 := TB4.out.cell 1 _ rfl
    have t3 := TB4.out.cell 3 _ rfl
    go_wp2_with fail
    have TB5 := Lib.hid (show Blk ((w4.setCell ⟨w1.heap.size, 1, none⟩ (.slice HA nh cH)).setCell ⟨w1.heap.size, 3, none⟩ (.map (some MH))) w1.heap.size 49 #[.slice PA np cP, .slice HA nh cH, .map (some MP), .map (some MH), .slice none 0 0, .slice none 0 0] from (TB4.out.set_ 1 _).set_ 3 _)
    have ne1 : ∀ g, PA = some ⟨g, 0, none⟩ → g ≠ w1.heap.size := fun g e => by have := (HAP.out g e).1; omega
    have ne2 : ∀ g, HA = some ⟨g, 0, none⟩ → g ≠ w1.heap.size := fun g e => by have := (HAH.out g e).1; omega
    have ne3 : MP ≠ w1.heap.size := by omega
    have ne4 : MH ≠ w1.heap.size := by omega
    have SP5 := Lib.hid (show SL ((w4.setCell ⟨w1.heap.size, 1, none⟩ (.slice HA nh cH)).setCell ⟨w1.heap.size, 3, none⟩ (.map (some MH))) PA ks from sl_set (sl_set SP4.out ne1 _) ne1 _)
    have SH5 := Lib.hid (show SL ((w4.setCell ⟨w1.heap.size, 1, none⟩ (.slice HA nh cH)).setCell ⟨w1.heap.size, 3, none⟩ (.map (some MH))) HA hs from sl_set (sl_set SH4.out ne2 _) ne2 _)
    have NP5 := Lib.hid (show NS ((w4.setCell ⟨w1.heap.size, 1, none⟩ (.slice HA nh cH)).setCell ⟨w1.heap.size, 3, none⟩ (.map (some MH))) MP ks from (NP4.out.gr (grownBy_set _ _ _) (fun e => ne3 (Option.some.inj e))).gr (grownBy_set _ _ _) (fun e => ne3 (Option.some.inj e)))
    have NH5 := Lib.hid (show NS ((w4.setCell ⟨w1.heap.size, 1, none⟩ (.slice HA nh cH)).setCell ⟨w1.heap.size, 3, none⟩ (.map (some MH))) MH hs from (NH4.out.gr (grownBy_set _ _ _) (fun e => ne4 (Option.some.inj e))).gr (grownBy_set _ _ _) (fun e => ne4 (Option.some.inj e)))
    have B6 := Lib.hid ((B5.out.setCell (p := ⟨w1.heap.size, 1, none⟩) hz1 (.slice HA nh cH)).setCell (p := ⟨w1.heap.size, 3, none⟩) hz1 (.map (some MH)))
    have hz5 : ((w4.setCell ⟨w1.heap.size, 1, none⟩ (.slice HA nh cH)).setCell ⟨w1.heap.size, 3, none⟩ (.map (some MH))).heap.size = w4.heap.size := by simp [World.setCell]
    have HZ5 := Lib.hid hz5
    clear hz5 TB4 SP4 NP4 SH4 NH4 B5 f1 f3 t1 t3 ne1 ne2 ne3 ne4
    generalize ((w4.setCell ⟨w1.heap.size, 1, none⟩ (.slice HA nh cH)).setCell ⟨w1.heap.size, 3, none⟩ (.map (some MH))) = w5 at *
    have t0 := TB5.out.cell 0 _ rfl
    have t1 := TB5.out.cell 1 _ rfl
    have f4 := TB5.out.frozen 4
    have f5 := TB5.out.frozen 5
    have t4 := TB5.out.cell 4 _ rfl
    have t5 := TB5.out.cell 5 _ rfl
    have hlt5 := TB5.out.lt
    have hmk1 : ∀ W : World, (Instr.makeSlice 47 (.int .i64 (np : Int)) (.int .i64 (np : Int))).run Tryz.prog W = .ok (.slice (some ⟨W.heap.size, 0, none⟩) np np) (W.alloc (.cells (madeCells #[.slice none 0 0] np) 74)) := fun W => run_make_row' _ _ _ 24 Tryz.underlying47 infoR rfl .i64 .i64 np (by omega) (by omega) W
    have hmk2 : ∀ W : World, (Instr.makeSlice 47 (.int .i64 (nh : Int)) (.int .i64 (nh : Int))).run Tryz.prog W = .ok (.slice (some ⟨W.heap.size, 0, none⟩) nh nh) (W.alloc (.cells (madeCells #[.slice none 0 0] nh) 74)) := fun W => run_make_row' _ _ _ 24 Tryz.underlying47 infoR rfl .i64 .i64 nh (by omega) (by omega) W
    go_upto_region 7 with fail
    go_cut [] (fun wx => MkJ w5 w1.heap.size #[.slice PA np cP, .slice HA nh cH, .map (some MP), .map (some MH)] np nh wx)
    case first =>
      go_region
      all_goals
        clear hmk1 hmk2
        go_wp2_with fail
        go_meet
        first | (with_reducible exact mkJ_a TB5.out) | (with_reducible exact mkJ_b TB5.out)
    case rest =>
      clear hmk1 hmk2 t0 t1 t4 t5 f4 f5
      obtain ⟨bo, bb, hbo, hbb, hbne, hbo2, hbb2, hg, htb, hro, hrb⟩ := hcut
      rw [HZ5.out] at hbo hbb
      have TB6 := Lib.hid (show Blk wc w1.heap.size 49 #[.slice PA np cP, .slice HA nh cH, .map (some MP), .map (some MH), .slice (some ⟨bo, 0, none⟩) np np, .slice (some ⟨bb, 0, none⟩) nh nh] from htb)
      have ne1 : ∀ g, PA = some ⟨g, 0, none⟩ → g < w4.heap.size ∧ g ≠ w1.heap.size := fun g e => by have := HAP.out g e; omega
      have ne2 : ∀ g, HA = some ⟨g, 0, none⟩ → g < w4.heap.size ∧ g ≠ w1.heap.size := fun g e => by have := HAH.out g e; omega
      have hzc := hg.size
      rw [HZ5.out] at hzc hlt5
      have SP6 := Lib.hid (show SL wc PA ks from ⟨SP5.out.1, fun h0 => by
        obtain ⟨g, hgA, hgl, hc⟩ := SP5.out.2 h0
        exact ⟨g, hgA, Nat.lt_of_lt_of_le hgl hg.size, fun i hi => (Gr.cell hg g i hgl (ne1 g hgA).2).trans (hc i hi)⟩⟩)
      have SH6 := Lib.hid (show SL wc HA hs from ⟨SH5.out.1, fun h0 => by
        obtain ⟨g, hgA, hgl, hc⟩ := SH5.out.2 h0
        exact ⟨g, hgA, Nat.lt_of_lt_of_le hgl hg.size, fun i hi => (Gr.cell hg g i hgl (ne2 g hgA).2).trans (hc i hi)⟩⟩)
      have NP6 := Lib.hid (NP5.out.gr hg (fun e => by have := Option.some.inj e; omega))
      have NH6 := Lib.hid (NH5.out.gr hg (fun e => by have := Option.some.inj e; omega))
      have B7 := Lib.hid (B6.out.trans (Gr.toBelow hg hz1 B6.out.size))
      have HSTAT := Lib.hid (show ∀ W, Two bo bb wc.heap.size wc W → Blk W w1.heap.size 49 #[.slice PA np cP, .slice HA nh cH, .map (some MP), .map (some MH), .slice (some ⟨bo, 0, none⟩) np np, .slice (some ⟨bb, 0, none⟩) nh nh] ∧ SL W PA ks ∧ SL W HA hs ∧ NS W MP ks ∧ NS W MH hs ∧ Below w.heap.size w W from fun W h =>
        ⟨h.blk TB6.out (by omega) (by omega) (by omega), h.sl SP6.out (fun g e => by have := ne1 g e; omega), h.sl SH6.out (fun g e => by have := ne2 g e; omega), h.ns NP6.out (by omega) (by omega) (by omega), h.ns NH6.out (by omega) (by omega) (by omega),
          B7.out.trans ((h.toBelow (D := w.heap.size) (by have := B6.out.size; rw [HZ5.out] at this; omega) (by have := B6.out.size; rw [HZ5.out] at this; omega) B7.out.size))⟩)
      have RO := Lib.hid hro
      have RB := Lib.hid hrb
      have hT6 : w1.heap.size < wc.heap.size := by omega
      clear ne1 ne2 TB5 SP5 SH5 NP5 NH5 B6 hg htb hro hrb TB6 SP6 SH6 NP6 NH6 B7
      obtain ⟨C, hCdef⟩ : ∃ C, wc.heap.size = C := ⟨_, rfl⟩
      have HCD := Lib.hid hCdef
      rw [hCdef] at hbo2 hbb2 hzc hT6
      have F0 := Lib.hid (show Fam wc C (np + nh) (fun _ => .slice none 0 0) (rowX ks hs (l.take 0)) from (Fam.nil wc C (np + nh)).congr (fun i _ => by simp [rowX, rowP, rowH]) (fun _ _ => rfl))
      have TW0 := Lib.hid (Two.refl bo bb C wc)
      have HST2 : Hid (∀ W, Two bo bb C wc W → Blk W w1.heap.size 49 #[.slice PA np cP, .slice HA nh cH, .map (some MP), .map (some MH), .slice (some ⟨bo, 0, none⟩) np np, .slice (some ⟨bb, 0, none⟩) nh nh] ∧ SL W PA ks ∧ SL W HA hs ∧ NS W MP ks ∧ NS W MH hs ∧ Below w.heap.size w W) := Lib.hid (fun W h => HSTAT.out W (by rw [hCdef]; exact h))
      have HKD := Lib.hid (show ks.Nodup by rw [← HKS.out]; exact dedB_nodup _)
      have HHD := Lib.hid (show hs.Nodup by rw [← HHS.out]; exact dedB_nodup _)
      have HKM := Lib.hid (show ∀ x ∈ l, x.p ∈ ks from fun x hx => by rw [← HKS.out]; exact (dedB_mem _ _).2 (List.mem_map.2 ⟨x, hx, rfl⟩))
      have HHM := Lib.hid (show ∀ x ∈ l, x.h ∈ hs from fun x hx => by rw [← HHS.out]; exact (dedB_mem _ _).2 (List.mem_map.2 ⟨x, hx, rfl⟩))
      obtain ⟨i0, hi0, hz0, hz1', hz2'⟩ := info_parts infoC
      have HI := Lib.hid hi0
      have Z0 := Lib.hid hz0
      have Z1 := Lib.hid hz1'
      have Z2 := Lib.hid hz2'
      clear hi0 hz0 hz1' hz2' hCdef HSTAT
      go_wp2_with fail
      go_loopw [59] (fun i wr => ∃ (k : Nat) (v : Nat → Value), k ≤ n ∧ i = .int .i64 k ∧ Hid (Two bo bb C wc wr) ∧ Hid (wr.rowIs bo 74 np v) ∧ Hid (wr.rowIs bb 74 nh (fun j => v (np + j))) ∧ Hid (Fam wr C (np + nh) v (rowX ks hs (l.take k)))) (fun i _ => n - (intOf i).toNat)
      case atStart => exact ⟨0, fun _ => .slice none 0 0, Nat.zero_le _, rfl, TW0, RO, RB, F0⟩
      case round =>
        clear F0 TW0 RO RB
        obtain ⟨k, v, hk, rfl, HTW, HRO, HRB, HF⟩ := hrel
        have hCr : C ≤ wr.heap.size := by have := HTW.out.size; rwa [HCD.out] at this
        by_cases hlt : k < n
        · have hkl : k < l.length := by rw [HN.out]; exact hlt
          obtain ⟨g, hA, hgW, hcl⟩ := HM.out.2 (by omega)
          subst hA
          obtain ⟨d0, d1, d2⟩ := hcl k hkl
          have hBW := (HST2.out wr HTW.out).2.2.2.2.2
          have c0 := (hBW.cell (p := ⟨g, k * 3, none⟩) hgW).trans d0
          have c1 := (hBW.cell (p := ⟨g, k * 3 + 1, none⟩) hgW).trans d1
          have c2 := (hBW.cell (p := ⟨g, k * 3 + 2, none⟩) hgW).trans d2
          have hx := HM.out.1 _ (List.getElem_mem hkl)
          have hxp := HKM.out _ (List.getElem_mem hkl)
          have hxh := HHM.out _ (List.getElem_mem hkl)
          have HTN := Lib.hid (take_next l k hkl)
          clear hcl d0 d1 d2 hBW
          generalize l[k] = x at *
          obtain ⟨hx0, hx1, hx2, hx3⟩ := hx
          have a0 : (0 : Int) ≤ (k : Int) := by omega
          have a1 : (k : Int) < (n : Int) := by omega
          obtain ⟨ip, hip⟩ : ∃ ip, idx ks x.p = ip := ⟨_, rfl⟩
          obtain ⟨jh, hjh⟩ : ∃ jh, idx hs x.h = jh := ⟨_, rfl⟩
          have hipl : ip < np := by have := (idx_at hxp).1; rw [hip, HNP.out] at this; exact this
          have hjhl : jh < nh := by have := (idx_at hxh).1; rw [hjh, HNH.out] at this; exact this
          have HXN := Lib.hid (fun i => rowX_snoc (ks := ks) (hs := hs) (l := l.take k) (x := x) hip.symm hjh.symm (by rw [HNP.out]; exact hipl) i)
          have TA := Lib.hid (HTW.out.alloc hCr (.cells #[.string x.p, .string x.h, .int .i64 x.s] 59))
          have MA := Lib.hid (Blk.new wr 59 #[.string x.p, .string x.h, .int .i64 x.s])
          have ROA := Lib.hid (HRO.out.alloc (.cells #[.string x.p, .string x.h, .int .i64 x.s] 59))
          have RBA := Lib.hid (HRB.out.alloc (.cells #[.string x.p, .string x.h, .int .i64 x.s] 59))
          have FA := Lib.hid (fam_alloc HF.out (.cells #[.string x.p, .string x.h, .int .i64 x.s] 59))
          have L1 : Hid (∀ m, (Instr.lookup 46 (.map (some MP)) (.string x.p) false).run Tryz.prog ((wr.alloc (.cells #[.string x.p, .string x.h, .int .i64 x.s] 59)).drewN m) = .ok (.int .i64 (ip : Int)) ((wr.alloc (.cells #[.string x.p, .string x.h, .int .i64 x.s] 59)).drewN m)) := Lib.hid fun m => by
            have := ns_look (HST2.out _ (TA.out.drewN m)).2.2.2.1 HKD.out hxp hx0; rw [hip] at this; exact this
          have L2 : Hid (∀ m, (Instr.lookup 46 (.map (some MH)) (.string x.h) false).run Tryz.prog ((wr.alloc (.cells #[.string x.p, .string x.h, .int .i64 x.s] 59)).drewN m) = .ok (.int .i64 (jh : Int)) ((wr.alloc (.cells #[.string x.p, .string x.h, .int .i64 x.s] 59)).drewN m)) := Lib.hid fun m => by
            have := ns_look (HST2.out _ (TA.out.drewN m)).2.2.2.2.1 HHD.out hxh hx1; rw [hjh] at this; exact this
          have hTr := (HST2.out wr HTW.out).1
          have t2 := hTr.cell 2 _ rfl
          have t3 := hTr.cell 3 _ rfl
          have hTl := hTr.lt
          have HLOW := Lib.hid (show ∀ i, i < np + nh → ∀ g, (v i).ownBlock = some g → g < wr.heap.size from fun i hi g hg => (HF.out.low hi hg).2)
          clear hip hjh hxp hxh hTr HTW HRO HRB HF
          go_wp2_with fail
          have l1 := L1.out
          have l2 := L2.out
          go_quiet (fail)
          clear l1 l2 L1 L2 t2 t3 c0 c1 c2
          have TB := Lib.hid (TA.out.drewN nq)
          have MB := Lib.hid (show Blk ((wr.alloc (.cells #[.string x.p, .string x.h, .int .i64 x.s] 59)).drewN nq) wr.heap.size 59 #[.string x.p, .string x.h, .int .i64 x.s] from MA.out)
          have ROB := Lib.hid (show ((wr.alloc (.cells #[.string x.p, .string x.h, .int .i64 x.s] 59)).drewN nq).rowIs bo 74 np v from ROA.out)
          have RBB := Lib.hid (show ((wr.alloc (.cells #[.string x.p, .string x.h, .int .i64 x.s] 59)).drewN nq).rowIs bb 74 nh (fun j => v (np + j)) from RBA.out)
          have FB := Lib.hid (fam_drewN FA.out nq)
          have hzb : ((wr.alloc (.cells #[.string x.p, .string x.h, .int .i64 x.s] 59)).drewN nq).heap.size = wr.heap.size + 1 := by simp
          have HZB := Lib.hid hzb
          clear hzb TA MA ROA RBA FA
          generalize ((wr.alloc (.cells #[.string x.p, .string x.h, .int .i64 x.s] 59)).drewN nq) = wb at *
          have b0 : (0 : Int) ≤ (ip : Int) := by omega
          have b1 : (ip : Int) < (np : Int) := by omega
          have b2 : (0 : Int) ≤ (jh : Int) := by omega
          have b3 : (jh : Int) < (nh : Int) := by omega
          have NB := Lib.hid (show ∀ i, i < np + nh → (v i).ownBlock ≠ some wr.heap.size from fun i hi e => by have := HLOW.out i hi _ e; omega)
          have HXB7 := Lib.hid (show (rowX ks hs (l.take k) ip).length ≤ 600 by have h1 := rowX_len ks hs (l.take k) ip; rw [List.length_take] at h1; omega)
          clear HLOW
          have hC7 : C ≤ wb.heap.size := by have := TB.out.size; rw [HCD.out] at this; exact this
          obtain ⟨m7, hm7⟩ : ∃ m, (rowX ks hs (l.take k) ip).length = m := ⟨_, rfl⟩
          have hmb7 : m7 ≤ 600 := by rw [← hm7]; exact HXB7.out
          obtain ⟨RA7, cR7, hv7⟩ := FB.out.form (i := ip) (by omega)
          rw [hm7] at hv7
          have r7 : wb.cell? ⟨bo, ip, none⟩ = some (.slice RA7 m7 cR7) := by rw [ROB.out.cell hipl]; exact congrArg some hv7
          have OW7 := Lib.hid (show wb.ownsRow C 76 2 (.slice RA7 m7 cR7) m7 (flatC (rowX ks hs (l.take k) ip)) by have := (FB.out ip (by omega)).1; rw [hv7, hm7] at this; exact this)
          have HLW7 := Lib.hid (show ∀ g, (Value.slice RA7 m7 cR7).ownBlock = some g → C ≤ g from fun g hg => (OW7.out.lt g hg).1)
          have HNM7 := Lib.hid (show (Value.slice RA7 m7 cR7).ownBlock ≠ some wr.heap.size from fun e => NB.out ip (by omega) (by rw [hv7]; exact e))
          have HV7 := Lib.hid hv7
          have HMm7 := Lib.hid hm7
          have mm7 := MB.out.cell 2 _ rfl
          have tt7 := (HST2.out wb TB.out).1.cell 4 _ rfl
          have tl7 := (HST2.out wb TB.out).1.lt
          have bl77 : bo < wb.heap.size := by omega
          have bl87 : bb < wb.heap.size := by omega
          have bl97 : wr.heap.size < wb.heap.size := MB.out.lt
          have HK7 := Lib.hid (show wr.heap.size < wb.heap.size + 1 by omega)
          clear hv7 hm7
          go_upto_region 12 with fail
          go_cut [] (fun wx => StJ bo bb C np nh wr.heap.size wc #[.string x.p, .string x.h, .int .i64 x.s] (fun j => if j = ip then rowX ks hs (l.take k) ip ++ [(jh, x.s)] else rowX ks hs (l.take k) j) wx)
          case first =>
            go_region_law ((first
              | (refine step_append_lies _ (by rfl) _ _ _ (by rfl) C 76 i0 _ 2 16 Tryz.underlying74 HI.out Z0.out Z1.out Z2.out rfl (by omega) (.slice RA7 m7 cR7) m7 (flatC (rowX ks hs (l.take k) ip)) (by rfl) (World.ownsRow.alloc (show (wb.drew).ownsRow C 76 2 (.slice RA7 m7 cR7) m7 (flatC (rowX ks hs (l.take k) ip)) from OW7.out) _)
                   ⟨wb.heap.size, 0, none⟩ 1 1 [.int .i64 (jh : Int), .int .i64 x.s] (by rfl) (by rfl) (World.news_of_block (cs := #[.int .i64 (jh : Int), .int .i64 x.s]) (t := 76) (fr := (0, 0)) (new_at (by simp))) (by simp [Value.oneCell'])
                   (by omega) (by unfold maxLen; omega) (by omega) (by simp; omega) (wb.heap.size + 1) (by simp) ?_
                 intro gg7 cap7 w7 hown hgrow hat hgl
                 have F7 := Lib.hid (fam_stepD (y := (jh, x.s)) FB.out (by omega) HV7.out HMm7.out hown hgrow hat)
                 have T7 := Lib.hid (two_stepD TB.out hC7 hgrow HLW7.out)
                 have RO7 := Lib.hid (row_stepD ROB.out hbo2 hgrow HLW7.out)
                 have RB7 := Lib.hid (row_stepD RBB.out hbb2 hgrow HLW7.out)
                 have M7 := Lib.hid (blk_stepD MB.out HNM7.out hgrow)
                 have q7 := RO7.out.cell hipl
                 have qf7 := RO7.out.frozen ip
                 have tu7 := (HST2.out w7 T7.out).1.cell 4 _ rfl
                 have HAT7 := Lib.hid hat
                 clear hown hgrow hat hgl)))
            all_goals
              go_wp2_with fail
              go_meet
              with_reducible exact stJ_o T7.out M7.out RO7.out RB7.out F7.out NB.out hipl HV7.out HAT7.out HK7.out hbo2 hbne hCr
          case rest =>
            obtain ⟨v2, hT2, hM2, hRO2, hRB2, hF2, hN2⟩ := hcut
            clear TB MB ROB RBB FB NB OW7 HLW7 HNM7 HV7 HMm7 mm7 tt7 tl7 r7 hC7 bl77 bl87 bl97 HK7 HXB7
            obtain ⟨X2, hX2⟩ : ∃ X2, (fun j => if j = ip then rowX ks hs (l.take k) ip ++ [(jh, x.s)] else rowX ks hs (l.take k) j) = X2 := ⟨_, rfl⟩
            rw [hX2] at hF2
            have HX2 := Lib.hid hX2
            have HXB8 := Lib.hid (show (X2 (np + jh)).length ≤ 600 by rw [← hX2]; show (if np + jh = ip then _ else _ : List (Nat × Int)).length ≤ 600; rw [if_neg (by omega)]; have h1 := rowX_len ks hs (l.take k) (np + jh); rw [List.length_take] at h1; omega)
            have T2 := Lib.hid hT2
            have M2 := Lib.hid hM2
            have RO2 := Lib.hid hRO2
            have RB2 := Lib.hid hRB2
            have F2 := Lib.hid hF2
            have N2 := Lib.hid hN2
            clear hX2 hT2 hM2 hRO2 hRB2 hF2 hN2
            rename World => wq
            have hC8 : C ≤ wq.heap.size := by have := T2.out.size; rw [HCD.out] at this; exact this
            obtain ⟨m8, hm8⟩ : ∃ m, (X2 (np + jh)).length = m := ⟨_, rfl⟩
            have hmb8 : m8 ≤ 600 := by rw [← hm8]; exact HXB8.out
            obtain ⟨RA8, cR8, hv8⟩ := F2.out.form (i := (np + jh)) (by omega)
            rw [hm8] at hv8
            have r8 : wq.cell? ⟨bb, jh, none⟩ = some (.slice RA8 m8 cR8) := by rw [RB2.out.cell hjhl]; exact congrArg some hv8
            have OW8 := Lib.hid (show wq.ownsRow C 76 2 (.slice RA8 m8 cR8) m8 (flatC (X2 (np + jh))) by have := (F2.out (np + jh) (by omega)).1; rw [hv8, hm8] at this; exact this)
            have HLW8 := Lib.hid (show ∀ g, (Value.slice RA8 m8 cR8).ownBlock = some g → C ≤ g from fun g hg => (OW8.out.lt g hg).1)
            have HNM8 := Lib.hid (show (Value.slice RA8 m8 cR8).ownBlock ≠ some wr.heap.size from fun e => N2.out (np + jh) (by omega) (by rw [hv8]; exact e))
            have HV8 := Lib.hid hv8
            have HMm8 := Lib.hid hm8
            have mm8 := M2.out.cell 2 _ rfl
            have tt8 := (HST2.out wq T2.out).1.cell 5 _ rfl
            have tl8 := (HST2.out wq T2.out).1.lt
            have bl78 : bo < wq.heap.size := by omega
            have bl88 : bb < wq.heap.size := by omega
            have bl98 : wr.heap.size < wq.heap.size := M2.out.lt
            have HK8 := Lib.hid (show wr.heap.size < wq.heap.size + 1 by omega)
            clear hv8 hm8
            go_wp2_with fail
            go_region_law ((first
              | (refine step_append_lies _ (by rfl) _ _ _ (by rfl) C 76 i0 _ 2 16 Tryz.underlying74 HI.out Z0.out Z1.out Z2.out rfl (by omega) (.slice RA8 m8 cR8) m8 (flatC (X2 (np + jh))) (by rfl) (World.ownsRow.alloc (show (wq.drew).ownsRow C 76 2 (.slice RA8 m8 cR8) m8 (flatC (X2 (np + jh))) from OW8.out) _)
                   ⟨wq.heap.size, 0, none⟩ 1 1 [.int .i64 (ip : Int), .int .i64 x.s] (by rfl) (by rfl) (World.news_of_block (cs := #[.int .i64 (ip : Int), .int .i64 x.s]) (t := 76) (fr := (0, 0)) (new_at (by simp))) (by simp [Value.oneCell'])
                   (by omega) (by unfold maxLen; omega) (by omega) (by simp; omega) (wq.heap.size + 1) (by simp) ?_
                 intro gg8 cap8 w8 hown hgrow hat hgl
                 have F8 := Lib.hid (fam_stepD (y := (ip, x.s)) F2.out (by omega) HV8.out HMm8.out hown hgrow hat)
                 have T8 := Lib.hid (two_stepD T2.out hC8 hgrow HLW8.out)
                 have RO8 := Lib.hid (row_stepD RO2.out hbo2 hgrow HLW8.out)
                 have RB8 := Lib.hid (row_stepD RB2.out hbb2 hgrow HLW8.out)
                 have M8 := Lib.hid (blk_stepD M2.out HNM8.out hgrow)
                 have q8 := RB8.out.cell hjhl
                 have qf8 := RB8.out.frozen jh
                 have tu8 := (HST2.out w8 T8.out).1.cell 5 _ rfl
                 have HJ8 := Lib.hid (show StJ bo bb C np nh wr.heap.size wc #[.string x.p, .string x.h, .int .i64 x.s] (fun j => if j = np + jh then X2 (np + jh) ++ [(ip, x.s)] else X2 j) (w8.setCell ⟨bb, jh, none⟩ (.slice (some ⟨gg8, 0, none⟩) (m8 + 1) cap8)) from stJ_b T8.out M8.out RO8.out RB8.out F8.out N2.out hjhl HV8.out hat HK8.out hbb2 hbne hCr)
                 clear hown hgrow hat hgl)))
            all_goals
              clear T2 M2 RO2 RB2 F2 N2 OW8 HLW8 HNM8 HV8 HMm8 mm8 r8 hC8 HK8 HXB8
              go_wp2_with fail
              go_roundw
              case rel =>
                obtain ⟨v3, hT3, hM3, hRO3, hRB3, hF3, hN3⟩ := HJ8.out
                refine ⟨k + 1, v3, by omega, by go_num, Lib.hid hT3, Lib.hid hRO3, Lib.hid hRB3, Lib.hid (hF3.congr (X' := rowX ks hs (l.take (k + 1))) (fun i _ => ?_) (fun _ _ => rfl))⟩
                have h := HXN.out i
                rw [HNP.out] at h
                rw [HTN.out, ← h]
                show (if i = np + jh then X2 (np + jh) ++ [(ip, x.s)] else X2 i) = _
                rw [← HX2.out]
                by_cases hi : i = np + jh
                · rw [if_pos hi, if_pos hi]
                  show (if np + jh = ip then _ else _) ++ _ = _
                  rw [if_neg (by omega)]
                · rw [if_neg hi, if_neg hi]
              case measure => simp [intOf]; omega
        · have hkn : k = n := by omega
          subst hkn
          have HFIN := HF
          have hres : Tab wr w1.heap.size l := by
            obtain ⟨s1, s2, s3, s4, s5, s6⟩ := HST2.out wr HTW.out
            unfold Tab
            rw [HKS.out, HHS.out, HNP.out, HNH.out]
            refine ⟨PA, HA, cP, cH, MP, MH, bo, bb, v, s1, s2, s3, s4, s5, HRO.out, HRB.out, fun i hi => ?_⟩
            have := (HF.out i hi).1
            rw [List.take_of_length_le (by rw [HN.out]; exact Nat.le_refl _)] at this
            exact own_scl this
          have HRES := Lib.hid hres
          have hbf := Lib.hid (HST2.out wr HTW.out).2.2.2.2.2
          clear hres
          go_wp2_with fail
          go_ret2
          exact ⟨hbf.out, Or.inr ⟨rfl, _, rfl, hz1, HRES.out⟩⟩
  · have HR0 := Lib.hid hr0
    have e1 : (r != 0) = true := by simpa using hr0
    clear hr0
    go_enter Tryz.func15, Tryz.ntmps15
    go_wp2_with fail
    refine (HCK.out).mono ?_; rintro e w1 ⟨rfl, hb1⟩
    have B1 := Lib.hid hb1
    clear hb1 HCK
    go_wp2_with fail
    go_ret2
    exact ⟨B1.out, Or.inl ⟨HR0.out, rfl⟩⟩
end Go.Proofs.YthhiefpickpiaaaGreatDoor.Cal
