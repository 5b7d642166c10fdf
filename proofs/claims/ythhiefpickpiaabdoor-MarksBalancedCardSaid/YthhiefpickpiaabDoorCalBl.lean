/-
  MARKS: (*table).balanced.
-/
import Derived.Test.YthhiefpickpiaabDoorCalBv
import Derived.StillTailTactics
import Derived.Deep.RegionLaw
import Derived.Deep.CutBlock
import Derived.Deep.DeepCutAuto
namespace Go.Proofs.YthhiefpickpiaabDoor.Cal
open Go.ChangeShapes Go.WideShapes Go.ChangeAt Go.RowKit Stm Key
set_option linter.unusedVariables false

/-- Behind the two makes. -/
def MkI (w : World) (np nh : Nat) (u v : Value) (wx : World) : Prop := ∃ bw bb, w.heap.size ≤ bw ∧ w.heap.size ≤ bb ∧ bw ≠ bb ∧ u = .slice (some ⟨bw, 0, none⟩) np np ∧ v = .slice (some ⟨bb, 0, none⟩) nh nh ∧ Below w.heap.size w wx ∧
  wx.rowIs bw 3 np (fun _ => .int .i64 0) ∧ wx.rowIs bb 3 nh (fun _ => .int .i64 0)
theorem mkI_a (w : World) (np nh : Nat) : MkI w np nh (.slice (some ⟨w.heap.size, 0, none⟩) np np) (.slice (some ⟨w.heap.size + 1, 0, none⟩) nh nh) (((w.alloc (.cells (madeCells #[.int .i64 0] np) 3)).alloc (.cells (madeCells #[.int .i64 0] nh) 3)).drew) := by
  refine ⟨w.heap.size, w.heap.size + 1, Nat.le_refl _, by omega, by omega, rfl, rfl, ?_, ?_, ?_⟩
  · exact Stm.Below.drewN (((Below.refl _ _).alloc (Nat.le_refl _) _).alloc (by simp) _) 1
  · exact ((World.rowIs_made w (.int .i64 0) np 3).alloc _).drew
  · have := World.rowIs_made (w.alloc (.cells (madeCells #[.int .i64 0] np) 3)) (.int .i64 0) nh 3
    have e : (w.alloc (.cells (madeCells #[.int .i64 0] np) 3)).heap.size = w.heap.size + 1 := by simp
    rw [e] at this; exact this.drew
theorem mkI_b (w : World) (np nh : Nat) : MkI w np nh (.slice (some ⟨w.heap.size + 1, 0, none⟩) np np) (.slice (some ⟨w.heap.size, 0, none⟩) nh nh) (((w.alloc (.cells (madeCells #[.int .i64 0] nh) 3)).alloc (.cells (madeCells #[.int .i64 0] np) 3)).drew) := by
  refine ⟨w.heap.size + 1, w.heap.size, by omega, Nat.le_refl _, by omega, rfl, rfl, ?_, ?_, ?_⟩
  · exact Stm.Below.drewN (((Below.refl _ _).alloc (Nat.le_refl _) _).alloc (by simp) _) 1
  · have := World.rowIs_made (w.alloc (.cells (madeCells #[.int .i64 0] nh) 3)) (.int .i64 0) np 3
    have e : (w.alloc (.cells (madeCells #[.int .i64 0] nh) 3)).heap.size = w.heap.size + 1 := by simp
    rw [e] at this; exact this.drew
  · exact ((World.rowIs_made w (.int .i64 0) nh 3).alloc _).drew
/-- What balanced hands back. -/
def BalRet (l : List Mk) (r : Nat) (w : World) (e : Ending) (w' : World) : Prop := ∃ bw bb, e = .returned (.tuple #[.slice (some ⟨bw, 0, none⟩) (papersL l).length (papersL l).length, .slice (some ⟨bb, 0, none⟩) (peopleL l).length (peopleL l).length]) ∧
  w'.rowIs bw 3 (papersL l).length (fun i => .int .i64 ((bal (papersL l) (peopleL l) l r).1 i)) ∧ w'.rowIs bb 3 (peopleL l).length (fun i => .int .i64 ((bal (papersL l) (peopleL l) l r).2 i)) ∧ Below w.heap.size w w'
theorem rowIs_below {w w' : World} {b n : Nat} {t : TypeId} {f : Nat → Value} (h : w.rowIs b t n f) (hb : Below w.heap.size w w') : w'.rowIs b t n f := h.of_block (hb.block b h.lt)
set_option maxRecDepth 100000 in
set_option maxHeartbeats 8000000 in
theorem balanced_walk (T r : Nat) (l : List Mk) (w : World) (hn : l.length ≤ 500) (hT : Tab w T l) (hs : ∀ x ∈ l, 0 ≤ x.s ∧ x.s ≤ 10) (hr : r ≤ 100) :
    Calls Tryd.prog 14 #[.pointer (some ⟨T, 0, none⟩), .int .i64 r, .int .i64 (-1)] w (BalRet l r w) := by
  obtain ⟨P, H, cP, cH, MP, MH, bo, bb, v, h1, h2, h3, h4, h5, h6, h7, h8⟩ := hT
  have hBR : ∀ e w', BalRet l r w e w' ↔ BalRet l r w e w' := fun _ _ => Iff.rfl
  unfold BalRet
  have hrp : ∀ i, i < (papersL l).length → rowX (papersL l) (peopleL l) l i = rowP (papersL l) (peopleL l) l i := fun i hi => by unfold rowX; rw [if_pos hi]
  have hrh : ∀ j, rowX (papersL l) (peopleL l) l ((papersL l).length + j) = rowH (papersL l) (peopleL l) l j := fun j => by unfold rowX; rw [if_neg (by omega), Nat.add_sub_cancel_left]
  have hap := fun i => rowP_at (ks := papersL l) (h_mem l) i
  have hah := fun i => rowH_at (hs := peopleL l) (p_mem l) i
  have hnp : (papersL l).length ≤ 500 := Nat.le_trans (dedB_length _) (by rw [List.length_map]; exact hn)
  have hnh : (peopleL l).length ≤ 500 := Nat.le_trans (dedB_length _) (by rw [List.length_map]; exact hn)
  clear hBR h2 h3 h4 h5
  generalize papersL l = ks at *
  generalize peopleL l = hs' at *
  obtain ⟨np, he⟩ : ∃ np, ks.length = np := ⟨_, rfl⟩
  rw [he] at h1 h6 h7 h8 hrp hrh hah hnp ⊢
  clear he
  obtain ⟨nh, he⟩ : ∃ nh, hs'.length = nh := ⟨_, rfl⟩
  rw [he] at h1 h7 h8 hap hnh ⊢
  clear he
  have HBD := Lib.hid (fun k => bal_bd (ks := ks) (hs := hs') hs k)
  have HSP := Lib.hid (fun i => rowP_sc ks hs' hs i)
  have HSH := Lib.hid (fun i => rowH_sc ks hs' hs i)
  have HLP := Lib.hid (fun i => Nat.le_trans (rowP_len ks hs' l i) hn)
  have HLH := Lib.hid (fun i => Nat.le_trans (rowH_len ks hs' l i) hn)
  have HAP := Lib.hid hap
  have HAH := Lib.hid hah
  have HTB := Lib.hid (fun W (hW : Below w.heap.size w W) => h1.below hW h1.lt)
  have HRO := Lib.hid (fun W (hW : Below w.heap.size w W) => rowIs_below h6 hW)
  have HRB := Lib.hid (fun W (hW : Below w.heap.size w W) => rowIs_below h7 hW)
  have HRP := Lib.hid (show ∀ i, i < np → SCL w (v i) (rowP ks hs' l i) from fun i hi => by rw [← hrp i hi]; exact h8 i (by omega))
  have HRH := Lib.hid (show ∀ j, j < nh → SCL w (v (np + j)) (rowH ks hs' l j) from fun j hj => by rw [← hrh j]; exact h8 (np + j) (by omega))
  have hTl := h1.lt
  have hol := h6.lt
  have hbl := h7.lt
  have t0 := h1.cell 0 _ rfl
  have t1 := h1.cell 1 _ rfl
  clear h1 h6 h7 h8 hrp hrh hap hah hs hn
  have hmk1 : ∀ W : World, (Instr.makeSlice 22 (.int .i64 (np : Int)) (.int .i64 (np : Int))).run Tryd.prog W = .ok (.slice (some ⟨W.heap.size, 0, none⟩) np np) (W.alloc (.cells (madeCells #[.int .i64 0] np) 3)) := fun W => run_make_row' _ _ _ 8 Tryd.underlying22 infoI1 rfl .i64 .i64 np (by omega) (by omega) W
  have hmk2 : ∀ W : World, (Instr.makeSlice 22 (.int .i64 (nh : Int)) (.int .i64 (nh : Int))).run Tryd.prog W = .ok (.slice (some ⟨W.heap.size, 0, none⟩) nh nh) (W.alloc (.cells (madeCells #[.int .i64 0] nh) 3)) := fun W => run_make_row' _ _ _ 8 Tryd.underlying22 infoI1 rfl .i64 .i64 nh (by omega) (by omega) W
  go_enter Tryd.func14, Tryd.ntmps14
  go_upto_region 1 with fail
  go_cut [6, 7] (fun x y wx => MkI w np nh x y wx)
  case first =>
    go_region
    all_goals
      clear hmk1 hmk2
      go_wp2_with fail
      go_meet
      first | (with_reducible exact mkI_a w np nh) | (with_reducible exact mkI_b w np nh)
  case rest =>
    clear hmk1 hmk2 t0 t1
    obtain ⟨bw, bs, hbw, hbs, hne, rfl, rfl, hB, hW, hS⟩ := hcut
    have BC := Lib.hid hB
    have WC := Lib.hid hW
    have SC := Lib.hid hS
    clear hB hW hS
    go_wp2_with fail
    go_loopw [25] (fun i wr => ∃ k : Nat, k ≤ r ∧ i = .int .i64 k ∧ Hid (wr.rowIs bw 3 np (fun j => .int .i64 ((bal ks hs' l k).1 j))) ∧ Hid (wr.rowIs bs 3 nh (fun j => .int .i64 ((bal ks hs' l k).2 j))) ∧ Hid (Below w.heap.size w wr)) (fun i _ => r - (intOf i).toNat)
    case atStart => exact ⟨0, Nat.zero_le _, rfl, WC, SC, BC⟩
    case round =>
      clear WC SC BC
      obtain ⟨k, hk, rfl, HW, HS, HB⟩ := hrel
      rename World => wo
      by_cases hlt : k < r
      · have hzo := HB.out.size
        have hTB := HTB.out _ HB.out
        have t4 := hTB.cell 4 _ rfl
        have hk0 : (0 : Int) ≤ (k : Int) := by omega
        have hk1 : (k : Int) < (r : Int) := by omega
        clear hTB
        go_wp2_with fail
        go_loopw [32] (fun i wr => ∃ p : Nat, p ≤ np ∧ i = .int .i64 p ∧ Hid (wr.rowIs bw 3 np (fun j => .int .i64 (if j < p then (bal ks hs' l (k + 1)).1 j else (bal ks hs' l k).1 j))) ∧ Hid (wr.rowIs bs 3 nh (fun j => .int .i64 ((bal ks hs' l k).2 j))) ∧ Hid (Below w.heap.size w wr)) (fun i _ => np - (intOf i).toNat)
        case atStart => exact ⟨0, Nat.zero_le _, rfl, Lib.hid (HW.out.congr (fun j _ => by simp)), HS, HB⟩
        case round =>
          clear HW HS HB hzo t4
          obtain ⟨p, hp, rfl, HW, HS, HB⟩ := hrel
          have hzr := HB.out.size
          by_cases hplt : p < np
          · obtain ⟨RA, cR, hv, hcells⟩ := HRP.out p hplt
            have r0 := (HRO.out _ HB.out).cell hplt
            rw [hv] at r0
            have hSC : SCL wr (v p) (rowP ks hs' l p) := SCL.below (HRP.out p hplt) HB.out
            rw [hv] at hSC
            have HCALL := Lib.hid (rest_walk _ (rowP ks hs' l p) bs nh (bal ks hs' l k).2 wr (HLP.out p) hSC HS.out (by omega) (HAP.out p) (fun y hy => ⟨HSP.out p y hy, by have := (HBD.out k).2 y.1; omega⟩))
            have q0 : (0 : Int) ≤ (p : Int) := by omega
            have q1 : (p : Int) < (np : Int) := by omega
            clear hcells hv hSC
            go_wp2_with fail
            refine (HCALL.out).mono ?_; rintro e w1 ⟨rfl, hb1⟩
            have W1 := Lib.hid (rowIs_below HW.out hb1)
            have S1 := Lib.hid (rowIs_below HS.out hb1)
            have B1 := Lib.hid (HB.out.trans (hb1.mono hzr))
            have f1 := W1.out.frozen p
            have z1 := W1.out.cell hplt
            have l1 := W1.out.lt
            clear HCALL hb1 HW HS HB r0
            go_wp2_with fail
            go_roundw
            case rel => exact ⟨p + 1, by omega, by go_num, Lib.hid ((W1.out.set p _).congr (fun j hj => by
                by_cases h : j = p
                · subst h; rw [if_pos rfl, if_pos (by omega)]; rfl
                · rw [if_neg h]
                  by_cases h2 : j < p
                  · rw [if_pos h2, if_pos (by omega)]
                  · rw [if_neg h2, if_neg (by omega)])), Lib.hid (S1.out.setOther (Ne.symm hne) _), Lib.hid (B1.out.setCell (p := ⟨bw, p, none⟩) hbw _)⟩
            case measure => simp [intOf]; omega
          · obtain rfl : np = p := by omega
            have W0 := Lib.hid (HW.out.congr (g := fun j => .int .i64 ((bal ks hs' l (k + 1)).1 j)) (fun j hj => by rw [if_pos hj]))
            have t5 := (HTB.out _ HB.out).cell 5 _ rfl
            have hTlr : T < wr.heap.size := by omega
            clear HW
            go_wp2_with fail
            go_loopw [50] (fun i wr => ∃ p : Nat, p ≤ nh ∧ i = .int .i64 p ∧ Hid (wr.rowIs bw 3 np (fun j => .int .i64 ((bal ks hs' l (k + 1)).1 j))) ∧ Hid (wr.rowIs bs 3 nh (fun j => .int .i64 (if j < p then (bal ks hs' l (k + 1)).2 j else (bal ks hs' l k).2 j))) ∧ Hid (Below w.heap.size w wr)) (fun i _ => nh - (intOf i).toNat)
            case atStart => exact ⟨0, Nat.zero_le _, rfl, W0, Lib.hid (HS.out.congr (fun j _ => by simp)), HB⟩
            case round =>
              clear W0 HS HB hzr t5 hTlr
              obtain ⟨p, hp, rfl, HW, HS, HB⟩ := hrel
              have hzr := HB.out.size
              by_cases hplt : p < nh
              · obtain ⟨RA, cR, hv, hcells⟩ := HRH.out p hplt
                have r0 := (HRB.out _ HB.out).cell hplt
                simp only [hv] at r0
                have hSC : SCL wr (v (np + p)) (rowH ks hs' l p) := SCL.below (HRH.out p hplt) HB.out
                rw [hv] at hSC
                have HCALL := Lib.hid (rest_walk _ (rowH ks hs' l p) bw np (bal ks hs' l (k + 1)).1 wr (HLH.out p) hSC HW.out (by omega) (HAH.out p) (fun y hy => ⟨HSH.out p y hy, by have := (HBD.out (k + 1)).1 y.1; push_cast at this; omega⟩))
                have q0 : (0 : Int) ≤ (p : Int) := by omega
                have q1 : (p : Int) < (nh : Int) := by omega
                have hne1 : ((p : Int) != -1) = true := by simp
                clear hcells hv hSC
                go_wp2_with fail
                refine (HCALL.out).mono ?_; rintro e w1 ⟨rfl, hb1⟩
                have W1 := Lib.hid (rowIs_below HW.out hb1)
                have S1 := Lib.hid (rowIs_below HS.out hb1)
                have B1 := Lib.hid (HB.out.trans (hb1.mono hzr))
                have f1 := S1.out.frozen p
                have z1 := S1.out.cell hplt
                have l1 := S1.out.lt
                clear HCALL hb1 HW HS HB r0
                go_wp2_with fail
                go_roundw
                case rel => exact ⟨p + 1, by omega, by go_num, Lib.hid (W1.out.setOther hne _), Lib.hid ((S1.out.set p _).congr (fun j hj => by
                    by_cases h : j = p
                    · subst h; rw [if_pos rfl, if_pos (by omega)]; rfl
                    · rw [if_neg h]
                      by_cases h2 : j < p
                      · rw [if_pos h2, if_pos (by omega)]
                      · rw [if_neg h2, if_neg (by omega)])), Lib.hid (B1.out.setCell (p := ⟨bs, p, none⟩) hbs _)⟩
                case measure => simp [intOf]; omega
              · obtain rfl : nh = p := by omega
                go_wp2_with fail
                go_roundw
                case rel => exact ⟨k + 1, by omega, by go_num, HW, Lib.hid (HS.out.congr (fun j hj => by rw [if_pos hj])), HB⟩
                case measure => simp [intOf]; omega
      · have hkr : k = r := by omega
        subst hkr
        go_wp2_with fail
        go_ret2
        exact ⟨bw, bs, rfl, HW.out, HS.out, HB.out⟩
end Go.Proofs.YthhiefpickpiaabDoor.Cal
