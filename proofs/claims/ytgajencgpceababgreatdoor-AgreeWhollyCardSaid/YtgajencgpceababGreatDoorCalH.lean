/-
  MARKS: the walk of committeekeep1.agrees.
-/
import Derived.Test.YtgajencgpceababGreatDoorCalG
namespace Go.Proofs.YtgajencgpceababGreatDoor.Cal
open Go.Shelf Go.Lib Go.Sort
open Go.ChangeShapes Go.WideShapes Go.ChangeAt Go.RowKit Stm Key
set_option linter.unusedVariables false

set_option maxRecDepth 100000 in
set_option maxHeartbeats 8000000 in
theorem agrees_walk (A : Option Addr) (n cap : Nat) (l : List Mk) (w : World) (hn : l.length = n) (hn2 : n ≤ 256) (hM : ML w A l) :
    Calls Tryz.prog 9 #[.slice A n cap] w (AgB l w) := by
  have HN := Lib.hid hn
  have HM := Lib.hid hM
  obtain ⟨i0, hi0, hz0, hz1', hz2'⟩ := info_parts infoI1
  have HI := Lib.hid hi0
  have Z0 := Lib.hid hz0
  have Z1 := Lib.hid hz1'
  have Z2 := Lib.hid hz2'
  clear hn hM hi0 hz0 hz1' hz2'
  go_enter Tryz.func9, Tryz.ntmps9
  go_wp2_with fail
  go_loopw [3, 4, 11] (fun o a i wr => ∃ (ii m : Nat) (bv : Bool) (Ao : Option Addr) (c : Nat) (zs : List Int), ii ≤ n ∧ i = .int .i64 ii ∧ o = .bool bv ∧ a = .slice Ao m c ∧ m ≤ ii * 256 ∧ Hid (zs.length = m) ∧ Hid (bv = true ↔ OneU l ii 0) ∧ Hid (∀ s, s ∈ zs ↔ MemU l ii 0 s) ∧ Hid (wr.ownsRow w.heap.size 3 1 (.slice Ao m c) m (zs.map (Value.int .i64))) ∧ Hid (Below w.heap.size w wr)) (fun _ _ i _ => n - (intOf i).toNat)
  case atStart => exact ⟨0, 0, true, none, 0, [], Nat.zero_le _, rfl, rfl, rfl, by omega, Lib.hid rfl, Lib.hid ⟨fun _ a b x y hd => by unfold Done at hd; omega, fun _ => rfl⟩, Lib.hid (fun s => ⟨fun h => by simp at h, fun ⟨a, b, x, y, hd, _⟩ => by unfold Done at hd; omega⟩), Lib.hid (World.ownsRow_nil _ _ _ _), Lib.hid (Below.refl _ _)⟩
  case round =>
    obtain ⟨ii, m, bv, Ao, c, zs, hii, rfl, rfl, rfl, hm, HZ, HOne, HMem, HO, HB⟩ := hrel
    have hzr := HB.out.size
    by_cases hlt : ii < n
    · have hil : ii < l.length := by rw [HN.out]; exact hlt
      obtain ⟨g, hA, hgW, hcl⟩ := HM.out.2 (by omega)
      subst hA
      have HCL := Lib.hid hcl
      obtain ⟨d0, d1, d2⟩ := hcl ii hil
      have c0 := (HB.out.cell (p := ⟨g, ii * 3, none⟩) hgW).trans d0
      have c1 := (HB.out.cell (p := ⟨g, ii * 3 + 1, none⟩) hgW).trans d1
      have c2 := (HB.out.cell (p := ⟨g, ii * 3 + 2, none⟩) hgW).trans d2
      have HX := Lib.hid (List.getElem?_eq_getElem hil)
      clear hcl d0 d1 d2
      generalize l[ii] = x at *
      obtain ⟨xp, xh, xs⟩ := x
      simp only at c0 c1 c2
      have a0 : (0 : Int) ≤ (ii : Int) := by omega
      have a1 : (ii : Int) < (n : Int) := by omega
      have BA := Lib.hid (HB.out.alloc hzr (.cells #[.string xp, .string xh, .int .i64 xs] 39))
      have OA := Lib.hid (own_below HO.out ((Below.refl _ _).alloc (Nat.le_refl _) (.cells #[.string xp, .string xh, .int .i64 xs] 39)))
      have XA := Lib.hid (Blk.new wr 39 #[.string xp, .string xh, .int .i64 xs])
      clear HO HB
      go_wp2_with fail
      rename World => wo
      go_loopw [3, 4, 18] (fun o a i wr => ∃ (kk m : Nat) (bv : Bool) (Ao : Option Addr) (c : Nat) (zs : List Int), kk ≤ n ∧ i = .int .i64 kk ∧ o = .bool bv ∧ a = .slice Ao m c ∧ m ≤ ii * 256 + kk ∧ Hid (zs.length = m) ∧ Hid (bv = true ↔ OneU l ii kk) ∧ Hid (∀ s, s ∈ zs ↔ MemU l ii kk s) ∧ Hid (wr.ownsRow w.heap.size 3 1 (.slice Ao m c) m (zs.map (Value.int .i64))) ∧ Hid (Blk wr wo.heap.size 39 #[.string xp, .string xh, .int .i64 xs]) ∧ Hid (Below w.heap.size w wr)) (fun _ _ i _ => n - (intOf i).toNat)
      case atStart => exact ⟨0, m, bv, Ao, c, zs, Nat.zero_le _, rfl, rfl, rfl, by omega, HZ, HOne, HMem, OA, XA, BA⟩
      case round =>
        clear HZ HOne HMem OA XA BA c0 c1 c2 hzr hm
        obtain ⟨kk, m, bv, Ao, c, zs, hkk, rfl, rfl, rfl, hm, HZ, HOne, HMem, HO, HXB, HB⟩ := hrel
        have hzr := HB.out.size
        by_cases hk : kk < n
        · have hkl : kk < l.length := by rw [HN.out]; exact hk
          obtain ⟨d0, d1, d2⟩ := HCL.out kk hkl
          have c0 := (HB.out.cell (p := ⟨g, kk * 3, none⟩) hgW).trans d0
          have c1 := (HB.out.cell (p := ⟨g, kk * 3 + 1, none⟩) hgW).trans d1
          have c2 := (HB.out.cell (p := ⟨g, kk * 3 + 2, none⟩) hgW).trans d2
          have HY := Lib.hid (List.getElem?_eq_getElem hkl)
          clear d0 d1 d2
          generalize l[kk] = y at *
          obtain ⟨yp, yh, ys⟩ := y
          simp only at c0 c1 c2
          have b0 : (0 : Int) ≤ (kk : Int) := by omega
          have b1 : (kk : Int) < (n : Int) := by omega
          have x0 := HXB.out.cell 0 _ rfl
          have x2 := HXB.out.cell 2 _ rfl
          have hXl := HXB.out.lt
          have BA := Lib.hid (HB.out.alloc hzr (.cells #[.string yp, .string yh, .int .i64 ys] 39))
          have OA := Lib.hid (own_below HO.out ((Below.refl _ _).alloc (Nat.le_refl _) (.cells #[.string yp, .string yh, .int .i64 ys] 39)))
          have XA := Lib.hid (HXB.out.alloc (.cells #[.string yp, .string yh, .int .i64 ys] 39))
          clear HO HB HXB
          by_cases hik : ii = kk
          · subst hik
            have hmiss : ¬ (ii ≠ ii ∧ xp = yp) := fun h => h.1 rfl
            have HOne2 := Lib.hid (show bv = true ↔ OneU l ii (ii + 1) by rw [one_miss HX.out HY.out hmiss]; exact HOne.out)
            have HMem2 := Lib.hid (show ∀ s, s ∈ zs ↔ MemU l ii (ii + 1) s from fun s => by rw [mem_miss HX.out HY.out hmiss]; exact HMem.out s)
            clear hmiss
            go_wp2_with fail
            go_roundw
            case rel => exact ⟨ii + 1, m, bv, Ao, c, zs, by omega, by go_num, rfl, rfl, by omega, HZ, HOne2, HMem2, OA, XA, BA⟩
            case measure => simp [intOf]; omega
          · have e1 : ((ii : Int) != (kk : Int)) = true := by simp; omega
            have e2 : ((ii : Int) == (kk : Int)) = false := by simp; omega
            obtain ⟨pb, hpb⟩ : ∃ b, eqB xp yp = b := ⟨_, rfl⟩
            cases pb
            · have hne : xp ≠ yp := fun e => by rw [e, eqB_self] at hpb; cases hpb
              have hmiss : ¬ (ii ≠ kk ∧ xp = yp) := fun h => hne h.2
              have HOne2 := Lib.hid (show bv = true ↔ OneU l ii (kk + 1) by rw [one_miss HX.out HY.out hmiss]; exact HOne.out)
              have HMem2 := Lib.hid (show ∀ s, s ∈ zs ↔ MemU l ii (kk + 1) s from fun s => by rw [mem_miss HX.out HY.out hmiss]; exact HMem.out s)
              have e3 : (xp.toList == yp.toList) = false := hpb
              have e4 : ¬ xp.toList = yp.toList := by simpa using e3
              have e5 : ¬ yp.toList = xp.toList := fun e => e4 e.symm
              clear hmiss hne hpb hik
              go_wp2_with fail
              go_roundw
              case rel => exact ⟨kk + 1, m, bv, Ao, c, zs, by omega, by go_num, rfl, rfl, by omega, HZ, HOne2, HMem2, OA, XA, BA⟩
              case measure => simp [intOf]; omega
            · obtain rfl := (eqB_iff _ _).1 hpb
              obtain ⟨sb, hsb⟩ : ∃ b, decide (xs = ys) = b := ⟨_, rfl⟩
              have hsb2 : (xs == ys) = sb := by rw [← hsb]; rfl
              have HOne2 := Lib.hid (show (bv && sb) = true ↔ OneU l ii (kk + 1) by
                rw [one_hit HX.out HY.out hik rfl, Bool.and_eq_true, HOne.out, ← hsb, decide_eq_true_iff])
              have HMem2 := Lib.hid (show ∀ s, s ∈ zs ++ [xs] ↔ MemU l ii (kk + 1) s from fun s => by
                rw [mem_hit HX.out HY.out hik rfl, List.mem_append, List.mem_singleton, HMem.out])
              have HZ2 := Lib.hid (show (zs ++ [xs]).length = m + 1 by rw [List.length_append, HZ.out]; rfl)
              have HMP := Lib.hid (show (zs ++ [xs]).map (Value.int .i64) = zs.map (Value.int .i64) ++ [.int .i64 xs] by rw [List.map_append]; rfl)
              have e3 : ∀ q : Bool, (xs == ys) = q → True := fun _ _ => trivial
              clear hpb hik hsb e3
              cases bv
              · go_wp2_with (at_builtin; (refine wpList_append_lies _ rfl _ _ _ rfl w.heap.size 3 i0 _ 1 8 Tryz.underlying22 HI.out Z0.out Z1.out Z2.out rfl (by omega) (.slice Ao m c) m (zs.map (Value.int .i64)) rfl (OA.out.alloc _) ⟨wr.heap.size + 1, 0, none⟩ 1 1 [.int .i64 xs] rfl rfl (World.news_of_block (cs := #[.int .i64 xs]) (t := 3) (fr := (0, 0)) (new_at (by simp))) (by simp [Value.oneCell']) (by omega) (by unfold maxLen; omega) (by omega) (by simp; omega) (wr.heap.size + 1 + 1) (by simp) ?_); intro gg cap' w5 hown hgrow hat hgl; (have O5 := Lib.hid (show w5.ownsRow w.heap.size 3 1 (.slice (some ⟨gg, 0, none⟩) (m + 1) cap') (m + 1) ((zs ++ [xs]).map (Value.int .i64)) by rw [HMP.out]; exact hown)); (have X5 := Lib.hid (blk_step XA.out (own_ne_blk OA.out XA.out (by decide)) hgrow)); (have B5 := Lib.hid ((BA.out.alloc BA.out.size (.cells #[.int .i64 xs] 3)).trans (grownB hgrow (fun g e => (OA.out.lt g e).1) (by simp; omega)))); clear hown hgrow hat)
                go_roundw
                case rel => exact ⟨kk + 1, m + 1, false, _, _, zs ++ [xs], by omega, by go_num, rfl, rfl, by omega, HZ2, HOne2, HMem2, O5, X5, B5⟩
                case measure => simp [intOf]; omega
              · cases sb
                all_goals
                  go_wp2_with (at_builtin; (refine wpList_append_lies _ rfl _ _ _ rfl w.heap.size 3 i0 _ 1 8 Tryz.underlying22 HI.out Z0.out Z1.out Z2.out rfl (by omega) (.slice Ao m c) m (zs.map (Value.int .i64)) rfl (OA.out.alloc _) ⟨wr.heap.size + 1, 0, none⟩ 1 1 [.int .i64 xs] rfl rfl (World.news_of_block (cs := #[.int .i64 xs]) (t := 3) (fr := (0, 0)) (new_at (by simp))) (by simp [Value.oneCell']) (by omega) (by unfold maxLen; omega) (by omega) (by simp; omega) (wr.heap.size + 1 + 1) (by simp) ?_); intro gg cap' w5 hown hgrow hat hgl; (have O5 := Lib.hid (show w5.ownsRow w.heap.size 3 1 (.slice (some ⟨gg, 0, none⟩) (m + 1) cap') (m + 1) ((zs ++ [xs]).map (Value.int .i64)) by rw [HMP.out]; exact hown)); (have X5 := Lib.hid (blk_step XA.out (own_ne_blk OA.out XA.out (by decide)) hgrow)); (have B5 := Lib.hid ((BA.out.alloc BA.out.size (.cells #[.int .i64 xs] 3)).trans (grownB hgrow (fun g e => (OA.out.lt g e).1) (by simp; omega)))); clear hown hgrow hat)
                  go_roundw
                  case rel => exact ⟨kk + 1, m + 1, _, _, _, zs ++ [xs], by omega, by go_num, rfl, rfl, by omega, HZ2, HOne2, HMem2, O5, X5, B5⟩
                  case measure => simp [intOf]; omega
        · have hkn : kk = n := by omega
          subst hkn
          have HOne2 := Lib.hid (show bv = true ↔ OneU l (ii + 1) 0 by rw [← one_row, HN.out]; exact HOne.out)
          have HMem2 := Lib.hid (show ∀ s, s ∈ zs ↔ MemU l (ii + 1) 0 s from fun s => by rw [← mem_row, HN.out]; exact HMem.out s)
          go_wp2_with fail
          go_roundw
          case rel => exact ⟨ii + 1, m, bv, Ao, c, zs, by omega, by go_num, rfl, rfl, by omega, HZ, HOne2, HMem2, HO, HB⟩
          case measure => simp [intOf]; omega
    · have hin : ii = n := by omega
      subst hin
      have hm2 : m ≤ 1000000 := by omega
      have HS := Lib.hid (sortsI_own w.heap.size m c Ao zs wr HZ.out hm2 HO.out)
      have HAE := Lib.hid (compactI_lt zs)
      have HPE := Lib.hid (show allEq zs ↔ ∀ s t, MemU l ii 0 s → MemU l ii 0 t → s = t from ⟨fun h s t hs ht => h s ((HMem.out s).2 hs) t ((HMem.out t).2 ht), fun h a ha b hb => h a b ((HMem.out a).1 ha) ((HMem.out b).1 hb)⟩)
      go_wp2_with fail
      refine (HS.out).mono ?_; rintro e w1 ⟨rfl, ho1, hb1⟩
      have O1 := Lib.hid ho1
      have B1 := Lib.hid (HB.out.trans (hb1 hzr))
      clear ho1 hb1 HS HO HB
      cases bv
      · have HC := Lib.hid (compactsI_own w.heap.size m c Ao (zs.mergeSort fun x y => decide (x ≤ y)) w1 (by rw [List.length_mergeSort]; exact HZ.out) hm2 O1.out)
        obtain ⟨q, hq⟩ : ∃ q, (compact (zs.mergeSort fun x y => decide (x ≤ y))).length = q := ⟨_, rfl⟩
        have HQ := Lib.hid hq
        have hqb : q ≤ 1000000 := by
          rw [← hq]; unfold compact compactUpTo; rw [List.length_map]
          exact Nat.le_trans (List.length_filter_le _ _) (by rw [List.length_range, List.length_mergeSort, HZ.out]; exact hm2)
        have hC2 := HC.out
        rw [hq] at hC2
        have HC2 := Lib.hid hC2
        clear hC2 hq HC
        go_wp2_with fail
        refine (HC2.out).mono ?_; rintro e w2 ⟨rfl, hb2⟩
        have B2 := Lib.hid (B1.out.trans (hb2 B1.out.size |>.mono (Nat.le_refl _)))
        clear hb2
        have HF := Lib.hid (show AgB l w (.returned (.bool (decide ((q : Int) < 2)))) w2 from ⟨_, rfl, by
          rw [HN.out, decide_eq_true_iff, ← HPE.out, ← HAE.out, HQ.out]
          constructor
          · intro h; exact Or.inr (by omega)
          · rintro (h | h)
            · exact absurd (HOne.out.2 h) (by decide)
            · omega, B2.out⟩)
        go_wp2_with fail
        go_ret
        exact HF.out
      · have HF := Lib.hid (show AgB l w (.returned (.bool true)) w1 from ⟨true, rfl, by rw [HN.out]; exact ⟨fun _ => Or.inl (HOne.out.1 rfl), fun _ => rfl⟩, B1.out⟩)
        go_wp2_with fail
        go_ret
        exact HF.out
end Go.Proofs.YtgajencgpceababGreatDoor.Cal
