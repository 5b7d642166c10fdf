/-
  THE ORDER OF PAPERS: slices.CompareFunc at fractions under exact.Compare, discuss.compare.
-/
import Derived.Test.YtmihbfmlnfhgcadGreatDoorOrdJ
import Derived.Test.YtmihbfmlnfhgcadGreatDoorCmpS
namespace Go.Proofs.YtmihbfmlnfhgcadGreatDoor.Cal
open Go.Shelf
open Go.ChangeShapes Go.WideShapes Go.ChangeAt Go.RowKit Stm Key
set_option linter.unusedVariables false

/-- The first difference of two lists of fractions. -/
def cmpL : List (Int × Int) → List (Int × Int) → Int
  | x :: s, y :: t => if cmpF x y ≠ 0 then cmpF x y else cmpL s t
  | _, _ => 0
theorem cmpL_ordK (fr : Int → List Int → Int × Int) (sa sb : List Int) : ∀ ks : List Int, cmpL (ks.map fun k => fr k sb) (ks.map fun k => fr k sa) = ordK fr sa sb 0 ks
  | [] => rfl
  | k :: ks => by
    show (if cmpF (fr k sb) (fr k sa) ≠ 0 then cmpF (fr k sb) (fr k sa) else cmpL _ _) = _
    rw [cmpL_ordK fr sa sb ks]; rfl
def smallF (x : Int × Int) : Prop := -1 ≤ x.1 ∧ x.1 ≤ 2560 ∧ 1 ≤ x.2 ∧ x.2 ≤ 256
theorem smallF_mul {x y : Int × Int} (hx : smallF x) (hy : smallF y) : -4611686018427387904 ≤ x.1 * y.2 ∧ x.1 * y.2 ≤ 4611686018427387904 := by
  obtain ⟨h1, h2, h3, h4⟩ := hx
  obtain ⟨k1, k2, k3, k4⟩ := hy
  have a := Int.mul_le_mul_of_nonneg_right h2 (show 0 ≤ y.2 by omega)
  have b := Int.mul_le_mul_of_nonneg_right h1 (show 0 ≤ y.2 by omega)
  omega
set_option maxRecDepth 100000 in
set_option maxHeartbeats 4000000 in
theorem cmpfunc_walk (A1 A2 : Option Addr) (n c1 c2 : Nat) (l1 l2 : List (Int × Int)) (w : World) (h1 : l1.length = n) (h2 : l2.length = n) (hn : n ≤ 1000) (hF1 : FL w A1 l1) (hF2 : FL w A2 l2) (hs1 : ∀ x ∈ l1, smallF x) (hs2 : ∀ x ∈ l2, smallF x) (r : Int) (hr : Hid (cmpL l1 l2 = r)) :
    Calls Tryz.prog 43 #[.slice A1 n c1, .slice A2 n c2, .func (.func 44) #[] #[]] w fun e w' => e = .returned (.int .i64 r) ∧ Below w.heap.size w w' := by
  have H1 := Lib.hid h1
  have H2 := Lib.hid h2
  have F1 := Lib.hid hF1
  have F2 := Lib.hid hF2
  have S1 := Lib.hid hs1
  have S2 := Lib.hid hs2
  have HT := Lib.hid (show cmpL (l1.drop 0) (l2.drop 0) = r from hr.out)
  clear h1 h2 hF1 hF2 hs1 hs2 hr
  go_enter Tryz.func43, Tryz.ntmps43
  go_wp2_with fail
  go_loopw [13] (fun i wr => ∃ k : Nat, k ≤ n ∧ i = .int .i64 k ∧ Hid (cmpL (l1.drop k) (l2.drop k) = r) ∧ Hid (Below w.heap.size w wr)) (fun i _ => n - (intOf i).toNat)
  case atStart => exact ⟨0, Nat.zero_le _, rfl, HT, Lib.hid (Below.refl _ _)⟩
  case round =>
    clear HT
    obtain ⟨k, hk, rfl, HT, HB⟩ := hrel
    by_cases hlt : k < n
    · have k1 : k < l1.length := by rw [H1.out]; exact hlt
      have k2 : k < l2.length := by rw [H2.out]; exact hlt
      obtain ⟨b1, hA1, hb1, hc1⟩ := F1.out (by omega)
      obtain ⟨b2, hA2, hb2, hc2⟩ := F2.out (by omega)
      subst hA1 hA2
      have c1a := (HB.out.cell (p := ⟨b1, k * 2, none⟩) hb1).trans (hc1 k k1).1
      have c1b := (HB.out.cell (p := ⟨b1, k * 2 + 1, none⟩) hb1).trans (hc1 k k1).2
      have c2a := (HB.out.cell (p := ⟨b2, k * 2, none⟩) hb2).trans (hc2 k k2).1
      have c2b := (HB.out.cell (p := ⟨b2, k * 2 + 1, none⟩) hb2).trans (hc2 k k2).2
      have HT2 := Lib.hid (show (if cmpF l1[k] l2[k] ≠ 0 then cmpF l1[k] l2[k] else cmpL (l1.drop (k + 1)) (l2.drop (k + 1))) = r by
        rw [← HT.out, List.drop_eq_getElem_cons k1, List.drop_eq_getElem_cons k2]; rfl)
      have m1 := smallF_mul (S1.out _ (List.getElem_mem k1)) (S2.out _ (List.getElem_mem k2))
      have m2 := smallF_mul (S2.out _ (List.getElem_mem k2)) (S1.out _ (List.getElem_mem k1))
      generalize l1[k] = x at *
      generalize l2[k] = y at *
      obtain ⟨xa, xb⟩ := x
      obtain ⟨ya, yb⟩ := y
      simp only at c1a c1b c2a c2b m1 m2
      have HC := Lib.hid (fun W => fcmp_any xa xb ya yb W m1.1 m1.2 m2.1 m2.2)
      obtain ⟨q, hq⟩ : ∃ q, cmpF (xa, xb) (ya, yb) = q := ⟨_, rfl⟩
      rw [hq] at HT2 HC
      have hbl1 : b1 < wr.heap.size := Nat.lt_of_lt_of_le hb1 HB.out.size
      have hbl2 : b2 < wr.heap.size := Nat.lt_of_lt_of_le hb2 HB.out.size
      have a0 : (0 : Int) ≤ (k : Int) := by omega
      have a1 : (k : Int) < (n : Int) := by omega
      have BX := Lib.hid ((HB.out.alloc HB.out.size (.cells #[.int .i64 xa, .int .i64 xb] 71)).alloc (by have := HB.out.size; simp; omega) (.cells #[.int .i64 ya, .int .i64 yb] 71))
      clear hc1 hc2 hq m1 m2
      go_wp2_with fail
      refine (HC.out _).mono ?_; rintro e w1 ⟨rfl, hb⟩
      have B1 := Lib.hid (BX.out.trans (hb.mono BX.out.size))
      clear hb HC BX
      by_cases hq0 : q = 0
      · subst hq0
        have HE := Lib.hid (show cmpL (l1.drop (k + 1)) (l2.drop (k + 1)) = r by have := HT2.out; simpa using this)
        go_wp2_with fail
        go_roundw
        case rel => exact ⟨k + 1, by omega, by go_num, HE, B1⟩
        case measure => simp [intOf]; omega
      · have HE := Lib.hid (show q = r by have := HT2.out; rwa [if_pos hq0] at this)
        have e1 : (q != 0) = true := by simpa using hq0
        clear HT2 hq0
        go_wp2_with fail
        go_ret
        exact ⟨Stm.ret_int HE.out, B1.out⟩
    · have hkn : k = n := by omega
      subst hkn
      have HE := Lib.hid (show (0 : Int) = r by rw [← HT.out, List.drop_eq_nil_of_le (by rw [H1.out]; exact Nat.le_refl _)]; rfl)
      clear HT
      go_wp2_with fail
      go_ret
      exact ⟨Stm.ret_int HE.out, HB.out⟩
set_option maxRecDepth 100000 in
set_option maxHeartbeats 4000000 in
theorem compare_walk (A1 A2 : Option Addr) (n c1 c2 : Nat) (l1 l2 : List (Int × Int)) (ia ib : ByteArray) (e1 e2 : Bool) (w : World) (h1 : l1.length = n) (h2 : l2.length = n) (hn : n ≤ 1000) (hF1 : FL w A1 l1) (hF2 : FL w A2 l2) (hs1 : ∀ x ∈ l1, smallF x) (hs2 : ∀ x ∈ l2, smallF x)
    (r : Int) (hr : (if cmpL l2 l1 ≠ 0 then cmpL l2 l1 else Lib.compareBytes ia.data.toList ib.data.toList) = r) :
    Calls Tryz.prog 25 #[.agg #[.string ia, .slice A1 n c1, .bool e1], .agg #[.string ib, .slice A2 n c2, .bool e2]] w fun e w' => e = .returned (.int .i64 r) ∧ Below w.heap.size w w' := by
  have hx0 := (Below.refl w.heap.size w).alloc (Nat.le_refl _) (.cells #[.string ia, .slice A1 n c1, .bool e1] 62)
  have B0 := Lib.hid (hx0.alloc hx0.size (.cells #[.string ib, .slice A2 n c2, .bool e2] 62))
  have X0 := Lib.hid ((Blk.new w 62 #[.string ia, .slice A1 n c1, .bool e1]).alloc (.cells #[.string ib, .slice A2 n c2, .bool e2] 62))
  have Y0 : Hid (Blk ((w.alloc (.cells #[.string ia, .slice A1 n c1, .bool e1] 62)).alloc (.cells #[.string ib, .slice A2 n c2, .bool e2] 62)) (w.heap.size + 1) 62 #[.string ib, .slice A2 n c2, .bool e2]) := Lib.hid (by
    have h := Blk.new (w.alloc (.cells #[.string ia, .slice A1 n c1, .bool e1] 62)) 62 #[.string ib, .slice A2 n c2, .bool e2]
    simpa using h)
  have F1 := Lib.hid (hF1.below B0.out)
  have F2 := Lib.hid (hF2.below B0.out)
  obtain ⟨q, hq⟩ : ∃ q, cmpL l2 l1 = q := ⟨_, rfl⟩
  obtain ⟨t, ht⟩ : ∃ t, Lib.compareBytes ia.data.toList ib.data.toList = t := ⟨_, rfl⟩
  rw [hq, ht] at hr
  have HR := Lib.hid hr
  have HT := Lib.hid ht
  clear hx0 hF1 hF2 hr ht
  go_enter Tryz.func25, Tryz.ntmps25
  go_upto_region 1 with fail
  generalize hwa : (w.alloc (.cells #[.string ia, .slice A1 n c1, .bool e1] 62)).alloc (.cells #[.string ib, .slice A2 n c2, .bool e2] 62) = wa at *
  clear hwa
  have HCF := Lib.hid (show ∀ W, Below wa.heap.size wa W → Calls Tryz.prog 43 #[.slice A2 n c2, .slice A1 n c1, .func (.func 44) #[] #[]] W fun e w' => e = .returned (.int .i64 q) ∧ Below wa.heap.size wa w' from fun W h =>
    (cmpfunc_walk A2 A1 n c2 c1 l2 l1 W h2 h1 hn (F2.out.below h) (F1.out.below h) hs2 hs1 q (Lib.hid hq)).mono fun e w' ⟨he, hb⟩ => ⟨he, h.trans (hb.mono h.size)⟩)
  have HSC := Lib.hid (fun W => show Calls Tryz.prog 35 #[.string ia, .string ib] W fun e w' => e = .returned (.int .i64 t) ∧ w' = W from by have h := Any.strings_Compare Tryz.lays106 ia ib W; rw [HT.out] at h; exact h)
  have HB0 := Lib.hid (show Below wa.heap.size wa wa from Below.refl _ _)
  have x0 := X0.out.cell 0 _ rfl
  have x1 := X0.out.cell 1 _ rfl
  have x2 := X0.out.lt
  have y0 := Y0.out.cell 0 _ rfl
  have y1 := Y0.out.cell 1 _ rfl
  have y2 := Y0.out.lt
  clear hq hs1 hs2 h1 h2 F1 F2
  go_region_law ((first
    | (go_simp; go_at_call 43
       refine (HCF.out _ ?_).mono ?_
       · first
           | exact HB0.out.drew
           | exact HB0.out
       rintro e w5 ⟨rfl, hb5⟩
       have HB5 := Lib.hid hb5
       have p0 := (X0.out.below hb5 x2).cell 0 _ rfl
       have q0 := (Y0.out.below hb5 y2).cell 0 _ rfl
       have p2 : w.heap.size < w5.heap.size := Nat.lt_of_lt_of_le x2 hb5.size
       have q2 : w.heap.size + 1 < w5.heap.size := Nat.lt_of_lt_of_le y2 hb5.size
       clear hb5)
    | (go_simp; go_at_call 35
       refine (HSC.out _).mono ?_
       rintro e w6 ⟨rfl, rfl⟩)
    | (go_simp; go_at_call 42
       refine (orint_walk _ q t _ _ (Blk.new _ _ _) r HR.out).mono ?_
       rintro e w7 ⟨rfl, rfl⟩)))
  all_goals
    go_wp2_with fail
    go_ret
    exact ⟨rfl, (B0.out.trans (HB5.out.mono B0.out.size)).alloc (B0.out.trans (HB5.out.mono B0.out.size)).size _⟩
end Go.Proofs.YtmihbfmlnfhgcadGreatDoor.Cal
