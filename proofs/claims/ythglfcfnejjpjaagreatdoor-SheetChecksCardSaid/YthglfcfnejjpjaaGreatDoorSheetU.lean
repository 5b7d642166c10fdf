/-
  THE CONTRACT OF THE REFERENCE'S DifferOf.
-/
import Derived.Test.YthglfcfnejjpjaaGreatDoorSheetT
namespace Go.Proofs.YthglfcfnejjpjaaGreatDoor.Rev
open Go.ChangeShapes Go.WideShapes Go.ChangeAt Go.RowKit Stm Key
set_option linter.unusedVariables false

theorem differs_two (a b : List An) (k : ByteArray) : differs a b k = (((toQ a k).isSome != (toQ b k).isSome) || !(eqS ((toQ a k).getD zA).q ((toQ b k).getD zA).q && (((toQ a k).getD zA).n == ((toQ b k).getD zA).n) && eqS ((toQ a k).getD zA).o ((toQ b k).getD zA).o && eqS ((toQ a k).getD zA).w ((toQ b k).getD zA).w)) := by
  unfold differs
  cases toQ a k <;> cases toQ b k <;> simp [eqS_self]
set_option maxRecDepth 100000 in
set_option maxHeartbeats 8000000 in
theorem differof_walk (B : Nat) (A : Option Addr) (n cap : Nat) (qs : List Qs) (A1 : Option Addr) (n1 c1' : Nat) (l1 : List An) (A2 : Option Addr) (n2 c2' : Nat) (l2 : List An) (w : World) (hE : sheetE qs = 0) (hn : qs.length = n) (hq : QL B w A qs) (hl1 : AL w A1 l1) (hn1 : l1.length = n1) (h81 : n1 ≤ 1000) (hl : AL w A2 l2) (hn2 : l2.length = n2) (h8 : n2 ≤ 1000) :
    Calls Tryz.prog 13 #[.slice A n cap, .slice A1 n1 c1', .slice A2 n2 c2'] w (StrRet ((qs.filter fun q => differs l1 l2 q.k).map (·.k)) w) := by
  have HE := Lib.hid hE
  have HN := Lib.hid hn
  have h30 := (sheetE_ok hE).2.2
  have HW : Hid (∀ W, Below w.heap.size w W → QL B W A qs) := Lib.hid fun W hW => hq.below hW
  have HAL := Lib.hid (fun (W : World) (hW : Below w.heap.size w W) => hl.below hW)
  have HL2 := Lib.hid hn2
  have HAL1 := Lib.hid (fun (W : World) (hW : Below w.heap.size w W) => hl1.below hW)
  have HL1 := Lib.hid hn1
  clear hl hn2 hl1 hn1
  have hn30 : n ≤ 30 := by omega
  obtain ⟨i0, hi0, hz0, hz1, hz2⟩ := info_parts infoS
  have HI := Lib.hid hi0
  have Z0 := Lib.hid hz0
  have Z1 := Lib.hid hz1
  have Z2 := Lib.hid hz2
  clear hE hn hq h30 hi0 hz0 hz1 hz2
  go_enter Tryz.func13, Tryz.ntmps13
  go_wp2_with fail
  go_loopw [8, 17] (fun o i wr => ∃ (k : Nat) (Ax : Option Addr) (m cx : Nat), k ≤ n ∧ i = .int .i64 k ∧ o = .slice Ax m cx ∧ m ≤ k ∧ Hid (m = (((qs.take k).filter fun q => differs l1 l2 q.k).map (·.k)).length) ∧ Hid (wr.ownsRow w.heap.size 9 1 (.slice Ax m cx) m ((((qs.take k).filter fun q => differs l1 l2 q.k).map (·.k)).map Value.string)) ∧ Hid (Below w.heap.size w wr)) (fun _ i _ => n - (intOf i).toNat)
  case atStart => exact ⟨0, none, 0, 0, Nat.zero_le _, rfl, rfl, Nat.zero_le _, Lib.hid rfl, Lib.hid (World.ownsRow_nil _ _ _ _), Lib.hid (Below.refl _ _)⟩
  case round =>
    obtain ⟨k, Ax, m, cx, hk, rfl, rfl, hmk, HM, HO, HB⟩ := hrel
    rename World => w1
    have hz1 := HB.out.size
    by_cases hlt : k < n
    · have hkl : k < qs.length := by rw [HN.out]; exact hlt
      obtain ⟨hok, hcells⟩ := HW.out _ HB.out
      obtain ⟨b, hA, hbl, _, hc⟩ := hcells (by omega)
      obtain ⟨c0, c1, c2, ⟨v, c3, hol⟩, c4, c5⟩ := hc k hkl
      obtain ⟨Ao, co, hv, _⟩ := hol
      have hkey := (sheetsE_ok qs [] (sheetE_ok HE.out).1 k hkl).1
      have HNX := Lib.hid (fil_next qs (fun q => differs l1 l2 q.k) k hkl)
      subst hv
      simp only at HNX
      generalize qs[k] = q at *
      have HKEY := Lib.hid hkey
      have a0 : (0 : Int) ≤ (k : Int) := by omega
      have a1 : (k : Int) < (n : Int) := by omega
      subst hA
      have KQ := Lib.hid (Blk.new w1 45 #[.string q.k, .int .i64 q.d, .int .i64 q.m, .slice Ao q.o.length co, .bool q.nd, .bool q.sc])
      have B1 := Lib.hid (HB.out.alloc hz1 (.cells #[.string q.k, .int .i64 q.d, .int .i64 q.m, .slice Ao q.o.length co, .bool q.nd, .bool q.sc] 45))
      have O1 := Lib.hid (HO.out.alloc (.cells #[.string q.k, .int .i64 q.d, .int .i64 q.m, .slice Ao q.o.length co, .bool q.nd, .bool q.sc] 45))
      clear hok hcells hc hkey HO
      obtain ⟨qk, qd, qm, qo, nd, sc⟩ := q
      simp only at c0 c1 c2 c3 c4 c5 KQ B1 O1 HNX HKEY
      rw [differs_two] at HNX
      have HG1 := Lib.hid (fun (W : World) (hW : Below w.heap.size w W) => get_walk qk A1 n1 c1' l1 W (HAL1.out W hW) HL1.out h81)
      have HG2 := Lib.hid (fun (W : World) (hW : Below w.heap.size w W) => get_walk qk A2 n2 c2' l2 W (HAL.out W hW) HL2.out h8)
      unfold ToRet at HG1 HG2
      generalize toQ l1 qk = x at *
      generalize toQ l2 qk = y at *
      obtain ⟨b1, hb1⟩ : ∃ b, x.isSome = b := ⟨_, rfl⟩
      obtain ⟨b2, hb2⟩ : ∃ b, y.isSome = b := ⟨_, rfl⟩
      rw [hb1] at HG1 HNX
      rw [hb2] at HG2 HNX
      clear hb1 hb2
      generalize x.getD zA = x' at *
      generalize y.getD zA = y' at *
      obtain ⟨xq, xn, xo, xw⟩ := x'
      obtain ⟨yq, yn, yo, yw⟩ := y'
      simp only at HG1 HG2 HNX
      go_wp2_with fail
      refine (HG1.out _ B1.out).mono ?_; rintro e w2 ⟨rfl, hb⟩
      have B2' := B1.out.trans (hb.mono B1.out.size)
      have B2 := Lib.hid (B2'.alloc B2'.size (.cells #[.string xq, .int .i64 xn, .string xo, .string xw] 51))
      have O2 := Lib.hid ((own_below O1.out hb).alloc (.cells #[.string xq, .int .i64 xn, .string xo, .string xw] 51))
      have K2 := Lib.hid ((KQ.out.below hb KQ.out.lt).alloc (.cells #[.string xq, .int .i64 xn, .string xo, .string xw] 51))
      have KX := Lib.hid (Blk.new w2 51 #[.string xq, .int .i64 xn, .string xo, .string xw])
      have e0 := K2.out.cell 0 _ rfl
      have hk2 := K2.out.lt
      clear hb B2' O1 B1 KQ c0 c1 c2 c3 c4 c5
      go_wp2_with fail
      refine (HG2.out _ B2.out).mono ?_; rintro e w3 ⟨rfl, hb⟩
      have B3' := B2.out.trans (hb.mono B2.out.size)
      have B3 := Lib.hid (B3'.alloc B3'.size (.cells #[.string yq, .int .i64 yn, .string yo, .string yw] 51))
      have O3 := Lib.hid ((own_below O2.out hb).alloc (.cells #[.string yq, .int .i64 yn, .string yo, .string yw] 51))
      have K3 := Lib.hid (K2.out.below hb K2.out.lt)
      have KX3 := Lib.hid (KX.out.below hb KX.out.lt)
      have g0 := K3.out.cell 0 _ rfl
      have d0 := KX3.out.cell 0 _ rfl
      have d1 := KX3.out.cell 1 _ rfl
      have d2 := KX3.out.cell 2 _ rfl
      have d3 := KX3.out.cell 3 _ rfl
      have hk3 := K3.out.lt
      have hx3 := KX3.out.lt
      have hz3 := B3'.size
      clear hb B3' O2 B2 K2 e0
      obtain ⟨r, hr⟩ : ∃ r, ((b1 != b2) || !(eqS xq yq && (xn == yn) && eqS xo yo && eqS xw yw)) = r := ⟨_, rfl⟩
      rw [hr] at HNX
      have HR := Lib.hid hr
      clear hr
      go_upto_region 8 with fail
      go_cut [44] (fun v wx => v = .bool r ∧ wx = w3.alloc (.cells #[.string yq, .int .i64 yn, .string yo, .string yw] 51))
      case first =>
        cases b1 <;> cases b2
        rotate_left
        · have HE : Hid (true = r) := Lib.hid (by simpa using HR.out)
          go_wp2_with fail
          go_meet
          case rel => exact ⟨by rw [← HE.out], rfl⟩
        · have HE : Hid (true = r) := Lib.hid (by simpa using HR.out)
          go_wp2_with fail
          go_meet
          case rel => exact ⟨by rw [← HE.out], rfl⟩
        all_goals
          by_cases p2 : xn = yn
          · subst p2
            by_cases p1 : xq.toList = yq.toList
            · by_cases p3 : xo.toList = yo.toList
              · by_cases p4 : xw.toList = yw.toList
                · have HE : Hid (false = r) := Lib.hid (by have := HR.out; simpa [eqS, p1, p3, p4] using this)
                  clear HR
                  go_wp2_with fail
                  go_meet
                  case rel => exact ⟨by rw [← HE.out], rfl⟩
                · have HE : Hid (true = r) := Lib.hid (by have := HR.out; simpa [eqS, p1, p3, beq_eq_false_iff_ne.2 p4] using this)
                  clear HR
                  go_wp2_with fail
                  go_meet
                  case rel => exact ⟨by rw [← HE.out], rfl⟩
              · have HE : Hid (true = r) := Lib.hid (by have := HR.out; simpa [eqS, p1, beq_eq_false_iff_ne.2 p3] using this)
                clear HR
                go_wp2_with fail
                go_meet
                case rel => exact ⟨by rw [← HE.out], rfl⟩
            · have HE : Hid (true = r) := Lib.hid (by have := HR.out; simpa [eqS, beq_eq_false_iff_ne.2 p1] using this)
              clear HR
              go_wp2_with fail
              go_meet
              case rel => exact ⟨by rw [← HE.out], rfl⟩
          · have HE : Hid (true = r) := Lib.hid (by have := HR.out; simpa [eqS, beq_eq_false_iff_ne.2 p2] using this)
            clear HR
            go_wp2_with fail
            go_meet
            case rel => exact ⟨by rw [← HE.out], rfl⟩
      case rest =>
        obtain ⟨rfl, rfl⟩ := hcut
        clear HR KX3 KX HG1 HG2 d0 d1 d2 d3
        cases r
        · skip
          have HM2 : Hid (m = (((qs.take (k + 1)).filter fun q => differs l1 l2 q.k).map (·.k)).length) := Lib.hid (by rw [HNX.out]; simpa using HM.out)
          have O4 : Hid (World.ownsRow (w3.alloc (.cells #[.string yq, .int .i64 yn, .string yo, .string yw] 51)) w.heap.size 9 1 (.slice Ax m cx) m ((((qs.take (k + 1)).filter fun q => differs l1 l2 q.k).map (·.k)).map Value.string)) := Lib.hid (by rw [HNX.out]; simpa using O3.out)
          go_wp2_with fail
          go_roundw
          case rel => exact ⟨k + 1, Ax, m, cx, by omega, by go_num, rfl, by omega, HM2, O4, B3⟩
          case measure => simp [intOf]; omega

        · skip
          have HM2 : Hid (m + 1 = (((qs.take (k + 1)).filter fun q => differs l1 l2 q.k).map (·.k)).length) := Lib.hid (by rw [HNX.out]; have := HM.out; simp at this ⊢; omega)
          have HAP : Hid ((((qs.take (k + 1)).filter fun q => differs l1 l2 q.k).map (·.k)).map Value.string = ((((qs.take k).filter fun q => differs l1 l2 q.k).map (·.k)).map Value.string) ++ [.string qk]) := Lib.hid (by rw [HNX.out]; simp)
          go_wp2_with (at_builtin; (refine wpList_append_lies _ rfl _ _ _ rfl w.heap.size 9 i0 _ 1 16 Tryz.underlying30 HI.out Z0.out Z1.out Z2.out rfl (by omega) (.slice Ax m cx) m _ rfl (O3.out.alloc _) ⟨w3.heap.size + 1, 0, none⟩ 1 1 [.string qk] rfl rfl (World.news_of_block (cs := #[.string qk]) (t := 9) (fr := (0, 0)) (new_at (by simp))) (by simp [Value.oneCell']) (by omega) (by unfold maxLen; omega) (by omega) (by simp; omega) (w3.heap.size + 2) (by simp) ?_); intro gg cap' w7 hown hgrow hat hgl; (have O7 := Lib.hid (HAP.out.symm ▸ hown)); (have B7 := Lib.hid ((B3.out.alloc B3.out.size (.cells #[.string qk] 9)).trans (grownB (C := w.heap.size) hgrow (fun r e => (O3.out.lt r e).1) (by simp; have := B3.out.size; omega)))); clear hown hgrow hat hgl)
          go_roundw
          case rel => exact ⟨k + 1, some ⟨gg, 0, none⟩, m + 1, cap', by omega, by go_num, rfl, by omega, HM2, O7, B7⟩
          case measure => simp [intOf]; omega
    · have hkn : k = n := by omega
      subst hkn
      have hok := (HW.out _ HB.out).1
      have hT : qs.take k = qs := List.take_of_length_le (by rw [HN.out]; exact Nat.le_refl _)
      rw [hT] at HM HO
      have HS := Lib.hid (row_sl HO.out HM.out.symm (fun x hx => by
        obtain ⟨q, hq, rfl⟩ := List.mem_map.1 hx
        exact (hok q (List.mem_filter.1 hq).1).1))
      clear hT hok HO
      go_wp2_with fail
      go_ret
      exact ⟨Ax, m, cx, rfl, HM.out, HS.out, HB.out⟩
end Go.Proofs.YthglfcfnejjpjaaGreatDoor.Rev
