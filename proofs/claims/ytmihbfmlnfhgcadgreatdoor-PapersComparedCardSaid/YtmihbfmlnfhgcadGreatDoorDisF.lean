/-
  MARKS, the seventh chapter's way: the reference's MarksFault (committeeref2).
-/
import Derived.Test.YtmihbfmlnfhgcadGreatDoorCmpS
import Derived.Test.YtmihbfmlnfhgcadGreatDoorDisC
import Derived.Test.YtmihbfmlnfhgcadGreatDoorRefKey10
import Derived.IntWalk
namespace Go.Proofs.YtmihbfmlnfhgcadGreatDoor.Cal
open Go.ChangeShapes Go.WideShapes Go.ChangeAt Go.RowKit Stm Key
set_option linter.unusedVariables false

theorem refO_cons (prev : Option Mk) (x : Mk) (t : List Mk) : refO prev (x :: t) = if stepQ prev x ≠ 0 then stepQ prev x else refO (some x) t := rfl
/-- The mark before. -/
def prevQ (l : List Mk) (k : Nat) : Option Mk := if k = 0 then none else l[k - 1]?
theorem prevQ_next {l : List Mk} {k : Nat} (h : k < l.length) : prevQ l (k + 1) = some l[k] := by
  unfold prevQ; rw [if_neg (by omega)]; simp [List.getElem?_eq_getElem h]
theorem badS_in (x : Mk) : badS x = !inI x.s 0 10 := by
  unfold badS inI
  by_cases h1 : x.s < 0 <;> by_cases h2 : 10 < x.s <;> simp [h1, h2] <;> omega
set_option maxRecDepth 100000 in
set_option maxHeartbeats 8000000 in
theorem marksfault2_walk (A : Option Addr) (n cap : Nat) (l : List Mk) (w : World) (hn : l.length = n) (hn2 : n ≤ 1000) (hM : ML w A l) (r : Int) (hr : Hid (refO none l = r)) :
    Calls Tryz.prog 11 #[.slice A n cap] w fun e w' => e = .returned (.int .i64 r) ∧ Below w.heap.size w w' := by
  have HN := Lib.hid hn
  have HM := Lib.hid hM
  clear hn hM
  go_enter Tryz.func11, Tryz.ntmps11
  go_wp2_with fail
  go_loopw [10] (fun i wr => ∃ (k : Nat), k ≤ n ∧ i = .int .i64 k ∧ Hid (refO (prevQ l k) (l.drop k) = r) ∧ Hid (Below w.heap.size w wr)) (fun i _ => n - (intOf i).toNat)
  case atStart => exact ⟨0, Nat.zero_le _, rfl, hr, Lib.hid (Below.refl _ _)⟩
  case round =>
    obtain ⟨k, hk, rfl, HST, HL⟩ := hrel
    have hzr := HL.out.size
    by_cases hlt : k < n
    · have hkl : k < l.length := by rw [HN.out]; exact hlt
      obtain ⟨g, hA, hgW, hcl⟩ := HM.out.2 (by omega)
      subst hA
      have HCL := Lib.hid hcl
      obtain ⟨d0, d1, d2⟩ := hcl k hkl
      have c0 := (HL.out.cell (p := ⟨g, k * 3, none⟩) hgW).trans d0
      have c1 := (HL.out.cell (p := ⟨g, k * 3 + 1, none⟩) hgW).trans d1
      have c2 := (HL.out.cell (p := ⟨g, k * 3 + 2, none⟩) hgW).trans d2
      have hx := HM.out.1 _ (List.getElem_mem hkl)
      have HST2 : Hid (refO (prevQ l k) (l[k] :: l.drop (k + 1)) = r) := Lib.hid (by rw [← drop_step l k hkl]; exact HST.out)
      have HPN := Lib.hid (prevQ_next hkl)
      clear hcl HST d0 d1 d2
      generalize l[k] = x at *
      have a0 : (0 : Int) ≤ (k : Int) := by omega
      have a1 : (k : Int) < (n : Int) := by omega
      obtain ⟨b1, hb1⟩ : ∃ b, keyL x.p.data.toList = b := ⟨_, rfl⟩
      obtain ⟨b2, hb2⟩ : ∃ b, keyL x.h.data.toList = b := ⟨_, rfl⟩
      obtain ⟨b3, hb3⟩ : ∃ b, inI x.s 0 10 = b := ⟨_, rfl⟩
      have HSR : Hid (stepQ (prevQ l k) x = if (!b1 || !b2) = true then 5 else if 0 ≤ ordO (prevQ l k) x then 7 else if (!b3) = true then 1 else 0) := Lib.hid (by
        unfold stepQ badK; rw [hb1, hb2, badS_in, hb3])
      have HST3 := Lib.hid (refO_cons (prevQ l k) x (l.drop (k + 1)) ▸ HST2.out)
      obtain ⟨hx0, hx1, hx2, hx3⟩ := hx
      have K1 := Lib.hid (fun W => hb1 ▸ key10_any x.p W (by omega))
      have K2 := Lib.hid (fun W => hb2 ▸ key10_any x.h W (by omega))
      have K3 := Lib.hid (fun W => hb3 ▸ in_any x.s 0 10 W)
      have hbA : Below wr.heap.size wr (wr.alloc (.cells #[.string x.p, .string x.h, .int .i64 x.s] 51)) := (Below.refl _ _).alloc (Nat.le_refl _) _
      have BA := Lib.hid (HL.out.trans (hbA.mono hzr))
      have XA := Lib.hid (Blk.new wr 51 #[.string x.p, .string x.h, .int .i64 x.s])
      clear hb1 hb2 hb3 HST2 hbA
      go_upto_region 6 with fail
      generalize (wr.alloc (.cells #[.string x.p, .string x.h, .int .i64 x.s] 51)) = w5 at *
      have m0 : w5.cell? ⟨wr.heap.size, 0, none⟩ = some (.string x.p) := XA.out.cell 0 _ rfl
      have m1 : w5.cell? ⟨wr.heap.size, 1, none⟩ = some (.string x.h) := XA.out.cell 1 _ rfl
      have m2 : w5.cell? ⟨wr.heap.size, 2, none⟩ = some (.int .i64 x.s) := XA.out.cell 2 _ rfl
      go_wp2_with fail
      refine (K1.out _).mono ?_; rintro e w6 ⟨rfl, hb6⟩
      clear m0 m1 m2
      have B6 := Lib.hid (BA.out.trans (hb6.mono BA.out.size))
      have X6 := Lib.hid (XA.out.below hb6 XA.out.lt)
      clear hb6 BA XA
      have m0 : w6.cell? ⟨wr.heap.size, 0, none⟩ = some (.string x.p) := X6.out.cell 0 _ rfl
      have m1 : w6.cell? ⟨wr.heap.size, 1, none⟩ = some (.string x.h) := X6.out.cell 1 _ rfl
      have m2 : w6.cell? ⟨wr.heap.size, 2, none⟩ = some (.int .i64 x.s) := X6.out.cell 2 _ rfl
      have HST4 : Hid ((if (if (!b1 || !b2) = true then 5 else if 0 ≤ ordO (prevQ l k) x then 7 else if (!b3) = true then 1 else 0 : Int) ≠ 0 then (if (!b1 || !b2) = true then 5 else if 0 ≤ ordO (prevQ l k) x then 7 else if (!b3) = true then 1 else 0) else refO (some x) (l.drop (k + 1))) = r) := Lib.hid (by rw [← HSR.out]; exact HST3.out)
      clear HSR K1 HST3
      cases b1
      · have HE : Hid (5 = r) := Lib.hid (by have := HST4.out; simpa using this)
        go_wp2_with fail
        go_ret
        exact ⟨by rw [HE.out]; try rfl, B6.out⟩
      · go_wp2_with fail
        refine (K2.out _).mono ?_; rintro e w7 ⟨rfl, hb7⟩
        clear m0 m1 m2
        have B7 := Lib.hid (B6.out.trans (hb7.mono B6.out.size))
        have X7 := Lib.hid (X6.out.below hb7 X6.out.lt)
        clear hb7 B6 X6
        have m0 : w7.cell? ⟨wr.heap.size, 0, none⟩ = some (.string x.p) := X7.out.cell 0 _ rfl
        have m1 : w7.cell? ⟨wr.heap.size, 1, none⟩ = some (.string x.h) := X7.out.cell 1 _ rfl
        have m2 : w7.cell? ⟨wr.heap.size, 2, none⟩ = some (.int .i64 x.s) := X7.out.cell 2 _ rfl
        clear K2
        cases b2
        · have HE : Hid (5 = r) := Lib.hid (by have := HST4.out; simpa using this)
          go_wp2_with fail
          go_ret
          exact ⟨by rw [HE.out]; try rfl, B7.out⟩
        · have HST5 : Hid ((if (if 0 ≤ ordO (prevQ l k) x then 7 else if (!b3) = true then 1 else 0 : Int) ≠ 0 then (if 0 ≤ ordO (prevQ l k) x then 7 else if (!b3) = true then 1 else 0) else refO (some x) (l.drop (k + 1))) = r) := Lib.hid (by have := HST4.out; simpa using this)
          clear HST4
          obtain ⟨o, hoo⟩ : ∃ o, ordO (prevQ l k) x = o := ⟨_, rfl⟩
          rw [hoo] at HST5
          by_cases hk0 : k = 0
          · have HOM : Hid (o = -1) := Lib.hid (by rw [← hoo]; unfold prevQ; rw [if_pos hk0]; rfl)
            have HK0 := Lib.hid hk0
            have e0 : decide ((k : Int) > 0) = false := by simp; omega
            have e1 : ¬ 0 < k := by omega
            have e2 : decide (0 < k) = false := by simp; omega
            clear hoo hk0
            go_wp2_with fail
            go_quiet (fail)
            have B9 := Lib.hid (Stm.Below.drewN B7.out nq)
            have X9 := Lib.hid (show Blk (w7.drewN nq) wr.heap.size 51 #[.string x.p, .string x.h, .int .i64 x.s] from X7.out)
            clear m0 m1 m2 B7 X7
            generalize w7.drewN nq = w9 at *
            have m0 : w9.cell? ⟨wr.heap.size, 0, none⟩ = some (.string x.p) := X9.out.cell 0 _ rfl
            have m1 : w9.cell? ⟨wr.heap.size, 1, none⟩ = some (.string x.h) := X9.out.cell 1 _ rfl
            have m2 : w9.cell? ⟨wr.heap.size, 2, none⟩ = some (.int .i64 x.s) := X9.out.cell 2 _ rfl
            have ho : ¬ 0 ≤ o := by rw [HOM.out]; decide
            have d1 : decide (o ≥ 0) = false := by simpa using ho
            have HST6 : Hid ((if (if (!b3) = true then 1 else 0 : Int) ≠ 0 then (if (!b3) = true then 1 else 0) else refO (some x) (l.drop (k + 1))) = r) := Lib.hid (by have := HST5.out; rw [if_neg ho] at this; exact this)
            clear HST5 ho
            go_wp2_with fail
            refine (K3.out _).mono ?_; rintro e w8 ⟨rfl, rfl⟩
            cases b3
            · have HE : Hid (1 = r) := Lib.hid (by have := HST6.out; simpa using this)
              go_wp2_with fail
              go_ret
              exact ⟨by rw [HE.out]; try rfl, B9.out⟩
            · have HE : Hid (refO (prevQ l (k + 1)) (l.drop (k + 1)) = r) := Lib.hid (by have := HST6.out; rw [HPN.out]; simpa using this)
              go_wp2_with fail
              go_roundw
              case rel => exact ⟨k + 1, by omega, by go_num, HE, B9⟩
              case measure => simp [intOf]; omega
          · obtain ⟨j, hj⟩ : ∃ j, k = j + 1 := ⟨k - 1, by omega⟩
            have hjl : j < l.length := by omega
            have HY := Lib.hid (show ordP l[j].p l[j].h x.p x.h = o by
              rw [← hoo]; unfold prevQ; rw [if_neg hk0, hj, Nat.add_sub_cancel, List.getElem?_eq_getElem hjl]; rfl)
            have hBW := B7.out
            obtain ⟨p0, p1, _⟩ := HCL.out j hjl
            have y0 := (hBW.cell (p := ⟨g, j * 3, none⟩) hgW).trans p0
            have y1 := (hBW.cell (p := ⟨g, j * 3 + 1, none⟩) hgW).trans p1
            clear p0 p1 hBW hoo
            generalize l[j] = y at *
            have e0 : decide ((k : Int) > 0) = true := by simp; omega
            have e1 : 0 < k := by omega
            have e2 : decide (0 < k) = true := by simp; omega
            have ej : IntKind.i64.wrap ((k : Int) - 1) = (j : Int) := by
              rw [IntWalk.i64_in _ (by omega)]; omega
            have b0 : (0 : Int) ≤ (j : Int) := by omega
            have b1 : (j : Int) < (n : Int) := by omega
            have HJ := Lib.hid hj
            clear hj hk0
            go_wp2_with fail
            refine wp_region_still_tail 11 (by kernel_rfl) (by kernel_rfl) ?_
            change wpStill _ _ (World.drew _) (fun a' => wpList _ _ _ _ a' (World.drew _)) _ _
            have B8 := Lib.hid (Below.drew B7.out)
            have X8 := Lib.hid (show Blk (w7.drew) wr.heap.size 51 #[.string x.p, .string x.h, .int .i64 x.s] from X7.out)
            have z0 : w7.drew.cell? ⟨g, j * 3, none⟩ = some (.string y.p) := y0
            have z1 : w7.drew.cell? ⟨g, j * 3 + 1, none⟩ = some (.string y.h) := y1
            clear m0 m1 m2 B7 X7 y0 y1 c0 c1 c2
            generalize w7.drew = w8 at *
            have m0 : w8.cell? ⟨wr.heap.size, 0, none⟩ = some (.string x.p) := X8.out.cell 0 _ rfl
            have m1 : w8.cell? ⟨wr.heap.size, 1, none⟩ = some (.string x.h) := X8.out.cell 1 _ rfl
            have m2 : w8.cell? ⟨wr.heap.size, 2, none⟩ = some (.int .i64 x.s) := X8.out.cell 2 _ rfl
            simp only [List.take_succ_cons, List.take_zero, List.drop_succ_cons, List.drop_zero]
            repeat still_step
            refine wpStill_nil ?_
            clear ej
            go_wp2_with fail
            refine (pord_any y.p y.h x.p x.h o HY _).mono ?_; rintro e w9 ⟨rfl, hb9⟩
            clear m0 m1 m2 z0 z1
            have B9 := Lib.hid (B8.out.trans (hb9.mono B8.out.size))
            have X9 := Lib.hid (X8.out.below hb9 X8.out.lt)
            clear hb9 B8 X8
            have m0 : w9.cell? ⟨wr.heap.size, 0, none⟩ = some (.string x.p) := X9.out.cell 0 _ rfl
            have m1 : w9.cell? ⟨wr.heap.size, 1, none⟩ = some (.string x.h) := X9.out.cell 1 _ rfl
            have m2 : w9.cell? ⟨wr.heap.size, 2, none⟩ = some (.int .i64 x.s) := X9.out.cell 2 _ rfl
            by_cases ho : 0 ≤ o
            · have HE : Hid (7 = r) := Lib.hid (by have := HST5.out; rw [if_pos ho] at this; simpa using this)
              have d1 : decide (o ≥ 0) = true := by simpa using ho
              go_wp2_with fail
              go_ret
              exact ⟨by rw [HE.out]; try rfl, B9.out⟩
            · have d1 : decide (o ≥ 0) = false := by simpa using ho
              have HST6 : Hid ((if (if (!b3) = true then 1 else 0 : Int) ≠ 0 then (if (!b3) = true then 1 else 0) else refO (some x) (l.drop (k + 1))) = r) := Lib.hid (by have := HST5.out; rw [if_neg ho] at this; exact this)
              clear HST5 ho
              go_wp2_with fail
              refine (K3.out _).mono ?_; rintro e w8 ⟨rfl, rfl⟩
              cases b3
              · have HE : Hid (1 = r) := Lib.hid (by have := HST6.out; simpa using this)
                go_wp2_with fail
                go_ret
                exact ⟨by rw [HE.out]; try rfl, B9.out⟩
              · have HE : Hid (refO (prevQ l (k + 1)) (l.drop (k + 1)) = r) := Lib.hid (by have := HST6.out; rw [HPN.out]; simpa using this)
                go_wp2_with fail
                go_roundw
                case rel => exact ⟨k + 1, by omega, by go_num, HE, B9⟩
                case measure => simp [intOf]; omega
    · have hkn : k = n := by omega
      subst hkn
      have HE : Hid (0 = r) := Lib.hid (by rw [← HST.out, List.drop_eq_nil_of_le (by rw [HN.out]; exact Nat.le_refl _)]; rfl)
      clear HST
      go_wp2_with fail
      go_ret
      exact ⟨by rw [HE.out]; try rfl, HL.out⟩
end Go.Proofs.YtmihbfmlnfhgcadGreatDoor.Cal
