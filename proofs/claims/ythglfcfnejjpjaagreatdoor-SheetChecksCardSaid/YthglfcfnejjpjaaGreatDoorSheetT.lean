/-
  THE CONTRACTS OF THE REFERENCE'S MissingOf AND DifferOf.
-/
import Derived.Test.YthglfcfnejjpjaaGreatDoorSheetS
import Derived.Test.YthglfcfnejjpjaaGreatDoorSheetB
namespace Go.Proofs.YthglfcfnejjpjaaGreatDoor.Rev
open Go.ChangeShapes Go.WideShapes Go.ChangeAt Go.RowKit Stm Key
set_option linter.unusedVariables false

theorem fn53 (C : Nat) (k : ByteArray) (w : World) (hC : w.cell? ⟨C, 0, none⟩ = some (.string k)) (hlt : C < w.heap.size) (W : World) (hW : Below w.heap.size w W) (a : An) :
    Calls Tryz.prog 53 #[.agg #[.string a.q, .int .i64 a.n, .string a.o, .string a.w], .pointer (some ⟨C, 0, none⟩)] W fun e w' => e = .returned (.bool (eqS a.q k)) ∧ Below W.heap.size W w' := by
  have hc := (hW.cell (p := ⟨C, 0, none⟩) hlt).trans hC
  have hCW : C < W.heap.size := Nat.lt_of_lt_of_le hlt hW.size
  obtain ⟨b, hb⟩ : ∃ b, eqS a.q k = b := ⟨_, rfl⟩
  rw [hb]
  unfold eqS at hb
  have HB := Lib.hid ((Below.refl W.heap.size W).alloc (Nat.le_refl _) (.cells #[.string a.q, .int .i64 a.n, .string a.o, .string a.w] 51))
  clear hC hlt hW
  go_enter Tryz.func53, Tryz.ntmps53
  cases b
  all_goals
    go_wp2_with fail
    go_ret
    exact ⟨rfl, HB.out⟩

set_option maxRecDepth 100000 in
set_option maxHeartbeats 4000000 in
theorem indexb_walk (C : Nat) (k : ByteArray) (A : Option Addr) (n c : Nat) (l : List An) (w : World) (hC : w.cell? ⟨C, 0, none⟩ = some (.string k)) (hlt : C < w.heap.size) (hq : AL w A l) (hn : l.length = n) (h8 : n ≤ 1000) :
    Calls Tryz.prog 45 #[.slice A n c, .func (.func 53) #[] #[.pointer (some ⟨C, 0, none⟩)]] w (IdaRet l k w) := by
  have HF := Lib.hid (fn53 C k w hC hlt)
  have HT : Hid (∀ W, Below w.heap.size w W → AL W A l) := Lib.hid fun W hW => hq.below hW
  have HK := Lib.hid hn
  clear hC hq hn hlt
  go_enter Tryz.func45, Tryz.ntmps45
  go_wp2_with fail
  go_loopw [8] (fun i wr => ∃ j : Nat, j ≤ n ∧ i = .int .i64 j ∧ Hid (toQ (l.drop j) k = toQ l k) ∧ Hid (Below w.heap.size w wr)) (fun i _ => n - (intOf i).toNat)
  case atStart => exact ⟨0, Nat.zero_le _, rfl, Lib.hid rfl, Lib.hid (Below.refl _ _)⟩
  case round =>
    obtain ⟨j, hj, rfl, HM, HB⟩ := hrel
    by_cases hlt : j < n
    · have hkl : j < l.length := by rw [HK.out]; exact hlt
      obtain ⟨g, hA, hgl, hc⟩ := (HT.out _ HB.out).2 (by omega)
      subst hA
      obtain ⟨c0, c1, c2, c3⟩ := hc j hkl
      have HNX : Hid (eqS l[j].q k = false → toQ (l.drop (j + 1)) k = toQ l k) := Lib.hid fun h => (toQ_step hkl h).symm.trans HM.out
      have HHIT : Hid (eqS l[j].q k = true → ∃ (i : Nat) (h : i < l.length), (j : Int) = i ∧ toQ l k = some l[i]) := Lib.hid fun h => ⟨j, hkl, rfl, HM.out.symm.trans (toQ_hit hkl h)⟩
      generalize l[j] = x at *
      have HW := Lib.hid (fun W hW => HF.out W hW x)
      obtain ⟨b, hb⟩ : ∃ b, eqS x.q k = b := ⟨_, rfl⟩
      rw [hb] at HNX HHIT HW
      have a0 : (0 : Int) ≤ (j : Int) := by omega
      have a1 : (j : Int) < (n : Int) := by omega
      clear hc hb
      go_wp2_with fail
      refine (HW.out _ (by first | exact HB.out | exact HB.out.drew)).mono ?_; rintro e w1 ⟨rfl, hb1⟩
      have HB1 : Hid (Below w.heap.size w w1) := Lib.hid (by first | exact HB.out.trans (hb1.mono HB.out.size) | exact HB.out.drew.trans (hb1.mono HB.out.size))
      clear hb1
      cases b
      · have HM2 := Lib.hid (HNX.out rfl)
        go_wp2_with fail
        go_round
        case rel => exact ⟨j + 1, by omega, by go_num, HM2, HB1⟩
        case measure => simp [intOf]; omega
      · have HE := Lib.hid (HHIT.out rfl)
        go_wp2_with fail
        go_ret
        exact ⟨_, rfl, Or.inl HE.out, HB1.out⟩
    · have hkn : j = n := by omega
      subst hkn
      have HE : Hid (toQ l k = none) := Lib.hid (by have := HM.out; rw [List.drop_of_length_le (by rw [HK.out]; exact Nat.le_refl _)] at this; exact this.symm)
      go_wp2_with fail
      go_ret
      exact ⟨_, rfl, Or.inr ⟨rfl, HE.out⟩, HB.out⟩


theorem containsb_walk (C : Nat) (k : ByteArray) (A : Option Addr) (n c : Nat) (l : List An) (w : World) (hC : w.cell? ⟨C, 0, none⟩ = some (.string k)) (hlt : C < w.heap.size) (hq : AL w A l) (hn : l.length = n) (h8 : n ≤ 1000) (b : Bool) (hb : Hid ((toQ l k).isSome = b)) :
    Calls Tryz.prog 52 #[.slice A n c, .func (.func 53) #[] #[.pointer (some ⟨C, 0, none⟩)]] w fun e w' => e = .returned (.bool b) ∧ Below w.heap.size w w' := by
  have H := Lib.hid (indexb_walk C k A n c l w hC hlt hq hn h8)
  clear hC hq hn
  go_enter Tryz.func52, Tryz.ntmps52
  go_wp2_with fail
  refine (H.out).mono ?_; rintro e w1 ⟨r, rfl, hor, hB⟩
  have HB := Lib.hid hB
  clear hB
  rcases hor with ⟨i, hi, rfl, he⟩ | ⟨rfl, he⟩
  · have hb' := hb.out
    rw [he] at hb'
    have hb2 : b = true := hb'.symm
    subst hb2
    have hd : decide ((i : Int) ≥ 0) = true := by simp
    clear he hb'
    go_wp2_with fail
    go_ret
    exact ⟨rfl, HB.out⟩
  · have hb' := hb.out
    rw [he] at hb'
    have hb2 : b = false := hb'.symm
    subst hb2
    clear he hb'
    go_wp2_with fail
    go_ret
    exact ⟨rfl, HB.out⟩
theorem answered_walk (k : ByteArray) (A : Option Addr) (n c : Nat) (l : List An) (w : World) (hq : AL w A l) (hn : l.length = n) (h8 : n ≤ 1000) :
    Calls Tryz.prog 32 #[.slice A n c, .string k] w fun e w' => e = .returned (.bool (toQ l k).isSome) ∧ Below w.heap.size w w' := by
  have hb0 : Below w.heap.size w (w.alloc (.cells #[.string k] 9)) := (Below.refl _ _).alloc (Nat.le_refl _) _
  obtain ⟨b, hb⟩ : ∃ b, (toQ l k).isSome = b := ⟨_, rfl⟩
  have H := Lib.hid (containsb_walk w.heap.size k A n c l (w.alloc (.cells #[.string k] 9)) ((Blk.new w 9 #[.string k]).cell 0 _ rfl) (by simp) (hq.below hb0) hn h8 b (Lib.hid hb))
  rw [hb]
  have HB := Lib.hid hb0
  clear hq hn hb0 hb
  go_enter Tryz.func32, Tryz.ntmps32
  go_wp2_with fail
  refine (H.out).mono ?_; rintro e w1 ⟨rfl, hB⟩
  have HB1 := Lib.hid (HB.out.trans (hB.mono HB.out.size))
  clear hB
  go_wp2_with fail
  go_ret
  exact ⟨rfl, HB1.out⟩

set_option maxRecDepth 100000 in
set_option maxHeartbeats 4000000 in
theorem get_walk (k : ByteArray) (A : Option Addr) (n c : Nat) (l : List An) (w : World) (hq : AL w A l) (hn : l.length = n) (h8 : n ≤ 1000) :
    Calls Tryz.prog 33 #[.slice A n c, .string k] w (ToRet (toQ l k) w) := by
  have B0 := Lib.hid ((Below.refl w.heap.size w).alloc (Nat.le_refl _) (.cells #[.string ⟨#[]⟩, .int .i64 0, .string ⟨#[]⟩, .string ⟨#[]⟩] 51))
  have KA := Lib.hid (Blk.new w 51 #[.string ⟨#[]⟩, .int .i64 0, .string ⟨#[]⟩, .string ⟨#[]⟩])
  have HQ := Lib.hid (fun (W : World) (hW : Below w.heap.size w W) => hq.below hW)
  have HN := Lib.hid hn
  clear hq hn
  go_enter Tryz.func33, Tryz.ntmps33
  go_wp2_with fail
  go_loopw [10] (fun i wr => ∃ j : Nat, j ≤ n ∧ i = .int .i64 j ∧ Hid (toQ (l.drop j) k = toQ l k) ∧ Hid (Below w.heap.size w wr) ∧ Hid (Blk wr w.heap.size 51 #[.string ⟨#[]⟩, .int .i64 0, .string ⟨#[]⟩, .string ⟨#[]⟩])) (fun i _ => n - (intOf i).toNat)
  case atStart => exact ⟨0, Nat.zero_le _, rfl, Lib.hid rfl, B0, KA⟩
  case round =>
    obtain ⟨j, hj, rfl, HM, HB, HK⟩ := hrel
    rename World => w1
    have hz1 := HB.out.size
    have hk1 := HK.out.lt
    by_cases hlt : j < n
    · have hkl : j < l.length := by rw [HN.out]; exact hlt
      obtain ⟨g, hA, hgl, hc⟩ := (HQ.out _ HB.out).2 (by omega)
      subst hA
      obtain ⟨c0, c1, c2, c3⟩ := hc j hkl
      have HNX : Hid (eqS l[j].q k = false → toQ (l.drop (j + 1)) k = toQ l k) := Lib.hid fun h => (toQ_step hkl h).symm.trans HM.out
      have HHIT : Hid (eqS l[j].q k = true → toQ l k = some l[j]) := Lib.hid fun h => HM.out.symm.trans (toQ_hit hkl h)
      generalize l[j] = x at *
      obtain ⟨xq, xn, xo, xw⟩ := x
      simp only at c0 c1 c2 c3 HNX HHIT
      have a0 : (0 : Int) ≤ (j : Int) := by omega
      have a1 : (j : Int) < (n : Int) := by omega
      have K2 := Lib.hid (HK.out.alloc (.cells #[.string xq, .int .i64 xn, .string xo, .string xw] 51))
      have B2 := Lib.hid (HB.out.alloc hz1 (.cells #[.string xq, .int .i64 xn, .string xo, .string xw] 51))
      clear hc
      by_cases hb : xq.toList = k.toList
      · have HE := Lib.hid (HHIT.out (by unfold eqS; rw [hb]; simp))
        have d0 := HK.out.cell 0 _ rfl
        have d1 := HK.out.cell 1 _ rfl
        have d2 := HK.out.cell 2 _ rfl
        have d3 := HK.out.cell 3 _ rfl
        have f0 := HK.out.frozen 0
        have f1 := HK.out.frozen 1
        have f2 := HK.out.frozen 2
        have f3 := HK.out.frozen 3
        have KX := Lib.hid (show Blk (((((w1.setCell ⟨w.heap.size, 0, none⟩ (.string xq)).setCell ⟨w.heap.size, 1, none⟩ (.int .i64 xn)).setCell ⟨w.heap.size, 2, none⟩ (.string xo)).setCell ⟨w.heap.size, 3, none⟩ (.string xw)).alloc (.cells #[.string xq, .int .i64 xn, .string xo, .string xw] 51)) w.heap.size 51 #[.string xq, .int .i64 xn, .string xo, .string xw] from ((((HK.out.set_ 0 (.string xq)).set_ 1 (.int .i64 xn)).set_ 2 (.string xo)).set_ 3 (.string xw)).alloc _)
        have BX := Lib.hid (((((HB.out.setCell (p := ⟨w.heap.size, 0, none⟩) (Nat.le_refl _) (.string xq)).setCell (p := ⟨w.heap.size, 1, none⟩) (Nat.le_refl _) (.int .i64 xn)).setCell (p := ⟨w.heap.size, 2, none⟩) (Nat.le_refl _) (.string xo)).setCell (p := ⟨w.heap.size, 3, none⟩) (Nat.le_refl _) (.string xw)).alloc (by simpa using hz1) (.cells #[.string xq, .int .i64 xn, .string xo, .string xw] 51))
        go_wp2_with fail
        refine bodyPost_ret (v := .tuple #[.agg #[.string xq, .int .i64 xn, .string xo, .string xw], .bool true]) (by simp only [results, Tryz.results33]; go_simp) rfl ?_
        exact ⟨by rw [HE.out]; rfl, BX.out⟩
      · have HM2 := Lib.hid (HNX.out (by unfold eqS; rw [beq_eq_false_iff_ne]; exact hb))
        have hbb : (xq.toList == k.toList) = false := by rw [beq_eq_false_iff_ne]; exact hb
        clear hb
        go_wp2_with fail
        go_roundw
        case rel => exact ⟨j + 1, by omega, by go_num, HM2, B2, K2⟩
        case measure => simp [intOf]; omega
    · have hkn : j = n := by omega
      subst hkn
      have HE : Hid (toQ l k = none) := Lib.hid (by have := HM.out; rw [List.drop_of_length_le (by rw [HN.out]; exact Nat.le_refl _)] at this; exact this.symm)
      have d0 := HK.out.cell 0 _ rfl
      have d1 := HK.out.cell 1 _ rfl
      have d2 := HK.out.cell 2 _ rfl
      have d3 := HK.out.cell 3 _ rfl
      have f0 := HK.out.frozen 0
      have f1 := HK.out.frozen 1
      have f2 := HK.out.frozen 2
      have f3 := HK.out.frozen 3
      have KX := Lib.hid (show Blk ((((w1.setCell ⟨w.heap.size, 0, none⟩ (.string ⟨#[]⟩)).setCell ⟨w.heap.size, 1, none⟩ (.int .i64 0)).setCell ⟨w.heap.size, 2, none⟩ (.string ⟨#[]⟩)).setCell ⟨w.heap.size, 3, none⟩ (.string ⟨#[]⟩)) w.heap.size 51 #[.string ⟨#[]⟩, .int .i64 0, .string ⟨#[]⟩, .string ⟨#[]⟩] from ((((HK.out.set_ 0 (.string ⟨#[]⟩)).set_ 1 (.int .i64 0)).set_ 2 (.string ⟨#[]⟩)).set_ 3 (.string ⟨#[]⟩)))
      have BX := Lib.hid ((((HB.out.setCell (p := ⟨w.heap.size, 0, none⟩) (Nat.le_refl _) (.string ⟨#[]⟩)).setCell (p := ⟨w.heap.size, 1, none⟩) (Nat.le_refl _) (.int .i64 0)).setCell (p := ⟨w.heap.size, 2, none⟩) (Nat.le_refl _) (.string ⟨#[]⟩)).setCell (p := ⟨w.heap.size, 3, none⟩) (Nat.le_refl _) (.string ⟨#[]⟩))
      have y0 := KX.out.cell 0 _ rfl
      have y1 := KX.out.cell 1 _ rfl
      have y2 := KX.out.cell 2 _ rfl
      have y3 := KX.out.cell 3 _ rfl
      go_wp2_with fail
      refine bodyPost_ret (v := .tuple #[.agg #[.string ⟨#[]⟩, .int .i64 0, .string ⟨#[]⟩, .string ⟨#[]⟩], .bool false]) (by simp only [results, Tryz.results33]; go_simp) rfl ?_
      exact ⟨by rw [HE.out]; rfl, BX.out⟩

set_option maxRecDepth 100000 in
set_option maxHeartbeats 8000000 in
theorem missingof_walk (B : Nat) (A : Option Addr) (n cap : Nat) (qs : List Qs) (A2 : Option Addr) (n2 c2' : Nat) (l : List An) (w : World) (hE : sheetE qs = 0) (hn : qs.length = n) (hq : QL B w A qs) (hl : AL w A2 l) (hn2 : l.length = n2) (h8 : n2 ≤ 1000) :
    Calls Tryz.prog 12 #[.slice A n cap, .slice A2 n2 c2'] w (StrRet ((qs.filter fun q => q.nd && (toQ l q.k).isNone).map (·.k)) w) := by
  have HE := Lib.hid hE
  have HN := Lib.hid hn
  have h30 := (sheetE_ok hE).2.2
  have HW : Hid (∀ W, Below w.heap.size w W → QL B W A qs) := Lib.hid fun W hW => hq.below hW
  have HAL := Lib.hid (fun (W : World) (hW : Below w.heap.size w W) => hl.below hW)
  have HL2 := Lib.hid hn2
  clear hl hn2
  have hn30 : n ≤ 30 := by omega
  obtain ⟨i0, hi0, hz0, hz1, hz2⟩ := info_parts infoS
  have HI := Lib.hid hi0
  have Z0 := Lib.hid hz0
  have Z1 := Lib.hid hz1
  have Z2 := Lib.hid hz2
  clear hE hn hq h30 hi0 hz0 hz1 hz2
  go_enter Tryz.func12, Tryz.ntmps12
  go_wp2_with fail
  go_loopw [5, 10] (fun o i wr => ∃ (k : Nat) (Ax : Option Addr) (m cx : Nat), k ≤ n ∧ i = .int .i64 k ∧ o = .slice Ax m cx ∧ m ≤ k ∧ Hid (m = (((qs.take k).filter fun q => q.nd && (toQ l q.k).isNone).map (·.k)).length) ∧ Hid (wr.ownsRow w.heap.size 9 1 (.slice Ax m cx) m ((((qs.take k).filter fun q => q.nd && (toQ l q.k).isNone).map (·.k)).map Value.string)) ∧ Hid (Below w.heap.size w wr)) (fun _ i _ => n - (intOf i).toNat)
  case atStart => exact ⟨0, none, 0, 0, Nat.zero_le _, rfl, rfl, Nat.zero_le _, Lib.hid rfl, Lib.hid (World.ownsRow_nil _ _ _ _), Lib.hid (Below.refl _ _)⟩
  case round =>
    obtain ⟨k, Ax, m, cx, hk, rfl, rfl, hmk, HM, HO, HB⟩ := hrel
    rename World => w1
    have hz1 := HB.out.size
    by_cases hlt : k < n
    · have hkl : k < qs.length := by rw [HN.out]; exact hlt
      obtain ⟨hok, hcells⟩ := HW.out _ HB.out
      obtain ⟨b, hA, hbl, _, hc⟩ := hcells (by omega)
      obtain ⟨c0, c1, c2, ⟨v, c3, hol⟩, c4, c5⟩ := hc k hkl
      obtain ⟨Ao, co, hv, _⟩ := hol
      have hkey := (sheetsE_ok qs [] (sheetE_ok HE.out).1 k hkl).1
      have HNX := Lib.hid (fil_next qs (fun q => q.nd && (toQ l q.k).isNone) k hkl)
      subst hv
      simp only at HNX
      generalize qs[k] = q at *
      have HKEY := Lib.hid hkey
      have a0 : (0 : Int) ≤ (k : Int) := by omega
      have a1 : (k : Int) < (n : Int) := by omega
      subst hA
      have KQ := Lib.hid (Blk.new w1 45 #[.string q.k, .int .i64 q.d, .int .i64 q.m, .slice Ao q.o.length co, .bool q.nd, .bool q.sc])
      have B1 := Lib.hid (HB.out.alloc hz1 (.cells #[.string q.k, .int .i64 q.d, .int .i64 q.m, .slice Ao q.o.length co, .bool q.nd, .bool q.sc] 45))
      have O1 := Lib.hid (HO.out.alloc (.cells #[.string q.k, .int .i64 q.d, .int .i64 q.m, .slice Ao q.o.length co, .bool q.nd, .bool q.sc] 45))
      clear hok hcells hc hkey HO
      obtain ⟨qk, qd, qm, qo, nd, sc⟩ := q
      simp only at c0 c1 c2 c3 c4 c5 KQ B1 O1 HNX HKEY
      have HAN := Lib.hid (fun (W : World) (hW : Below w.heap.size w W) => answered_walk qk A2 n2 c2' l W (HAL.out W hW) HL2.out h8)
      obtain ⟨x, hx⟩ : ∃ x, (toQ l qk).isSome = x := ⟨_, rfl⟩
      have hx2 : (toQ l qk).isNone = !x := by rw [← hx]; cases toQ l qk <;> rfl
      rw [hx] at HAN
      rw [hx2] at HNX
      clear hx hx2
      cases nd
      · simp only [Bool.false_and] at HNX
        have HM2 : Hid (m = (((qs.take (k + 1)).filter fun q => q.nd && (toQ l q.k).isNone).map (·.k)).length) := Lib.hid (by rw [HNX.out]; simpa using HM.out)
        have O3 : Hid (World.ownsRow (w1.alloc (.cells #[.string qk, .int .i64 qd, .int .i64 qm, .slice Ao qo.length co, .bool false, .bool sc] 45)) w.heap.size 9 1 (.slice Ax m cx) m ((((qs.take (k + 1)).filter fun q => q.nd && (toQ l q.k).isNone).map (·.k)).map Value.string)) := Lib.hid (by rw [HNX.out]; simpa using O1.out)
        go_wp2_with fail
        go_roundw
        case rel => exact ⟨k + 1, Ax, m, cx, by omega, by go_num, rfl, by omega, HM2, O3, B1⟩
        case measure => simp [intOf]; omega
      · simp only [Bool.true_and] at HNX
        go_wp2_with fail
        refine (HAN.out _ B1.out).mono ?_; rintro e w2 ⟨rfl, hb⟩
        have B2 := Lib.hid (B1.out.trans (hb.mono B1.out.size))
        have O2 := Lib.hid (own_below O1.out hb)
        have K2 := Lib.hid (KQ.out.below hb KQ.out.lt)
        have e0 := K2.out.cell 0 _ rfl
        have hz2 := B2.out.size
        clear hb O1 B1 KQ c0 c1 c2 c3 c4 c5
        cases x
        · simp only [Bool.not_false] at HNX
          have HM2 : Hid (m + 1 = (((qs.take (k + 1)).filter fun q => q.nd && (toQ l q.k).isNone).map (·.k)).length) := Lib.hid (by rw [HNX.out]; have := HM.out; simp at this ⊢; omega)
          have HAP : Hid ((((qs.take (k + 1)).filter fun q => q.nd && (toQ l q.k).isNone).map (·.k)).map Value.string = ((((qs.take k).filter fun q => q.nd && (toQ l q.k).isNone).map (·.k)).map Value.string) ++ [.string qk]) := Lib.hid (by rw [HNX.out]; simp)
          go_wp2_with (at_builtin; (refine wpList_append_lies _ rfl _ _ _ rfl w.heap.size 9 i0 _ 1 16 Tryz.underlying30 HI.out Z0.out Z1.out Z2.out rfl (by omega) (.slice Ax m cx) m _ rfl (O2.out.alloc _) ⟨w2.heap.size, 0, none⟩ 1 1 [.string qk] rfl rfl (World.news_of_block (cs := #[.string qk]) (t := 9) (fr := (0, 0)) (heap_alloc_new w2 _)) (by simp [Value.oneCell']) (by omega) (by unfold maxLen; omega) (by omega) (by simp; omega) (w2.heap.size + 1) (by simp) ?_); intro gg cap' w7 hown hgrow hat hgl; (have O7 := Lib.hid (HAP.out.symm ▸ hown)); (have B7 := Lib.hid ((B2.out.alloc B2.out.size (.cells #[.string qk] 9)).trans (grownB (C := w.heap.size) hgrow (fun r e => (O2.out.lt r e).1) (by simp; have := B2.out.size; omega)))); clear hown hgrow hat hgl)
          go_roundw
          case rel => exact ⟨k + 1, some ⟨gg, 0, none⟩, m + 1, cap', by omega, by go_num, rfl, by omega, HM2, O7, B7⟩
          case measure => simp [intOf]; omega
        · simp only [Bool.not_true] at HNX
          have HM2 : Hid (m = (((qs.take (k + 1)).filter fun q => q.nd && (toQ l q.k).isNone).map (·.k)).length) := Lib.hid (by rw [HNX.out]; simpa using HM.out)
          have O3 : Hid (World.ownsRow w2 w.heap.size 9 1 (.slice Ax m cx) m ((((qs.take (k + 1)).filter fun q => q.nd && (toQ l q.k).isNone).map (·.k)).map Value.string)) := Lib.hid (by rw [HNX.out]; simpa using O2.out)
          go_wp2_with fail
          go_roundw
          case rel => exact ⟨k + 1, Ax, m, cx, by omega, by go_num, rfl, by omega, HM2, O3, B2⟩
          case measure => simp [intOf]; omega

    · have hkn : k = n := by omega
      subst hkn
      have hok := (HW.out _ HB.out).1
      have hT : qs.take k = qs := List.take_of_length_le (by rw [HN.out]; exact Nat.le_refl _)
      rw [hT] at HM HO
      have HS := Lib.hid (row_sl HO.out HM.out.symm (fun x hx => by
        obtain ⟨q, hq, rfl⟩ := List.mem_map.1 hx
        exact (hok q (List.mem_filter.1 hq).1).1))
      clear hT hok HO
      go_wp2_with fail
      go_ret
      exact ⟨Ax, m, cx, rfl, HM.out, HS.out, HB.out⟩
end Go.Proofs.YthglfcfnejjpjaaGreatDoor.Rev
