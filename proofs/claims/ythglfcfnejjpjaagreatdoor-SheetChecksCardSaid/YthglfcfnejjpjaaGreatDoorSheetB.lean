/-
  THE CONTRACTS OF THE REFERENCE'S ANSWERS: answerFault, AnswersFault.
-/
import Derived.Test.YthglfcfnejjpjaaGreatDoorSheetC
import Derived.Test.YthglfcfnejjpjaaGreatDoorSheetQ
import Derived.Test.YthglfcfnejjpjaaGreatDoorRefText10
namespace Go.Proofs.YthglfcfnejjpjaaGreatDoor.Rev
open Go.ChangeShapes Go.WideShapes Go.ChangeAt Go.RowKit Stm Key
set_option linter.unusedVariables false

set_option maxRecDepth 100000 in
set_option maxHeartbeats 4000000 in
theorem answerR_walk (q : Qs) (Ao : Option Addr) (co : Nat) (a : An) (w : World) (hq : qOk q) (hk : kindE q = 0) (hs : SL w Ao q.o) (ha : aOk a) (hT : Tabs w) (hg : gTop ≤ w.heap.size) (r : Int) (hr : Hid (ansE q a = r)) :
    Calls Tryz.prog 31 #[.agg #[.string q.k, .int .i64 q.d, .int .i64 q.m, .slice Ao q.o.length co, .bool q.nd, .bool q.sc], .agg #[.string a.q, .int .i64 a.n, .string a.o, .string a.w]] w fun e w' => e = .returned (.int .i64 r) ∧ Below w.heap.size w w' := by
  have hkd := kindE_ok hk
  obtain ⟨k, d, m, o, nd, sc⟩ := q
  obtain ⟨aq, an, ao, aw⟩ := a
  obtain ⟨_, _, ⟨hm1, hm2⟩, hol⟩ := hq
  obtain ⟨ha0, ⟨ha1, ha2⟩, ha3, ha4⟩ := ha
  simp only at hkd hm1 hm2 hol ha0 ha1 ha2 ha3 ha4 hs ⊢
  have HA := Lib.hid (show ansE ⟨k, d, m, o, nd, sc⟩ ⟨aq, an, ao, aw⟩ = if d = 1 then (if ao.toList = [] ∧ aw.toList = [] then (if an < 0 ∨ m < an then 1 else 0) else 3)
    else if d = 2 then (if an = 0 ∧ aw.toList = [] then (if hasO o ao then 0 else 8) else 3)
    else (if an = 0 ∧ ao.toList = [] then (if aw.toList = [] ∨ textL aw.data.toList = false then 3 else if m < aw.size then 2 else 0) else 3) from rfl)
  have HB : Hid (∀ x1 x2 x3 x4 : Value, ∀ y1 y2 y3 y4 : Value, Below w.heap.size w (((w.alloc (.cells #[.string k, .int .i64 d, .int .i64 m, .slice Ao o.length co, .bool nd, .bool sc] 45)).alloc (.cells #[x1, x2, x3, x4] 51)).alloc (.cells #[y1, y2, y3, y4] 51))) := Lib.hid fun x1 x2 x3 x4 y1 y2 y3 y4 => (((Below.refl _ _).alloc (Nat.le_refl _) _).alloc (by simp) _).alloc (by simp; omega) _
  have HT := Lib.hid hT
  have HS := Lib.hid hs
  clear hT hs hk
  rcases hkd with rfl | rfl | rfl
  · have HR := Lib.hid (HA.out.symm.trans hr.out)
    clear hr HA
    go_enter Tryz.func31, Tryz.ntmps31
    by_cases p1 : ao.toList = []
    · by_cases p2 : aw.toList = []
      · obtain ⟨iv, hiv⟩ : ∃ z, inI an 0 m = z := ⟨_, rfl⟩
        have HE : Hid ((if iv then (0 : Int) else 1) = r) := Lib.hid (by
          have := HR.out
          rw [if_pos rfl, if_pos ⟨p1, p2⟩] at this
          rw [← this, ← hiv]
          unfold inI
          by_cases q1 : 0 ≤ an <;> by_cases q2 : an ≤ m <;> simp [q1, q2] <;> omega)
        have IV := Lib.hid hiv
        clear HR hiv
        go_wp2_with fail
        refine (in_any _ _ _ _).mono ?_; rintro e w1 ⟨rfl, rfl⟩; rw [IV.out]
        cases iv
        all_goals
          go_wp2_with fail
          go_ret; exact ⟨Stm.ret_int (by have := HE.out; simpa using this), HB.out _ _ _ _ _ _ _ _⟩
      · have HE : Hid ((3 : Int) = r) := Lib.hid (by have := HR.out; simpa [p1, p2] using this)
        clear HR
        go_wp2_with fail
        go_ret; exact ⟨Stm.ret_int HE.out, HB.out _ _ _ _ _ _ _ _⟩
    · have HE : Hid ((3 : Int) = r) := Lib.hid (by have := HR.out; simpa [p1] using this)
      clear HR
      go_wp2_with fail
      go_ret; exact ⟨Stm.ret_int HE.out, HB.out _ _ _ _ _ _ _ _⟩
  · have HR := Lib.hid (HA.out.symm.trans hr.out)
    clear hr HA
    go_enter Tryz.func31, Tryz.ntmps31
    by_cases p1 : an = 0
    · by_cases p2 : aw.toList = []
      · obtain ⟨h, hh⟩ : ∃ h, hasO o ao = h := ⟨_, rfl⟩
        have HC := Lib.hid (fun (W : World) (hW : Below w.heap.size w W) => hasO_walk Ao co o ao W (HS.out.below hW) hol)
        rw [hh] at HC
        have HE : Hid ((if h then (0 : Int) else 8) = r) := Lib.hid (by have := HR.out; simpa [p1, p2, hh] using this)
        subst p1
        clear HR hh
        go_wp2_with fail
        refine (HC.out _ (HB.out _ _ _ _ _ _ _ _)).mono ?_; rintro e w1 ⟨rfl, rfl⟩
        cases h
        all_goals
          go_wp2_with fail
          go_ret; exact ⟨Stm.ret_int (by have := HE.out; simpa using this), HB.out _ _ _ _ _ _ _ _⟩
      · have HE : Hid ((3 : Int) = r) := Lib.hid (by have := HR.out; simpa [p1, p2] using this)
        subst p1
        clear HR
        go_wp2_with fail
        go_ret; exact ⟨Stm.ret_int HE.out, HB.out _ _ _ _ _ _ _ _⟩
    · have HE : Hid ((3 : Int) = r) := Lib.hid (by have := HR.out; simpa [p1] using this)
      clear HR
      go_wp2_with fail
      go_ret; exact ⟨Stm.ret_int HE.out, HB.out _ _ _ _ _ _ _ _⟩
  · have HR := Lib.hid (HA.out.symm.trans hr.out)
    clear hr HA
    go_enter Tryz.func31, Tryz.ntmps31
    by_cases p1 : an = 0
    · by_cases p2 : ao.toList = []
      · by_cases p3 : aw.toList = []
        · have HE : Hid ((3 : Int) = r) := Lib.hid (by have := HR.out; simpa [p1, p2, p3] using this)
          subst p1
          clear HR
          go_wp2_with fail
          go_ret; exact ⟨Stm.ret_int HE.out, HB.out _ _ _ _ _ _ _ _⟩
        · obtain ⟨h, hh⟩ : ∃ h, textL aw.data.toList = h := ⟨_, rfl⟩
          have HC := Lib.hid (fun (W : World) (hW : Below w.heap.size w W) => isText_walk aw W (by omega) (HT.out.below (hW.mono hg)) _ (Lib.hid rfl))
          rw [hh] at HC
          have HE : Hid ((if h = false then (3 : Int) else if m < (aw.size : Int) then 2 else 0) = r) := Lib.hid (by have := HR.out; simpa [p1, p2, p3, hh] using this)
          subst p1
          clear HR hh
          go_wp2_with fail
          refine (HC.out _ (HB.out _ _ _ _ _ _ _ _)).mono ?_; rintro e w1 ⟨rfl, hb⟩
          have HB1 := Lib.hid ((HB.out (.string aq) (.int .i64 0) (.string ao) (.string aw) (.string aq) (.int .i64 0) (.string ao) (.string ⟨#[]⟩)).trans (hb.mono (HB.out _ _ _ _ _ _ _ _).size))
          have KQ := Lib.hid ((((Blk.new w 45 #[.string k, .int .i64 3, .int .i64 m, .slice Ao o.length co, .bool nd, .bool sc]).alloc (.cells #[.string aq, .int .i64 0, .string ao, .string aw] 51)).alloc (.cells #[.string aq, .int .i64 0, .string ao, .string ⟨#[]⟩] 51)).below hb (by simp; omega))
          have KA := Lib.hid (((show Blk _ (w.heap.size + 1) _ _ from by have h := Blk.new (w.alloc (.cells #[.string k, .int .i64 3, .int .i64 m, .slice Ao o.length co, .bool nd, .bool sc] 45)) 51 #[.string aq, .int .i64 0, .string ao, .string aw]; simp only [World.size_alloc] at h; exact h).alloc (.cells #[.string aq, .int .i64 0, .string ao, .string ⟨#[]⟩] 51)).below hb (by simp))
          have p3b : aw.toList.isEmpty = false := by rw [List.isEmpty_eq_false_iff]; exact p3
          have p3c : (aw.toList == []) = false := by rw [beq_eq_false_iff_ne]; exact p3
          have g1 := KQ.out.cell 1 _ rfl
          have g2 := KQ.out.cell 2 _ rfl
          have g3 := KA.out.cell 3 _ rfl
          clear hb
          cases h
          · go_wp2_with fail
            go_ret; exact ⟨Stm.ret_int (by have := HE.out; simpa using this), HB1.out⟩
          · by_cases p5 : m < (aw.size : Int)
            · have d5 : decide (m < (aw.size : Int)) = true := decide_eq_true p5
              have HE2 : Hid ((2 : Int) = r) := Lib.hid (by have := HE.out; simpa [p5] using this)
              clear HE
              go_wp2_with fail
              go_ret; exact ⟨Stm.ret_int HE2.out, HB1.out⟩
            · have d5 : decide (m < (aw.size : Int)) = false := decide_eq_false p5
              have HE2 : Hid ((0 : Int) = r) := Lib.hid (by have := HE.out; simpa [p5] using this)
              clear HE
              go_wp2_with fail
              go_ret; exact ⟨Stm.ret_int HE2.out, HB1.out⟩
      · have HE : Hid ((3 : Int) = r) := Lib.hid (by have := HR.out; simpa [p1, p2] using this)
        subst p1
        clear HR
        go_wp2_with fail
        go_ret; exact ⟨Stm.ret_int HE.out, HB.out _ _ _ _ _ _ _ _⟩
    · have HE : Hid ((3 : Int) = r) := Lib.hid (by have := HR.out; simpa [p1] using this)
      clear HR
      go_wp2_with fail
      go_ret; exact ⟨Stm.ret_int HE.out, HB.out _ _ _ _ _ _ _ _⟩


set_option maxRecDepth 100000 in
set_option maxHeartbeats 8000000 in
theorem answersR_walk (B : Nat) (A : Option Addr) (n cap : Nat) (qs : List Qs) (A2 : Option Addr) (n2 c2 : Nat) (l : List An) (w : World) (hE : sheetE qs = 0) (hn : qs.length = n) (hq : QL B w A qs) (hl : AL w A2 l) (hn2 : l.length = n2) (h8 : n2 ≤ 1000)
    (hT : Tabs w) (hg : gTop ≤ w.heap.size) (r : Int) (hr : Hid (ansFault qs l = r)) :
    Calls Tryz.prog 10 #[.slice A n cap, .slice A2 n2 c2] w fun e w' => e = .returned (.int .i64 r) ∧ Below w.heap.size w w' := by
  have HE := Lib.hid hE
  have HN := Lib.hid hn
  have HL := Lib.hid hn2
  have hn30 : n ≤ 30 := by have := (sheetE_ok hE).2.2; omega
  have HW : Hid (∀ W, Below w.heap.size w W → QL B W A qs ∧ AL W A2 l ∧ Tabs W ∧ gTop ≤ W.heap.size) := Lib.hid fun W hW => ⟨hq.below hW, hl.below hW, hT.below (hW.mono hg), Nat.le_trans hg hW.size⟩
  clear hE hn hn2 hq hl hT hg
  by_cases h30 : 30 < n2
  · have HR : Hid ((2 : Int) = r) := Lib.hid ((ansSize l (by rw [HL.out]; exact h30) qs).symm.trans hr.out)
    have hd : decide ((n2 : Int) > 30) = true := decide_eq_true (by omega)
    clear hr
    go_enter Tryz.func10, Tryz.ntmps10
    go_wp2_with fail
    go_ret; exact ⟨Stm.ret_int HR.out, Below.refl _ _⟩
  have HR : Hid (answersE qs (-1) l = r) := Lib.hid (by have := hr.out; unfold ansFault at this; rwa [if_neg (by rw [HL.out]; exact h30)] at this)
  have hd : decide ((n2 : Int) > 30) = false := decide_eq_false (by omega)
  clear hr
  go_enter Tryz.func10, Tryz.ntmps10
  go_wp2_with fail
  go_loopw [5, 15] (fun s i wr => ∃ (k : Nat) (z : Int), k ≤ n2 ∧ i = .int .i64 k ∧ s = .int .i64 z ∧ -1 ≤ z ∧ Hid (answersE qs z (l.drop k) = r) ∧ Hid (Below w.heap.size w wr)) (fun _ i _ => n2 - (intOf i).toNat)
  case atStart => exact ⟨0, -1, Nat.zero_le _, rfl, rfl, by omega, HR, Lib.hid (Below.refl _ _)⟩
  case round =>
    obtain ⟨k, z, hk, rfl, rfl, hzz, HK, HB⟩ := hrel
    rename World => w1
    have hz1 := HB.out.size
    by_cases hlt : k < n2
    · have hkl : k < l.length := by have := HL.out; omega
      obtain ⟨hok, hcells⟩ := (HW.out _ HB.out).2.1
      obtain ⟨b, hA, hbl, hc⟩ := hcells (by omega)
      have hao := hok l[k] (List.getElem_mem hkl)
      obtain ⟨c0, c1, c2', c3⟩ := hc k hkl
      have HK2 := HK.out
      rw [drop_cons' l k hkl] at HK2
      unfold answersE at HK2
      generalize l[k] = a at *
      have ha0 : a.q.size ≤ 1000 := hao.1
      have HAO := Lib.hid hao
      obtain ⟨aq, an, ao, aw⟩ := a
      simp only at c0 c1 c2' c3 ha0 HK2
      have a0 : (0 : Int) ≤ (k : Int) := by omega
      have a1 : (k : Int) < (n2 : Int) := by omega
      subst hA
      have KA := Lib.hid (Blk.new w1 51 #[.string aq, .int .i64 an, .string ao, .string aw])
      have B1 := Lib.hid (HB.out.alloc hz1 (.cells #[.string aq, .int .i64 an, .string ao, .string aw] 51))
      have QA := Lib.hid (questionat_walk B aq A n cap qs _ (HW.out _ B1.out).1 HN.out (by omega))
      have HKK := Lib.hid HK2
      clear HK2 hok hcells hc HK hao
      go_wp2_with fail
      refine (QA.out).mono ?_; rintro e w2 ⟨ri, rfl, hor, hb⟩
      have B2 := Lib.hid (B1.out.trans (hb.mono B1.out.size))
      have K2 := Lib.hid (KA.out.below hb KA.out.lt)
      have e0 := K2.out.cell 0 _ rfl
      have e1 := K2.out.cell 1 _ rfl
      have e2 := K2.out.cell 2 _ rfl
      have e3 := K2.out.cell 3 _ rfl
      have hz2 := B2.out.size
      clear hb QA
      rcases hor with ⟨p, hpl, rfl, hie, hno⟩ | ⟨rfl, hno⟩
      rotate_left
      · have hlk : lkQ qs aq = none := by
          cases hp : lkQ qs aq with
          | none => rfl
          | some p =>
            obtain ⟨hpl, hpk⟩ := lkQ_some qs aq p hp
            have : hasK qs aq = true := hasK_hit hpl (by rw [hpk]; exact eqS_self _)
            rw [this] at hno; cases hno
        have HE8 : Hid ((8 : Int) = r) := Lib.hid (by have := HKK.out; rw [hlk] at this; simpa using this)
        clear hno hlk
        go_wp2_with fail
        go_ret; exact ⟨Stm.ret_int HE8.out, B2.out⟩
      have hlk : lkQ qs aq = some p := by
        cases hp : lkQ qs aq with
        | none => have := lkQ_none qs aq hp; rw [hasK_hit hpl hie] at this; cases this
        | some p' =>
          obtain ⟨hpl', hpk'⟩ := lkQ_some qs aq p' hp
          have hok := sheetsE_ok qs [] (sheetE_ok HE.out).1
          rcases Nat.lt_trichotomy p p' with h | h | h
          · have h1 := (hok p' hpl').2.1
            have h2 : hasK ([] ++ qs.take p') qs[p'].k = true := List.any_eq_true.2 ⟨qs[p], List.mem_take_iff_getElem.2 ⟨p, by omega, rfl⟩, by rw [hpk']; exact hie⟩
            rw [h2] at h1; cases h1
          · rw [h]
          · have h1 := (hok p hpl).2.1
            have h2 : hasK ([] ++ qs.take p) qs[p].k = true := List.any_eq_true.2 ⟨qs[p'], List.mem_take_iff_getElem.2 ⟨p', by omega, rfl⟩, by rw [hpk', (eqS_iff _ _).1 hie]; exact eqS_self _⟩
            rw [h2] at h1; cases h1
      have hkk := HKK.out
      rw [hlk] at hkk
      simp only [List.getD, List.getElem?_eq_getElem hpl, Option.getD_some] at hkk
      replace HKK := Lib.hid hkk
      have hpn : p < n := by rw [← HN.out]; exact hpl
      clear hkk hlk hie hno
      obtain ⟨hqok, hqc⟩ := (HW.out _ B2.out).1
      obtain ⟨bq, hAq, hbq, _, hcq⟩ := hqc (by omega)
      obtain ⟨q0, q1, q2, ⟨v, q3, hol⟩, q4, q5⟩ := hcq p hpl
      have hqq := hqok _ (List.getElem_mem hpl)
      have hkd := (sheetsE_ok qs [] (sheetE_ok HE.out).1 p hpl).2.2
      generalize qs[p] = q at *
      obtain ⟨Ao, co, hv, hco, hsl, _⟩ := hol
      subst hv
      subst hAq
      have HAW := Lib.hid (fun (W : World) (hW : Below w.heap.size w W) (hs : SL W Ao q.o) => answerR_walk q Ao co ⟨aq, an, ao, aw⟩ W hqq hkd hs HAO.out (HW.out W hW).2.2.1 (HW.out W hW).2.2.2 _ (Lib.hid rfl))
      simp only at HAW
      have HSL := Lib.hid hsl
      obtain ⟨f, hf⟩ : ∃ f, ansE q ⟨aq, an, ao, aw⟩ = f := ⟨_, rfl⟩
      rw [hf] at HKK HAW
      have p0 : (0 : Int) ≤ (p : Int) := by omega
      have p1 : (p : Int) < (n : Int) := by omega
      clear hqok hqc hcq hqq hkd hsl hf
      cases hz : decide ((p : Int) ≤ z)
      · have hz' : ¬ (p : Int) ≤ z := of_decide_eq_false hz
        have HK2 : Hid ((if f = 0 then answersE qs p (l.drop (k + 1)) else f) = r) := Lib.hid (by have := HKK.out; rwa [if_neg hz'] at this)
        clear HKK hz'
        go_wp2_with fail
        go_region_law ((first
          | (go_simp; go_at_call 31
             refine (HAW.out _ (by first | exact B2.out.drew | exact Stm.Below.drewN B2.out.drew _ | exact Stm.Below.drewN B2.out _ | exact B2.out) (by first | exact HSL.out.below (Stm.Below.drewN (Below.refl _ _) _).drew | exact HSL.out.below ((Below.refl _ _).drew) | exact HSL.out.below (Stm.Below.drewN (Below.refl _ _) _) | exact HSL.out)).mono ?_
             rintro e w3 ⟨rfl, hb⟩
             have B3 := Lib.hid ((show Below w.heap.size w (World.drew _) from B2.out.drew).trans (hb.mono B2.out.drew.size))
             clear hb)))
        all_goals
          by_cases hf0 : f = 0
          · subst hf0
            have HK3 : Hid (answersE qs p (l.drop (k + 1)) = r) := Lib.hid (by have := HK2.out; simpa using this)
            clear HK2
            go_wp2_with fail
            go_roundw
            case rel => exact ⟨k + 1, p, by omega, by go_num, rfl, by omega, HK3, B3⟩
            case measure => simp [intOf]; omega
          · have hb0 : (f != 0) = true := by rw [bne_iff_ne]; exact hf0
            have HK3 : Hid (f = r) := Lib.hid (by have := HK2.out; rwa [if_neg hf0] at this)
            clear HK2 hf0
            go_wp2_with fail
            go_ret; exact ⟨Stm.ret_int HK3.out, B3.out⟩
      · have hz' : (p : Int) ≤ z := of_decide_eq_true hz
        have HE7 : Hid ((7 : Int) = r) := Lib.hid (by have := HKK.out; rwa [if_pos hz'] at this)
        clear HKK hz'
        go_wp2_with fail
        go_ret; exact ⟨Stm.ret_int HE7.out, B2.out⟩
    · have HE : Hid (0 = r) := Lib.hid (by have := HK.out; rw [List.drop_of_length_le (by have := HL.out; omega)] at this; exact this)
      clear HK
      go_wp2_with fail
      go_ret; exact ⟨Stm.ret_int HE.out, HB.out⟩
end Go.Proofs.YthglfcfnejjpjaaGreatDoor.Rev
