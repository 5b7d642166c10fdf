/-
  THE CONTRACTS OF checkAnswer AND (*sheet).check.
-/
import Derived.Test.YthglfcfnejjpjaaGreatDoorSheetN
import Derived.Deep.CutBlock
import Derived.Deep.DeepCutAuto
namespace Go.Proofs.YthglfcfnejjpjaaGreatDoor.Rev
open Go.ChangeShapes Go.WideShapes Go.ChangeAt Go.RowKit Stm Key
set_option linter.unusedVariables false

set_option maxRecDepth 100000 in
set_option maxHeartbeats 4000000 in
theorem answer_walk (q : Qs) (Ao : Option Addr) (co : Nat) (a : An) (w : World) (hq : qOk q) (hk : kindE q = 0) (hs : SL w Ao q.o) (ha : aOk a) (hT : Tabs w) (hg : gTop ≤ w.heap.size) (r : Int) (hr : Hid (ansE q a = r)) :
    Calls Tryz.prog 43 #[.agg #[.string q.k, .int .i64 q.d, .int .i64 q.m, .slice Ao q.o.length co, .bool q.nd, .bool q.sc], .agg #[.string a.q, .int .i64 a.n, .string a.o, .string a.w]] w fun e w' => e = .returned (.int .i64 r) ∧ Below w.heap.size w w' := by
  have hkd := kindE_ok hk
  obtain ⟨k, d, m, o, nd, sc⟩ := q
  obtain ⟨aq, an, ao, aw⟩ := a
  obtain ⟨_, _, ⟨hm1, hm2⟩, hol⟩ := hq
  obtain ⟨ha0, ⟨ha1, ha2⟩, ha3, ha4⟩ := ha
  simp only at hkd hm1 hm2 hol ha0 ha1 ha2 ha3 ha4 hs ⊢
  have HA := Lib.hid (show ansE ⟨k, d, m, o, nd, sc⟩ ⟨aq, an, ao, aw⟩ = if d = 1 then (if ao.toList = [] ∧ aw.toList = [] then (if an < 0 ∨ m < an then 1 else 0) else 3)
    else if d = 2 then (if an = 0 ∧ aw.toList = [] then (if hasO o ao then 0 else 8) else 3)
    else (if an = 0 ∧ ao.toList = [] then (if aw.toList = [] ∨ textL aw.data.toList = false then 3 else if m < aw.size then 2 else 0) else 3) from rfl)
  have HB : Hid (∀ x1 x2 x3 x4 : Value, ∀ y1 y2 y3 y4 : Value, Below w.heap.size w (((w.alloc (.cells #[.string k, .int .i64 d, .int .i64 m, .slice Ao o.length co, .bool nd, .bool sc] 45)).alloc (.cells #[x1, x2, x3, x4] 51)).alloc (.cells #[y1, y2, y3, y4] 51))) := Lib.hid fun x1 x2 x3 x4 y1 y2 y3 y4 => (((Below.refl _ _).alloc (Nat.le_refl _) _).alloc (by simp) _).alloc (by simp; omega) _
  have HT := Lib.hid hT
  have HS := Lib.hid hs
  clear hT hs hk
  rcases hkd with rfl | rfl | rfl
  · have HR := Lib.hid (HA.out.symm.trans hr.out)
    clear hr HA
    go_enter Tryz.func43, Tryz.ntmps43
    by_cases p1 : ao.toList = []
    · by_cases p2 : aw.toList = []
      · by_cases p3 : an < 0
        · have HE : Hid ((1 : Int) = r) := Lib.hid (by have := HR.out; simpa [p1, p2, p3] using this)
          have d3 : decide (an < 0) = true := decide_eq_true p3
          clear HR
          go_wp2_with fail
          go_ret; exact ⟨Stm.ret_int HE.out, HB.out _ _ _ _ _ _ _ _⟩
        · have d3 : decide (an < 0) = false := decide_eq_false p3
          by_cases p4 : m < an
          · have HE : Hid ((1 : Int) = r) := Lib.hid (by have := HR.out; simpa [p1, p2, p3, p4] using this)
            have d4 : decide (m < an) = true := decide_eq_true p4
            clear HR
            go_wp2_with fail
            go_ret; exact ⟨Stm.ret_int HE.out, HB.out _ _ _ _ _ _ _ _⟩
          · have HE : Hid ((0 : Int) = r) := Lib.hid (by have := HR.out; rw [if_pos rfl, if_pos ⟨p1, p2⟩, if_neg (by omega)] at this; exact this)
            have d4 : decide (m < an) = false := decide_eq_false p4
            clear HR
            go_wp2_with fail
            go_ret; exact ⟨Stm.ret_int HE.out, HB.out _ _ _ _ _ _ _ _⟩
      · have HE : Hid ((3 : Int) = r) := Lib.hid (by have := HR.out; simpa [p1, p2] using this)
        clear HR
        go_wp2_with fail
        go_ret; exact ⟨Stm.ret_int HE.out, HB.out _ _ _ _ _ _ _ _⟩
    · have HE : Hid ((3 : Int) = r) := Lib.hid (by have := HR.out; simpa [p1] using this)
      clear HR
      go_wp2_with fail
      go_ret; exact ⟨Stm.ret_int HE.out, HB.out _ _ _ _ _ _ _ _⟩
  · have HR := Lib.hid (HA.out.symm.trans hr.out)
    clear hr HA
    go_enter Tryz.func43, Tryz.ntmps43
    by_cases p1 : an = 0
    · by_cases p2 : aw.toList = []
      · obtain ⟨h, hh⟩ : ∃ h, hasO o ao = h := ⟨_, rfl⟩
        have HC := Lib.hid (fun (W : World) (hW : Below w.heap.size w W) => hasO_walk Ao co o ao W (HS.out.below hW) hol)
        rw [hh] at HC
        have HE : Hid ((if h then (0 : Int) else 8) = r) := Lib.hid (by have := HR.out; simpa [p1, p2, hh] using this)
        subst p1
        clear HR hh
        go_wp2_with fail
        refine (HC.out _ (HB.out _ _ _ _ _ _ _ _)).mono ?_; rintro e w1 ⟨rfl, rfl⟩
        cases h
        all_goals
          go_wp2_with fail
          go_ret; exact ⟨Stm.ret_int (by have := HE.out; simpa using this), HB.out _ _ _ _ _ _ _ _⟩
      · have HE : Hid ((3 : Int) = r) := Lib.hid (by have := HR.out; simpa [p1, p2] using this)
        subst p1
        clear HR
        go_wp2_with fail
        go_ret; exact ⟨Stm.ret_int HE.out, HB.out _ _ _ _ _ _ _ _⟩
    · have HE : Hid ((3 : Int) = r) := Lib.hid (by have := HR.out; simpa [p1] using this)
      clear HR
      go_wp2_with fail
      go_ret; exact ⟨Stm.ret_int HE.out, HB.out _ _ _ _ _ _ _ _⟩
  · have HR := Lib.hid (HA.out.symm.trans hr.out)
    clear hr HA
    go_enter Tryz.func43, Tryz.ntmps43
    by_cases p1 : an = 0
    · by_cases p2 : ao.toList = []
      · by_cases p3 : aw.toList = []
        · have HE : Hid ((3 : Int) = r) := Lib.hid (by have := HR.out; simpa [p1, p2, p3] using this)
          subst p1
          clear HR
          go_wp2_with fail
          go_ret; exact ⟨Stm.ret_int HE.out, HB.out _ _ _ _ _ _ _ _⟩
        · obtain ⟨h, hh⟩ : ∃ h, textL aw.data.toList = h := ⟨_, rfl⟩
          have HC := Lib.hid (fun (W : World) (hW : Below w.heap.size w W) => text_any aw W (by omega) (HT.out.below (hW.mono hg)))
          rw [hh] at HC
          have HE : Hid ((if h = false then (3 : Int) else if m < (aw.size : Int) then 2 else 0) = r) := Lib.hid (by have := HR.out; simpa [p1, p2, p3, hh] using this)
          subst p1
          clear HR hh
          go_wp2_with fail
          refine (HC.out _ (HB.out _ _ _ _ _ _ _ _)).mono ?_; rintro e w1 ⟨rfl, hb⟩
          have HB1 := Lib.hid ((HB.out (.string aq) (.int .i64 0) (.string ao) (.string aw) (.string aq) (.int .i64 0) (.string ⟨#[]⟩) (.string aw)).trans (hb.mono (HB.out _ _ _ _ _ _ _ _).size))
          have KQ := Lib.hid ((((Blk.new w 45 #[.string k, .int .i64 3, .int .i64 m, .slice Ao o.length co, .bool nd, .bool sc]).alloc (.cells #[.string aq, .int .i64 0, .string ao, .string aw] 51)).alloc (.cells #[.string aq, .int .i64 0, .string ⟨#[]⟩, .string aw] 51)).below hb (by simp; omega))
          have KA := Lib.hid (((show Blk _ (w.heap.size + 1) _ _ from by have h := Blk.new (w.alloc (.cells #[.string k, .int .i64 3, .int .i64 m, .slice Ao o.length co, .bool nd, .bool sc] 45)) 51 #[.string aq, .int .i64 0, .string ao, .string aw]; simp only [World.size_alloc] at h; exact h).alloc (.cells #[.string aq, .int .i64 0, .string ⟨#[]⟩, .string aw] 51)).below hb (by simp))
          have p3b : aw.toList.isEmpty = false := by rw [List.isEmpty_eq_false_iff]; exact p3
          have p3c : (aw.toList == []) = false := by rw [beq_eq_false_iff_ne]; exact p3
          have g1 := KQ.out.cell 1 _ rfl
          have g2 := KQ.out.cell 2 _ rfl
          have g3 := KA.out.cell 3 _ rfl
          clear hb
          cases h
          · go_wp2_with fail
            go_ret; exact ⟨Stm.ret_int (by have := HE.out; simpa using this), HB1.out⟩
          · by_cases p5 : m < (aw.size : Int)
            · have d5 : decide (m < (aw.size : Int)) = true := decide_eq_true p5
              have HE2 : Hid ((2 : Int) = r) := Lib.hid (by have := HE.out; simpa [p5] using this)
              clear HE
              go_wp2_with fail
              go_ret; exact ⟨Stm.ret_int HE2.out, HB1.out⟩
            · have d5 : decide (m < (aw.size : Int)) = false := decide_eq_false p5
              have HE2 : Hid ((0 : Int) = r) := Lib.hid (by have := HE.out; simpa [p5] using this)
              clear HE
              go_wp2_with fail
              go_ret; exact ⟨Stm.ret_int HE2.out, HB1.out⟩
      · have HE : Hid ((3 : Int) = r) := Lib.hid (by have := HR.out; simpa [p1, p2] using this)
        subst p1
        clear HR
        go_wp2_with fail
        go_ret; exact ⟨Stm.ret_int HE.out, HB.out _ _ _ _ _ _ _ _⟩
    · have HE : Hid ((3 : Int) = r) := Lib.hid (by have := HR.out; simpa [p1] using this)
      clear HR
      go_wp2_with fail
      go_ret; exact ⟨Stm.ret_int HE.out, HB.out _ _ _ _ _ _ _ _⟩

def lkI (l : List Qs) (s : ByteArray) : Int := match lkQ l s with | some i => i | none => 0
set_option maxRecDepth 100000 in
theorem look_okQ (M : Nat) (l : List Qs) (s : ByteArray) (w : World) (hN : NQ w M l) (hs : s.size ≤ 1000) :
    (Instr.lookup 73 (.map (some M)) (.string s) true).run Tryz.prog w = .ok (.tuple #[.int .i64 (lkI l s), .bool (lkQ l s).isSome]) w := by
  have hown : w.ownsMap Tryz.prog 9 (plainElem Tryz.prog 3) M l.length (numQ l l.length) := hN
  obtain ⟨v, ps, hrun, hv⟩ := hown.look_ok keyLaw Tryz.underlying73 (zeroI _) (plainElem_int Tryz.underlying3 (by decide)) (key := .string s) (Go.WideMaps.keyOf_string_mk Tryz.underlying9 (by unfold maxLen; omega))
  obtain ⟨c, rfl, hc, hwc⟩ := plainElem_int_inv Tryz.underlying3 hv
  have h := numQ_look l s (.lit (.int .i64 0)) l.length (Nat.le_refl _)
  rw [List.take_length] at h
  rw [hrun, h.1]
  have h2 := (congrArg Prod.fst hc).symm.trans h.2
  have h3 : c = lkI l s := by
    unfold lkI
    cases hl : lkQ l s with
    | none => rw [hl] at h2; injection h2 with h2; injection h2 with _ h2
    | some i => rw [hl] at h2; injection h2 with h2; injection h2 with _ h2
  rw [h3]
end Go.Proofs.YthglfcfnejjpjaaGreatDoor.Rev
