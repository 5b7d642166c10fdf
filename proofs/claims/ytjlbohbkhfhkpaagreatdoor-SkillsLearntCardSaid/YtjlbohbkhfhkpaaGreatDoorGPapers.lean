/-
  THE CONTRACT OF A LIST OF PAPERS: submit.CheckPapers: one function of the list.
-/
import Derived.Test.YtjlbohbkhfhkpaaGreatDoorRefPaper
namespace Go.Proofs.YtjlbohbkhfhkpaaGreatDoor.Key
open Go.ChangeShapes Go.WideShapes Go.ChangeAt Go.RowKit
set_option linter.unusedVariables false

/-- A paper as it lies in memory: its strings, where its lists lie, and what they hold. -/
structure Pap where
  p : ByteArray
  t : ByteArray
  ti : ByteArray
  A : Option Addr
  B : Option Addr
  ca : Nat
  cb : Nat
  au : List ByteArray
  tp : List ByteArray
def Pap.fault (x : Pap) : Int := paperE x.p x.t x.ti x.au x.tp
def Pap.cells (x : Pap) : Array Value := #[.string x.p, .string x.t, .string x.ti, .slice x.A x.au.length x.ca, .slice x.B x.tp.length x.cb]
def PapOk (w : World) (x : Pap) : Prop := x.p.size ≤ 1000 ∧ x.t.size ≤ 1000 ∧ x.ti.size ≤ 1000 ∧ x.au.length ≤ 1000 ∧ x.tp.length ≤ 1000 ∧ x.au.length ≤ x.ca ∧ x.tp.length ≤ x.cb ∧ SL w x.A x.au ∧ SL w x.B x.tp
theorem PapOk.below {w w' : World} {x : Pap} (h : PapOk w x) (hb : Below w.heap.size w w') : PapOk w' x :=
  ⟨h.1, h.2.1, h.2.2.1, h.2.2.2.1, h.2.2.2.2.1, h.2.2.2.2.2.1, h.2.2.2.2.2.2.1, h.2.2.2.2.2.2.2.1.below hb, h.2.2.2.2.2.2.2.2.below hb⟩
def PL (w : World) (A : Option Addr) (l : List Pap) : Prop :=
  (∀ x ∈ l, PapOk w x) ∧ (0 < l.length → ∃ b, A = some ⟨b, 0, none⟩ ∧ b < w.heap.size ∧ ∀ (i : Nat) (h : i < l.length),
    w.cell? ⟨b, i * 5, none⟩ = some (.string l[i].p) ∧ w.cell? ⟨b, i * 5 + 1, none⟩ = some (.string l[i].t) ∧ w.cell? ⟨b, i * 5 + 2, none⟩ = some (.string l[i].ti) ∧
    w.cell? ⟨b, i * 5 + 3, none⟩ = some (.slice l[i].A l[i].au.length l[i].ca) ∧ w.cell? ⟨b, i * 5 + 4, none⟩ = some (.slice l[i].B l[i].tp.length l[i].cb))
def papersE (last : ByteArray) : List Pap → Int
  | [] => 0
  | x :: t => if x.fault = 0 then (if leB x.p last then 7 else papersE x.p t) else x.fault

theorem paper_pap (x : Pap) (w : World) (hx : PapOk w x) (hg : gTop ≤ w.heap.size) (hT : Tabs w) :
    Calls Tryz.prog 55 #[.agg x.cells] w fun e w' => e = .returned (.int .i64 x.fault) ∧ Below w.heap.size w w' :=
  paper_walk x.p x.t x.ti x.A x.B _ x.ca _ x.cb x.au x.tp w hx.1 hx.2.1 hx.2.2.1 rfl rfl hx.2.2.2.1 hx.2.2.2.2.1 hx.2.2.2.2.2.1 hx.2.2.2.2.2.2.1 hx.2.2.2.2.2.2.2.1 hx.2.2.2.2.2.2.2.2 hg hT _ (Lib.hid rfl)
theorem paperR_pap (x : Pap) (w : World) (hx : PapOk w x) (hg : gTop ≤ w.heap.size) (hT : Tabs w) :
    Calls Tryz.prog 61 #[.agg x.cells] w fun e w' => e = .returned (.int .i64 x.fault) ∧ Below w.heap.size w w' :=
  paperR_walk x.p x.t x.ti x.A x.B _ x.ca _ x.cb x.au x.tp w hx.1 hx.2.1 hx.2.2.1 rfl rfl hx.2.2.2.1 hx.2.2.2.2.1 hx.2.2.2.2.2.1 hx.2.2.2.2.2.2.1 hx.2.2.2.2.2.2.2.1 hx.2.2.2.2.2.2.2.2 hg hT _ (Lib.hid rfl)

set_option maxHeartbeats 4000000 in
theorem papers_walk (A : Option Addr) (n cap : Nat) (l : List Pap) (w : World) (hn : l.length = n) (hn2 : n ≤ 1000) (hS : PL w A l) (hg : gTop ≤ w.heap.size) (hT : Tabs w) (r : Int) (hr : Hid ((if 400 < n then 2 else papersE ⟨#[]⟩ l) = r)) :
    Calls Tryz.prog 34 #[.slice A n cap] w fun e w' => e = .returned (.int .i64 r) ∧ Below w.heap.size w w' := by
  have HS := Lib.hid hS
  have HL := Lib.hid hn
  have HG := Lib.hid hg
  have HT := Lib.hid hT
  clear hS hn hg hT
  obtain ⟨z1, hz1⟩ : ∃ b, decide ((n : Int) > 400) = b := ⟨_, rfl⟩
  cases z1
  case true =>
    have h4 : 400 < n := by have := of_decide_eq_true hz1; omega
    have HR : Hid (2 = r) := Lib.hid (by have := hr.out; rwa [if_pos h4] at this)
    clear hr
    go_enter Tryz.func34, Tryz.ntmps34
    go_wp2_with fail
    go_ret; exact ⟨ret_int HR.out, Below.refl _ _⟩
  have h4 : ¬ 400 < n := by have := of_decide_eq_false hz1; omega
  have HR : Hid (papersE ⟨#[]⟩ l = r) := Lib.hid (by have := hr.out; rwa [if_neg h4] at this)
  clear hr
  go_enter Tryz.func34, Tryz.ntmps34
  go_wp2_with fail
  go_loopw [3, 12] (fun s i wr => ∃ (k : Nat) (y : ByteArray), k ≤ n ∧ i = .int .i64 k ∧ s = .string y ∧ Hid (papersE y (l.drop k) = r) ∧ Hid (Below w.heap.size w wr)) (fun _ i _ => n - (intOf i).toNat)
  case atStart => exact ⟨0, ⟨#[]⟩, Nat.zero_le _, rfl, rfl, HR, Lib.hid (Below.refl _ _)⟩
  case round =>
    obtain ⟨k, y, hk, rfl, rfl, HK, HBW⟩ := hrel
    by_cases hlt : k < n
    · obtain ⟨hok, hcells⟩ := HS.out
      obtain ⟨b, hA, hbl, hc⟩ := hcells (by have := HL.out; omega)
      have hkl : k < l.length := by have := HL.out; omega
      have HOK := Lib.hid (hok l[k] (List.getElem_mem hkl))
      obtain ⟨d0, d1, d2, d3, d4⟩ := hc k hkl
      have c0 := (HBW.out.cell (p := ⟨b, k * 5, none⟩) hbl).trans d0
      have c1 := (HBW.out.cell (p := ⟨b, k * 5 + 1, none⟩) hbl).trans d1
      have c2 := (HBW.out.cell (p := ⟨b, k * 5 + 2, none⟩) hbl).trans d2
      have c3 := (HBW.out.cell (p := ⟨b, k * 5 + 3, none⟩) hbl).trans d3
      have c4 := (HBW.out.cell (p := ⟨b, k * 5 + 4, none⟩) hbl).trans d4
      have HQ2 := HK.out
      rw [drop_step l k hkl] at HQ2
      unfold papersE at HQ2
      generalize l[k] = x at *
      have HQ := Lib.hid HQ2
      subst hA
      clear HQ2 hok hcells hc HK d0 d1 d2 d3 d4
      have hb1 : Below w.heap.size w (wr.alloc (.cells x.cells 56)) := HBW.out.alloc HBW.out.size _
      have hbk := Blk.new wr 56 x.cells
      have HPC := Lib.hid (paper_pap x (wr.alloc (.cells x.cells 56)) (HOK.out.below hb1) (Nat.le_trans HG.out hb1.size) (HT.out.below (hb1.mono HG.out)))
      have HB1 := Lib.hid hb1
      have HBK := Lib.hid hbk
      clear hb1 hbk
      unfold Pap.cells at HPC HB1 HBK
      obtain ⟨f, hf⟩ : ∃ f, x.fault = f := ⟨_, rfl⟩
      obtain ⟨le, hle⟩ : ∃ b, leB x.p y = b := ⟨_, rfl⟩
      have hq := HQ.out
      rw [hf, hle] at hq
      have HQ3 := Lib.hid hq
      have HLE := Lib.hid hle
      rw [hf] at HPC
      clear HQ hq hle hf
      by_cases h0 : f = 0
      · subst h0
        have HQ4 : Hid ((if le = true then 7 else papersE x.p (l.drop (k + 1))) = r) := Lib.hid (by simpa using HQ3.out)
        clear HQ3
        unfold leB at HLE
        go_wp2_with fail
        refine HPC.out.mono ?_; rintro e w2 ⟨rfl, hb2⟩
        have HB2 := Lib.hid (HB1.out.trans (hb2.mono HB1.out.size))
        have HK2 := Lib.hid (HBK.out.below hb2 HBK.out.lt)
        have e0 := HK2.out.cell 0 (.string x.p) rfl
        clear hb2 c0 c1 c2 c3 c4
        cases h7 : Op.bytesLess x.p.toList y.toList <;> cases h8 : (x.p.toList == y.toList)
        all_goals
          rw [h7, h8] at HLE
          have hl := HLE.out
          simp at hl
          subst hl
          go_wp2_with fail
          first
            | (go_roundw
               case rel => exact ⟨k + 1, x.p, by omega, by go_num, rfl, Lib.hid (by simpa using HQ4.out), HB2⟩
               case measure => simp [intOf]; omega)
            | (go_ret; exact ⟨ret_int (by have := HQ4.out; simpa using this), HB2.out⟩)
      · have HE : Hid (f = r) := Lib.hid (by have := HQ3.out; rwa [if_neg h0] at this)
        have hne : (f != 0) = true := by rw [bne_iff_ne]; exact h0
        go_wp2_with fail
        refine HPC.out.mono ?_; rintro e w2 ⟨rfl, hb2⟩
        have HB2 := Lib.hid (HB1.out.trans (hb2.mono HB1.out.size))
        go_wp2_with fail
        go_ret; exact ⟨ret_int HE.out, HB2.out⟩
    · have HE : Hid (0 = r) := Lib.hid (by have := HK.out; rw [List.drop_of_length_le (by have := HL.out; omega)] at this; exact this)
      clear HK
      go_wp2_with fail
      go_ret; exact ⟨ret_int HE.out, HBW.out⟩
end Go.Proofs.YtjlbohbkhfhkpaaGreatDoor.Key

/-
  THE CONTRACT OF THE REFERENCE's CHECK OF A LIST OF PAPERS: PapersFault: the same function of the list as CheckPapers'.
-/
namespace Go.Proofs.YtjlbohbkhfhkpaaGreatDoor.Key
open Go.ChangeShapes Go.WideShapes Go.ChangeAt Go.RowKit
set_option linter.unusedVariables false

def lastP (l : List Pap) : Nat → ByteArray
  | 0 => ⟨#[]⟩
  | k + 1 => match l[k]? with | some x => x.p | none => ⟨#[]⟩
theorem lastP_succ (l : List Pap) (k : Nat) (h : k < l.length) : lastP l (k + 1) = l[k].p := by
  show (match l[k]? with | some x => x.p | none => ⟨#[]⟩) = _
  rw [List.getElem?_eq_getElem h]
theorem fault_key {x : Pap} (h : x.fault = 0) : keyL x.p.data.toList = true := by
  unfold Pap.fault paperE at h
  cases hk : keyL x.p.data.toList with
  | true => rfl
  | false => rw [hk] at h; simp at h

set_option maxHeartbeats 8000000 in
theorem papersR_walk (A : Option Addr) (n cap : Nat) (l : List Pap) (w : World) (hn : l.length = n) (hn2 : n ≤ 1000) (hnc : n ≤ cap) (hS : PL w A l) (hg : gTop ≤ w.heap.size) (hT : Tabs w) (r : Int) (hr : Hid ((if 400 < n then 2 else papersE ⟨#[]⟩ l) = r)) :
    Calls Tryz.prog 37 #[.slice A n cap] w fun e w' => e = .returned (.int .i64 r) ∧ Below w.heap.size w w' := by
  have HS := Lib.hid hS
  have HL := Lib.hid hn
  have HG := Lib.hid hg
  have HT := Lib.hid hT
  clear hS hn hg hT
  obtain ⟨z1, hz1⟩ : ∃ b, decide ((n : Int) > 400) = b := ⟨_, rfl⟩
  cases z1
  case true =>
    have h4 : 400 < n := by have := of_decide_eq_true hz1; omega
    have HR : Hid (2 = r) := Lib.hid (by have := hr.out; rwa [if_pos h4] at this)
    clear hr
    go_enter Tryz.func37, Tryz.ntmps37
    go_wp2_with fail
    go_ret; exact ⟨ret_int HR.out, Below.refl _ _⟩
  have h4 : ¬ 400 < n := by have := of_decide_eq_false hz1; omega
  have HR : Hid (papersE ⟨#[]⟩ l = r) := Lib.hid (by have := hr.out; rwa [if_neg h4] at this)
  clear hr
  go_enter Tryz.func37, Tryz.ntmps37
  go_wp2_with fail
  go_loopw [11] (fun i wr => ∃ (k : Nat), k ≤ n ∧ i = .int .i64 k ∧ Hid (papersE (lastP l k) (l.drop k) = r) ∧ Hid (Below w.heap.size w wr)) (fun i _ => n - (intOf i).toNat)
  case atStart => exact ⟨0, Nat.zero_le _, rfl, HR, Lib.hid (Below.refl _ _)⟩
  case round =>
    obtain ⟨k, hk, rfl, HK, HBW⟩ := hrel
    by_cases hlt : k < n
    · obtain ⟨hok, hcells⟩ := HS.out
      obtain ⟨b, hA, hbl, hc⟩ := hcells (by have := HL.out; omega)
      have hkl : k < l.length := by have := HL.out; omega
      have HOK := Lib.hid (hok l[k] (List.getElem_mem hkl))
      obtain ⟨d0, d1, d2, d3, d4⟩ := hc k hkl
      have c0 := (HBW.out.cell (p := ⟨b, k * 5, none⟩) hbl).trans d0
      have c1 := (HBW.out.cell (p := ⟨b, k * 5 + 1, none⟩) hbl).trans d1
      have c2 := (HBW.out.cell (p := ⟨b, k * 5 + 2, none⟩) hbl).trans d2
      have c3 := (HBW.out.cell (p := ⟨b, k * 5 + 3, none⟩) hbl).trans d3
      have c4 := (HBW.out.cell (p := ⟨b, k * 5 + 4, none⟩) hbl).trans d4
      have HQ2 := HK.out
      rw [drop_step l k hkl] at HQ2
      unfold papersE at HQ2
      have HNX := Lib.hid (lastP_succ l k hkl)
      have hprev : k = 0 ∨ ∃ j, k = j + 1 ∧ j < l.length ∧ ∀ W, Below w.heap.size w W → W.cell? ⟨b, j * 5, none⟩ = some (.string (lastP l k)) := by
        cases k with
        | zero => exact Or.inl rfl
        | succ j =>
          refine Or.inr ⟨j, rfl, by omega, fun W hW => ?_⟩
          rw [lastP_succ l j (by omega)]
          exact (hW.cell (p := ⟨b, j * 5, none⟩) hbl).trans (hc j (by omega)).1
      have HPREV := Lib.hid hprev
      have HLE0 : Hid (k = 0 → l[k].fault = 0 → leB l[k].p (lastP l k) = false) := Lib.hid fun h0 h => by have hy := fault_key h; subst h0; exact leB_empty _ hy
      generalize l[k] = x at *
      generalize lastP l k = y at *
      have HQ := Lib.hid HQ2
      subst hA
      clear HQ2 hok hcells hc HK d0 d1 d2 d3 d4 hprev HS
      have hb1 : Below w.heap.size w (wr.alloc (.cells x.cells 56)) := HBW.out.alloc HBW.out.size _
      have hbk := Blk.new wr 56 x.cells
      have HPC := Lib.hid (paperR_pap x (wr.alloc (.cells x.cells 56)) (HOK.out.below hb1) (Nat.le_trans HG.out hb1.size) (HT.out.below (hb1.mono HG.out)))
      have HB1 := Lib.hid hb1
      have HBK := Lib.hid hbk
      clear hb1 hbk
      unfold Pap.cells at HPC HB1 HBK
      obtain ⟨f, hf⟩ : ∃ f, x.fault = f := ⟨_, rfl⟩
      have hq := HQ.out
      rw [hf] at hq HPC
      have hle0 := HLE0.out
      rw [hf] at hle0
      have HQ3 := Lib.hid hq
      have HLE := Lib.hid hle0
      clear HQ hq hf hle0 HLE0
      by_cases h0 : f = 0
      · subst h0
        have HQ4 : Hid ((if leB x.p y = true then 7 else papersE x.p (l.drop (k + 1))) = r) := Lib.hid (by simpa using HQ3.out)
        clear HQ3
        rcases HPREV.out with hk0 | ⟨j, hj, hjl, hjc⟩
        · have hs0 : leB x.p y = false := HLE.out hk0 rfl
          have HQ5 : Hid (papersE x.p (l.drop (k + 1)) = r) := Lib.hid (by have := HQ4.out; rw [hs0] at this; simpa using this)
          clear HQ4 hs0 HLE HPREV
          subst hk0
          go_wp2_with fail
          refine HPC.out.mono ?_; rintro e w2 ⟨rfl, hb2⟩
          have HB2 := Lib.hid (HB1.out.trans (hb2.mono HB1.out.size))
          clear hb2 c0 c1 c2 c3 c4
          go_wp2_with fail
          go_quiet (fail)
          go_wp2_with fail
          go_roundw
          case rel => exact ⟨1, by omega, rfl, Lib.hid (by rw [show lastP l 1 = x.p from HNX.out]; have := HQ5.out; simpa using this), Lib.hid (below_drewN HB2.out _)⟩
          case measure => simp [intOf]; omega
        · subst hj
          have HJC := Lib.hid hjc
          clear hjc HLE HPREV
          have g1 : (j : Int) + 1 > 0 := by omega
          have g2 : (0 : Int) ≤ (j : Int) := by omega
          have g3 : (j : Int) < (n : Int) := by omega
          have g4 : IntKind.i64.wrap ((j : Int) + 1 - 1) = (j : Int) := by rw [show (j : Int) + 1 - 1 = j by omega]; exact IntWalk.i64_in _ (by omega)
          unfold leB at HQ4
          go_wp2_with fail
          refine HPC.out.mono ?_; rintro e w2 ⟨rfl, hb2⟩
          have HB2 := Lib.hid (HB1.out.trans (hb2.mono HB1.out.size))
          have HK2 := Lib.hid (HBK.out.below hb2 HBK.out.lt)
          have e0 := HK2.out.cell 0 (.string x.p) rfl
          have e1 := HJC.out w2 HB2.out
          clear hb2 c0 c1 c2 c3 c4
          cases h7 : Op.bytesLess x.p.toList y.toList <;> cases h8 : (x.p.toList == y.toList)
          all_goals
            rw [h7, h8] at HQ4
            go_wp2_with fail
            go_quiet (fail)
            go_wp2_with fail
            first
              | (go_roundw
                 case rel => exact ⟨j + 1 + 1, by omega, by go_num, Lib.hid (by rw [HNX.out]; have := HQ4.out; simpa using this), Lib.hid (below_drewN HB2.out _)⟩
                 case measure => simp [intOf]; omega)
              | (go_ret; exact ⟨ret_int (by have := HQ4.out; simpa using this), below_drewN HB2.out _⟩)
      · have HE : Hid (f = r) := Lib.hid (by have := HQ3.out; rwa [if_neg h0] at this)
        have hne : (f != 0) = true := by rw [bne_iff_ne]; exact h0
        go_wp2_with fail
        refine HPC.out.mono ?_; rintro e w2 ⟨rfl, hb2⟩
        have HB2 := Lib.hid (HB1.out.trans (hb2.mono HB1.out.size))
        go_wp2_with fail
        go_ret; exact ⟨ret_int HE.out, HB2.out⟩
    · have HE : Hid (0 = r) := Lib.hid (by have := HK.out; rw [List.drop_of_length_le (by have := HL.out; omega)] at this; exact this)
      clear HK
      go_wp2_with fail
      go_ret; exact ⟨ret_int HE.out, HBW.out⟩
end Go.Proofs.YtjlbohbkhfhkpaaGreatDoor.Key
