/-
  THE NUMBERS OF QUESTIONS BY THEIR KEYS (index.Of), AND THE CONTRACTS OF newSheet AND CheckSheet.
-/
import Derived.Test.YthglfcfnejjpjaaGreatDoorSheetI
import Derived.Maps.Own
import Derived.Maps.OwnOps
import Derived.Maps.OwnSet
import Derived.Laws.MakeOwn
namespace Go.Proofs.YthglfcfnejjpjaaGreatDoor.Rev
open Go.ChangeShapes Go.WideShapes Go.ChangeAt Go.RowKit Stm Key
open Go.Maps (Keyed string_keyed)
set_option linter.unusedVariables false

def zQ : Qs := ⟨⟨#[]⟩, 0, 0, [], false, false⟩
/-- The map of the first k questions' numbers. -/
def numQ (l : List Qs) : Nat → DataW Unit
  | 0 => .map []
  | k + 1 => (numQ l k).put (.string (l.getD k zQ).k.data.toList) (.lit (.int .i64 k))
theorem numQ_map (l : List Qs) : ∀ k, Maps.IsMap (numQ l k)
  | 0 => Maps.isMap_empty
  | k + 1 => (numQ_map l k).put _ _
theorem key_neQ {a b : ByteArray} (h : eqS a b = false) : (Lit.string b.data.toList) ≠ .string a.data.toList := by
  intro e
  injection e with e
  have : a = b := ByteArray.ext (Array.toList_inj.1 e.symm)
  rw [this, eqS_self] at h; cases h
theorem numQ_look (l : List Qs) (s : ByteArray) (z : DataW Unit) : ∀ k, k ≤ l.length →
    Maps.has (numQ l k) (.string s.data.toList) = (lkQ (l.take k) s).isSome ∧ (numQ l k).atKey (.string s.data.toList) z = (match lkQ (l.take k) s with | some i => .lit (.int .i64 i) | none => z)
  | 0, _ => ⟨rfl, rfl⟩
  | k + 1, hk => by
    have ih := numQ_look l s z k (by omega)
    have hkl : k < l.length := by omega
    have e : l.getD k zQ = l[k] := by simp [List.getD, List.getElem?_eq_getElem hkl]
    rw [take_snoc' l k hkl, lkQ_snoc]
    simp only [numQ, e]
    cases hx : eqS l[k].k s with
    | true =>
      have hs : l[k].k = s := (eqS_iff _ _).1 hx
      rw [hs]
      refine ⟨?_, ?_⟩
      · rw [Maps.has_put_same (k := .string s.data.toList) (numQ_map l k) (show WideAt.IsKeyLit (.string _) from trivial)]; simp
      · rw [Maps.atKey_put_same (k := .string s.data.toList) (numQ_map l k) (show WideAt.IsKeyLit (.string _) from trivial)]; simp [List.length_take, Nat.min_eq_left (Nat.le_of_lt hkl)]
    | false =>
      refine ⟨?_, ?_⟩
      · rw [Maps.has_put_other (key_neQ hx), ih.1]; simp
      · rw [Maps.atKey_put_other (key_neQ hx), ih.2]; simp
theorem keyLaw : Keyed Tryz.prog 9 := string_keyed Tryz.underlying9
theorem zeroI (w : World) : (zeroValue 3).run Tryz.prog w = .ok (.int .i64 0) w := by kernel_rfl
/-- Block M is the map of all questions' numbers. -/
def NQ (w : World) (M : Nat) (l : List Qs) : Prop := w.ownsMap Tryz.prog 9 (plainElem Tryz.prog 3) M l.length (numQ l l.length)
theorem NQ.below {w w' : World} {M : Nat} {l : List Qs} (h : NQ w M l) (hb : Below w.heap.size w w') : NQ w' M l :=
  h.kept (row := none) ⟨hb.os, hb.tape, hb.output, hb.size, fun k hk _ => hb.block k hk⟩ (by simp)

theorem keyfn_any (q : Qs) (Ao : Option Addr) (n co : Nat) (w : World) : Calls Tryz.prog 42 #[.agg #[.string q.k, .int .i64 q.d, .int .i64 q.m, .slice Ao n co, .bool q.nd, .bool q.sc]] w fun e w' => e = .returned (.string q.k) ∧ Below w.heap.size w w' := by
  go_enter Tryz.func42, Tryz.ntmps42
  go_wp2
  go_ret
  exact ⟨rfl, (Below.refl _ _).alloc (Nat.le_refl _) _⟩

set_option maxRecDepth 100000 in
set_option maxHeartbeats 4000000 in
theorem ofQ_walk (B : Nat) (A : Option Addr) (n cap : Nat) (l : List Qs) (w : World) (hn : l.length = n) (hn2 : n ≤ 1000) (hS : QL B w A l) :
    Calls Tryz.prog 41 #[.slice A n cap, .func (.func 42) #[] #[]] w fun e w' => ∃ M, e = .returned (.map (some M)) ∧ w.heap.size ≤ M ∧ NQ w' M l ∧ Below w.heap.size w w' := by
  have HS := Lib.hid hS
  have HL := Lib.hid hn
  clear hS hn
  have hmm : ∀ W : World, (Instr.makeMap 73 (some (.int .i64 n))).run Tryz.prog W = .ok (.map (some W.heap.size)) (W.alloc (.map #[] 0)) := fun W => by
    simp [Instr.makeMap, run_underlying Tryz.underlying73, asInt, asIntOf, Result.andThen]
  go_enter Tryz.func41, Tryz.ntmps41
  go_wp2_with fail
  clear hmm
  go_loopw [13] (fun i wr => ∃ k : Nat, k ≤ n ∧ i = .int .i64 k ∧ Hid (wr.ownsMap Tryz.prog 9 (plainElem Tryz.prog 3) w.heap.size k (numQ l k)) ∧ Hid (Below w.heap.size w wr)) (fun i _ => n - (intOf i).toNat)
  case atStart => exact ⟨0, Nat.zero_le _, rfl, Lib.hid (World.ownsMap_made _ _ _ _), Lib.hid ((Below.refl _ _).alloc (Nat.le_refl _) _)⟩
  case round =>
    obtain ⟨k, hk, rfl, HO, HB⟩ := hrel
    by_cases hlt : k < n
    · obtain ⟨hsz, hcells⟩ := HS.out.below HB.out
      have hkl : k < l.length := by have := HL.out; omega
      obtain ⟨b, hA, hbl, _, hc⟩ := hcells (by omega)
      obtain ⟨hsz1, _⟩ := hsz l[k] (List.getElem_mem hkl)
      obtain ⟨c0, c1, c2, ⟨v, c3, hol⟩, c4, c5⟩ := hc k hkl
      obtain ⟨Ao, co, hv, _⟩ := hol
      subst hv
      have HST : Hid (numQ l (k + 1) = (numQ l k).put (.string l[k].k.data.toList) (.lit (.int .i64 k))) := Lib.hid (by simp [numQ, List.getD, List.getElem?_eq_getElem hkl])
      generalize l[k] = x at *
      have hkey : keyOf Tryz.prog 9 (.string x.k) = some (.string x.k.data.toList) := Go.WideMaps.keyOf_string_mk Tryz.underlying9 (by unfold maxLen; omega)
      have HKEY := Lib.hid hkey
      have B1 := Lib.hid (HB.out.alloc HB.out.size (.cells #[.string x.k, .int .i64 x.d, .int .i64 x.m, .slice Ao x.o.length co, .bool x.nd, .bool x.sc] 45))
      have O1 := Lib.hid (HO.out.alloc (.cells #[.string x.k, .int .i64 x.d, .int .i64 x.m, .slice Ao x.o.length co, .bool x.nd, .bool x.sc] 45))
      have a0 : (0 : Int) ≤ (k : Int) := by omega
      have a1 : (k : Int) < (n : Int) := by omega
      subst hA
      clear hsz hcells hc hkey
      go_wp2_with fail
      refine (keyfn_any x Ao _ co _).mono ?_
      rintro e w2 ⟨rfl, hb⟩
      have B2 := Lib.hid (B1.out.trans (hb.mono B1.out.size))
      have O2 := Lib.hid (O1.out.kept (row := none) ⟨hb.os, hb.tape, hb.output, hb.size, fun k hk _ => hb.block k hk⟩ (by simp))
      clear hb B1 O1 c0 c1 c2 c3 c4 c5
      go_wp2_with (at_mapUpdate; (refine wpList_mapUpdate_own _ rfl _ _ _ 73 rfl 9 3 keyLaw Tryz.underlying73 _ w.heap.size k _ rfl O2.out (by unfold maxLen; omega) _ _ _ rfl rfl HKEY.out _ [] (plainElem_int Tryz.underlying3 (WalkArith.wf_i64 (by omega))) ?_); intro w3 hown3 hgrow3; (have O3 := Lib.hid (HST.out.symm ▸ hown3)); (have B3 := Lib.hid (B2.out.grown hgrow3 B2.out.size (fun j hj => by cases hj; exact Nat.le_refl _))); clear hown3 hgrow3)
      go_roundw
      case rel => exact ⟨k + 1, by omega, by go_num, O3, B3⟩
      case measure => simp [intOf]; omega
    · have hkn : k = n := by omega
      subst hkn
      go_wp2_with fail
      go_ret
      exact ⟨w.heap.size, rfl, Nat.le_refl _, by unfold NQ; rw [HL.out]; exact HO.out, HB.out⟩

/-- A sheet as newSheet lays it. -/
def SM (w : World) (F : Nat) (A : Option Addr) (n cap : Nat) (l : List Qs) : Prop := ∃ M : Nat, Blk w F 77 #[.slice A n cap, .map (some M)] ∧ NQ w M l
theorem SM.below {w w' : World} {F : Nat} {A : Option Addr} {n cap : Nat} {l : List Qs} (h : SM w F A n cap l) (hb : Below w.heap.size w w') : SM w' F A n cap l := by
  obtain ⟨M, h1, h2⟩ := h
  exact ⟨M, h1.below hb h1.lt, h2.below hb⟩
def SheetRet (B : Nat) (A : Option Addr) (n cap : Nat) (l : List Qs) (r : Int) (w : World) (e : Ending) (w' : World) : Prop := ∃ F : Nat, (r ≠ 0 ∧ e = .returned (.tuple #[.pointer none, .int .i64 r]) ∨ r = 0 ∧ e = .returned (.tuple #[.pointer (some ⟨F, 0, none⟩), .int .i64 0]) ∧ w.heap.size ≤ F ∧ SM w' F A n cap l) ∧ Below w.heap.size w w'

set_option maxRecDepth 100000 in
set_option maxHeartbeats 8000000 in
theorem newsheet_walk (B : Nat) (A : Option Addr) (n cap : Nat) (l : List Qs) (w : World) (hn : l.length = n) (hn2 : n ≤ 1000) (hnc : n ≤ cap) (hS : QL B w A l) (r : Int) (hr : Hid (sheetE l = r)) :
    Calls Tryz.prog 21 #[.slice A n cap] w (SheetRet B A n cap l r w) := by
  have HS := Lib.hid hS
  have HL := Lib.hid hn
  clear hS hn
  by_cases h0 : n = 0
  · have HE : Hid ((3 : Int) = r) := Lib.hid (by have := hr.out; unfold sheetE at this; rwa [if_pos (by rw [HL.out]; exact h0)] at this)
    have hd : ((n : Int) == 0) = true := by simp; exact h0
    clear hr h0
    go_enter Tryz.func21, Tryz.ntmps21
    go_wp2_with fail
    go_ret2
    exact ⟨0, Or.inl ⟨by rw [← HE.out]; decide, by rw [HE.out]; try rfl⟩, Below.refl _ _⟩
  by_cases h30 : 30 < n
  · have HE : Hid ((2 : Int) = r) := Lib.hid (by have := hr.out; unfold sheetE at this; rwa [if_neg (by rw [HL.out]; exact h0), if_pos (by rw [HL.out]; exact h30)] at this)
    have hd : ((n : Int) == 0) = false := by rw [beq_eq_false_iff_ne]; omega
    have hd2 : decide ((n : Int) > 30) = true := decide_eq_true (by omega)
    clear hr h0
    go_enter Tryz.func21, Tryz.ntmps21
    go_wp2_with fail
    go_ret2
    exact ⟨0, Or.inl ⟨by rw [← HE.out]; decide, by rw [HE.out]; try rfl⟩, Below.refl _ _⟩
  have HR : Hid (sheetsE [] l = r) := Lib.hid (by have := hr.out; unfold sheetE at this; rwa [if_neg (by rw [HL.out]; exact h0), if_neg (by rw [HL.out]; exact h30)] at this)
  have hd : ((n : Int) == 0) = false := by rw [beq_eq_false_iff_ne]; omega
  have hd2 : decide ((n : Int) > 30) = false := decide_eq_false (by omega)
  clear hr h0
  go_enter Tryz.func21, Tryz.ntmps21
  go_wp2_with fail
  go_loopw [15] (fun i wr => ∃ k : Nat, k ≤ n ∧ i = .int .i64 k ∧ Hid (sheetsE (l.take k) (l.drop k) = r) ∧ Hid (Below w.heap.size w wr)) (fun i _ => n - (intOf i).toNat)
  case atStart => exact ⟨0, Nat.zero_le _, rfl, HR, Lib.hid (Below.refl _ _)⟩
  case round =>
    obtain ⟨k, hk, rfl, HK, HB⟩ := hrel
    rename World => w1
    have hz1 := HB.out.size
    by_cases hlt : k < n
    · have hkl : k < l.length := by have := HL.out; omega
      obtain ⟨hsz, hcells⟩ := HS.out.below HB.out
      obtain ⟨b, hA, hbl, _, hc⟩ := hcells (by omega)
      have hqo := hsz l[k] (List.getElem_mem hkl)
      obtain ⟨c0, c1, c2, ⟨v, c3, hol⟩, c4, c5⟩ := hc k hkl
      have HK2 := HK.out
      rw [drop_cons' l k hkl] at HK2
      unfold sheetsE at HK2
      rw [← take_snoc' l k hkl] at HK2
      have QT := Lib.hid (fun (W : World) (hW : Below w.heap.size w W) => ql_take (HS.out.below hW) k)
      have HLT := Lib.hid (show (l.take k).length = k by rw [List.length_take]; omega)
      generalize l[k] = x at *
      obtain ⟨Ao, co, hv, hco, hsl, _⟩ := hol
      subst hv
      obtain ⟨qk, qd, qm, qo, nd, sc⟩ := x
      simp only at c0 c1 c2 c3 c4 c5 hco hsl
      have hq0 : qk.size ≤ 1000 := hqo.1
      have a0 : (0 : Int) ≤ (k : Int) := by omega
      have a1 : (k : Int) < (n : Int) := by omega
      have a2 : (k : Int) ≤ (cap : Int) := by omega
      subst hA
      have KQ := Lib.hid (Blk.new w1 45 #[.string qk, .int .i64 qd, .int .i64 qm, .slice Ao qo.length co, .bool nd, .bool sc])
      have B1 := Lib.hid (HB.out.alloc hz1 (.cells #[.string qk, .int .i64 qd, .int .i64 qm, .slice Ao qo.length co, .bool nd, .bool sc] 45))
      have SL1 := Lib.hid (hsl.below ((Below.refl w1.heap.size w1).alloc (Nat.le_refl _) (.cells #[.string qk, .int .i64 qd, .int .i64 qm, .slice Ao qo.length co, .bool nd, .bool sc] 45)))
      have HQO := Lib.hid hqo
      unfold qE at HK2
      obtain ⟨kb, hkb⟩ : ∃ b, keyL qk.data.toList = b := ⟨_, rfl⟩
      obtain ⟨hb2, hhb⟩ : ∃ b, hasK (l.take k) qk = b := ⟨_, rfl⟩
      obtain ⟨kr, hkr⟩ : ∃ b, kindE ⟨qk, qd, qm, qo, nd, sc⟩ = b := ⟨_, rfl⟩
      rw [hkb, hhb, hkr] at HK2
      have HKB := Lib.hid hkb
      have HHB := Lib.hid hhb
      have HKR := Lib.hid hkr
      have HKK := Lib.hid HK2
      clear HK2 hsz hcells hc HK hkb hhb hkr hsl hqo
      cases kb
      · have HE : Hid ((5 : Int) = r) := Lib.hid (by have := HKK.out; simpa using this)
        go_wp2_with fail
        refine (key_any qk _ (by omega)).mono ?_; rintro e w2 ⟨rfl, rfl⟩; rw [HKB.out]
        go_wp2_with fail
        go_ret2
        exact ⟨0, Or.inl ⟨by rw [← HE.out]; decide, by rw [HE.out]; try rfl⟩, B1.out⟩
      have CQ := Lib.hid (containsq_walk w1.heap.size B qk (some ⟨b, 0, none⟩) k cap (l.take k) _ (KQ.out.cell 0 _ rfl) KQ.out.lt (QT.out _ B1.out) HLT.out (by omega) hb2 HHB)
      cases hb2
      · go_wp2_with fail
        refine (key_any qk _ (by omega)).mono ?_; rintro e w2 ⟨rfl, rfl⟩; rw [HKB.out]
        go_wp2_with fail
        refine (CQ.out).mono ?_; rintro e w3 ⟨rfl, hb3⟩
        have K3 := Lib.hid (KQ.out.below hb3 (by simp))
        have B3 := Lib.hid (B1.out.trans (hb3.mono B1.out.size))
        have SL3 := Lib.hid (SL1.out.below hb3)
        have e0 := K3.out.cell 0 _ rfl
        have e1 := K3.out.cell 1 _ rfl
        have e2 := K3.out.cell 2 _ rfl
        have e3 := K3.out.cell 3 _ rfl
        have e4 := K3.out.cell 4 _ rfl
        have e5 := K3.out.cell 5 _ rfl
        have KW := Lib.hid (kind_walk ⟨qk, qd, qm, qo, nd, sc⟩ Ao co hco w3 HQO.out SL3.out kr HKR)
        clear hb3 CQ SL1 KQ c0 c1 c2 c3 c4 c5
        go_wp2_with fail
        refine (KW.out).mono ?_; rintro e w4 ⟨rfl, hb4⟩
        have B4 := Lib.hid (B3.out.trans (hb4.mono B3.out.size))
        clear hb4 KW
        by_cases hk0 : kr = 0
        · subst hk0
          have HE : Hid (sheetsE (l.take (k + 1)) (l.drop (k + 1)) = r) := Lib.hid (by have := HKK.out; simpa using this)
          go_wp2_with fail
          go_roundw
          case rel => exact ⟨k + 1, by omega, by go_num, HE, B4⟩
          case measure => simp [intOf]; omega
        · have hk1 : (kr != 0) = true := by rw [bne_iff_ne]; exact hk0
          have HE : Hid (kr = r) := Lib.hid (by have := HKK.out; simpa [hk0] using this)
          have HK0 := Lib.hid hk0
          clear hk0
          go_wp2_with fail
          go_ret2
          exact ⟨0, Or.inl ⟨by rw [← HE.out]; exact HK0.out, by rw [HE.out]; try rfl⟩, B4.out⟩
      · have HE : Hid ((6 : Int) = r) := Lib.hid (by have := HKK.out; simpa using this)
        go_wp2_with fail
        refine (key_any qk _ (by omega)).mono ?_; rintro e w2 ⟨rfl, rfl⟩; rw [HKB.out]
        go_wp2_with fail
        refine (CQ.out).mono ?_; rintro e w3 ⟨rfl, hb3⟩
        have B3 := Lib.hid (B1.out.trans (hb3.mono B1.out.size))
        clear hb3 CQ
        go_wp2_with fail
        go_ret2
        exact ⟨0, Or.inl ⟨by rw [← HE.out]; decide, by rw [HE.out]; try rfl⟩, B3.out⟩
    · have HE : Hid (0 = r) := Lib.hid (by have := HK.out; rw [List.drop_of_length_le (by have := HL.out; omega)] at this; exact this)
      clear HK
      go_wp2_with fail
      refine (ofQ_walk B A n cap l w1 HL.out hn2 (HS.out.below HB.out)).mono ?_; rintro e w2 ⟨M, rfl, hM, hnq, hb2⟩
      have B2 := Lib.hid (HB.out.trans (hb2.mono HB.out.size))
      have NQ2 := Lib.hid hnq
      have hz2 := B2.out.size
      clear hb2 hnq
      go_wp2_with fail
      go_ret2
      exact ⟨w2.heap.size, Or.inr ⟨HE.out.symm, rfl, hz2, M, Blk.new w2 _ _, NQ2.out.below ((Below.refl _ _).alloc (Nat.le_refl _) _)⟩, B2.out.alloc hz2 _⟩

theorem checksheet_walk (B : Nat) (A : Option Addr) (n cap : Nat) (l : List Qs) (w : World) (hn : l.length = n) (hn2 : n ≤ 1000) (hnc : n ≤ cap) (hS : QL B w A l) (r : Int) (hr : Hid (sheetE l = r)) :
    Calls Tryz.prog 9 #[.slice A n cap] w fun e w' => e = .returned (.int .i64 r) ∧ Below w.heap.size w w' := by
  have H := Lib.hid (newsheet_walk B A n cap l w hn hn2 hnc hS r hr)
  clear hn hS hr
  go_enter Tryz.func9, Tryz.ntmps9
  go_wp2_with fail
  refine (H.out).mono ?_; rintro e w1 ⟨F, hor, hb⟩
  rcases hor with ⟨_, rfl⟩ | ⟨rfl, rfl, _⟩
  all_goals
    go_wp2_with fail
    go_ret; exact ⟨rfl, hb⟩
end Go.Proofs.YthglfcfnejjpjaaGreatDoor.Rev
