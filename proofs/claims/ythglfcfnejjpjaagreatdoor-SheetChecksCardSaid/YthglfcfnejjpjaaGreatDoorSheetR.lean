/-
  THE CONTRACTS OF keys, missing, Missing AND Differ.
-/
import Derived.Test.YthglfcfnejjpjaaGreatDoorSheetK
namespace Go.Proofs.YthglfcfnejjpjaaGreatDoor.Rev
open Go.ChangeShapes Go.WideShapes Go.ChangeAt Go.RowKit Stm Key
set_option linter.unusedVariables false

theorem infoS : (Tryz.prog.info? 9).map (fun i => (i.zero, i.size, i.bytes)) = some (some (.string ⟨#[]⟩), 1, 16) := by kernel_rfl
/-- What a maker of lists of strings hands back. -/
def StrRet (res : List ByteArray) (w : World) (e : Ending) (w' : World) : Prop := ∃ (A : Option Addr) (m c : Nat), e = .returned (.slice A m c) ∧ m = res.length ∧ SL w' A res ∧ Below w.heap.size w w'
theorem row_sl {w : World} {base n cap : Nat} {A : Option Addr} {l : List ByteArray} (h : w.ownsRow base 9 1 (.slice A n cap) n (l.map Value.string)) (hL : l.length = n) (hok : ∀ x ∈ l, x.size ≤ 1000) : SL w A l := by
  refine ⟨hok, fun h0 => ?_⟩
  rcases h.2 with ⟨e, e0⟩ | ⟨g, cap', cur, e, hb, hh, _⟩
  · omega
  · injection e with e1
    subst e1
    refine ⟨g, rfl, lt_of_block hh, fun i hi => ?_⟩
    have hc := h.cells (g := g) rfl i (.string l[i]) (by simp [List.getElem?_eq_getElem hi])
    rw [row_add'] at hc
    exact hc
theorem fil_next (qs : List Qs) (p : Qs → Bool) (k : Nat) (h : k < qs.length) : ((qs.take (k + 1)).filter p).map (·.k) = ((qs.take k).filter p).map (·.k) ++ (if p qs[k] then [qs[k].k] else []) := by
  rw [take_snoc' qs k h, List.filter_append, List.map_append]
  cases hp : p qs[k] <;> simp [hp]
theorem own_below {w w' : World} {base E S n : Nat} {v : Value} {xs : List Value} (h : w.ownsRow base E S v n xs) (hb : Below w.heap.size w w') : w'.ownsRow base E S v n xs :=
  h.kept (row := none) ⟨hb.os, hb.tape, hb.output, hb.size, fun k hk _ => hb.block k hk⟩ (by
    rcases hh : v.ownBlock with _ | g
    · exact Or.inl rfl
    · exact Or.inr (by simp))

set_option maxRecDepth 100000 in
set_option maxHeartbeats 8000000 in
theorem keys44 (C : Nat) (l : List An) (F B : Nat) (A : Option Addr) (n cap : Nat) (qs : List Qs) (w : World) (hE : sheetE qs = 0) (hn : qs.length = n) (hq : QL B w A qs) (hF : SM w F A n cap qs)
    (hfn : ∀ W, Below w.heap.size w W → ∀ (q : Qs), keyL q.k.data.toList = true → ∀ (Ao : Option Addr) (m co : Nat), Calls Tryz.prog 44 #[.agg #[.string q.k, .int .i64 q.d, .int .i64 q.m, .slice Ao m co, .bool q.nd, .bool q.sc], .pointer (some ⟨C, 0, none⟩)] W fun e w' => e = .returned (.bool (q.nd && (toQ l q.k).isNone)) ∧ Below W.heap.size W w') :
    Calls Tryz.prog 24 #[.pointer (some ⟨F, 0, none⟩), .func (.func 44) #[] #[.pointer (some ⟨C, 0, none⟩)]] w (StrRet ((qs.filter fun q => q.nd && (toQ l q.k).isNone).map (·.k)) w) := by
  have HE := Lib.hid hE
  have HN := Lib.hid hn
  have h30 := (sheetE_ok hE).2.2
  have HFN := Lib.hid hfn
  have HW : Hid (∀ W, Below w.heap.size w W → QL B W A qs) := Lib.hid fun W hW => hq.below hW
  obtain ⟨M, hFB, _⟩ := hF
  have s0 := hFB.cell 0 _ rfl
  have hFl := hFB.lt
  have hn30 : n ≤ 30 := by omega
  obtain ⟨i0, hi0, hz0, hz1, hz2⟩ := info_parts infoS
  have HI := Lib.hid hi0
  have Z0 := Lib.hid hz0
  have Z1 := Lib.hid hz1
  have Z2 := Lib.hid hz2
  clear hE hn hfn hq hFB h30 hi0 hz0 hz1 hz2
  go_enter Tryz.func24, Tryz.ntmps24
  go_wp2_with fail
  clear s0
  go_loopw [5, 13] (fun o i wr => ∃ (k : Nat) (Ax : Option Addr) (m cx : Nat), k ≤ n ∧ i = .int .i64 k ∧ o = .slice Ax m cx ∧ m ≤ k ∧ Hid (m = (((qs.take k).filter fun q => q.nd && (toQ l q.k).isNone).map (·.k)).length) ∧ Hid (wr.ownsRow w.heap.size 9 1 (.slice Ax m cx) m ((((qs.take k).filter fun q => q.nd && (toQ l q.k).isNone).map (·.k)).map Value.string)) ∧ Hid (Below w.heap.size w wr)) (fun _ i _ => n - (intOf i).toNat)
  case atStart => exact ⟨0, none, 0, 0, Nat.zero_le _, rfl, rfl, Nat.zero_le _, Lib.hid rfl, Lib.hid (World.ownsRow_nil _ _ _ _), Lib.hid (Below.refl _ _)⟩
  case round =>
    obtain ⟨k, Ax, m, cx, hk, rfl, rfl, hmk, HM, HO, HB⟩ := hrel
    rename World => w1
    have hz1 := HB.out.size
    by_cases hlt : k < n
    · have hkl : k < qs.length := by rw [HN.out]; exact hlt
      obtain ⟨hok, hcells⟩ := HW.out _ HB.out
      obtain ⟨b, hA, hbl, _, hc⟩ := hcells (by omega)
      obtain ⟨c0, c1, c2, ⟨v, c3, hol⟩, c4, c5⟩ := hc k hkl
      obtain ⟨Ao, co, hv, _⟩ := hol
      have hkey := (sheetsE_ok qs [] (sheetE_ok HE.out).1 k hkl).1
      have HNX := Lib.hid (fil_next qs (fun q => q.nd && (toQ l q.k).isNone) k hkl)
      subst hv
      simp only at HNX
      generalize qs[k] = q at *
      have HCL := Lib.hid (fun (W : World) (hW : Below w.heap.size w W) => HFN.out W hW q hkey Ao q.o.length co)
      obtain ⟨pb, hpb⟩ : ∃ pb, (q.nd && (toQ l q.k).isNone) = pb := ⟨_, rfl⟩
      rw [hpb] at HNX HCL
      have a0 : (0 : Int) ≤ (k : Int) := by omega
      have a1 : (k : Int) < (n : Int) := by omega
      subst hA
      have KQ := Lib.hid (Blk.new w1 45 #[.string q.k, .int .i64 q.d, .int .i64 q.m, .slice Ao q.o.length co, .bool q.nd, .bool q.sc])
      have B1 := Lib.hid (HB.out.alloc hz1 (.cells #[.string q.k, .int .i64 q.d, .int .i64 q.m, .slice Ao q.o.length co, .bool q.nd, .bool q.sc] 45))
      have O1 := Lib.hid (HO.out.alloc (.cells #[.string q.k, .int .i64 q.d, .int .i64 q.m, .slice Ao q.o.length co, .bool q.nd, .bool q.sc] 45))
      clear hok hcells hc hpb hkey HO
      go_wp2_with fail
      refine (HCL.out _ B1.out).mono ?_; rintro e w2 ⟨rfl, hb⟩
      have B2 := Lib.hid (B1.out.trans (hb.mono B1.out.size))
      have O2 := Lib.hid (own_below O1.out hb)
      have K2 := Lib.hid (KQ.out.below hb (by simp))
      have e0 := K2.out.cell 0 _ rfl
      have hz2 := B2.out.size
      clear hb O1 B1 KQ c0 c1 c2 c3 c4 c5
      cases pb
      · have HM2 : Hid (m = (((qs.take (k + 1)).filter fun q => q.nd && (toQ l q.k).isNone).map (·.k)).length) := Lib.hid (by rw [HNX.out]; simpa using HM.out)
        have O3 : Hid (w2.ownsRow w.heap.size 9 1 (.slice Ax m cx) m ((((qs.take (k + 1)).filter fun q => q.nd && (toQ l q.k).isNone).map (·.k)).map Value.string)) := Lib.hid (by rw [HNX.out]; simpa using O2.out)
        clear O2 HNX
        go_wp2_with fail
        go_roundw
        case rel => exact ⟨k + 1, Ax, m, cx, by omega, by go_num, rfl, by omega, HM2, O3, B2⟩
        case measure => simp [intOf]; omega
      · have HM2 : Hid (m + 1 = (((qs.take (k + 1)).filter fun q => q.nd && (toQ l q.k).isNone).map (·.k)).length) := Lib.hid (by rw [HNX.out]; have := HM.out; simp at this ⊢; omega)
        have HAP : Hid ((((qs.take (k + 1)).filter fun q => q.nd && (toQ l q.k).isNone).map (·.k)).map Value.string = ((((qs.take k).filter fun q => q.nd && (toQ l q.k).isNone).map (·.k)).map Value.string) ++ [.string q.k]) := Lib.hid (by rw [HNX.out]; simp)
        clear HNX
        go_wp2_with (at_builtin; (refine wpList_append_lies _ rfl _ _ _ rfl w.heap.size 9 i0 _ 1 16 Tryz.underlying30 HI.out Z0.out Z1.out Z2.out rfl (by omega) (.slice Ax m cx) m _ rfl (O2.out.alloc _) ⟨w2.heap.size, 0, none⟩ 1 1 [.string q.k] rfl rfl (World.news_of_block (cs := #[.string q.k]) (t := 9) (fr := (0, 0)) (heap_alloc_new w2 _)) (by simp [Value.oneCell']) (by omega) (by unfold maxLen; omega) (by omega) (by simp; omega) (w2.heap.size + 1) (by simp) ?_); intro gg cap' w7 hown hgrow hat hgl; (have O7 := Lib.hid (HAP.out.symm ▸ hown)); (have B7 := Lib.hid ((B2.out.alloc hz2 (.cells #[.string q.k] 9)).trans (grownB (C := w.heap.size) hgrow (fun r e => (O2.out.lt r e).1) (by simp; omega)))); clear hown hgrow hat hgl)
        go_roundw
        case rel => exact ⟨k + 1, some ⟨gg, 0, none⟩, m + 1, cap', by omega, by go_num, rfl, by omega, HM2, O7, B7⟩
        case measure => simp [intOf]; omega
    · have hkn : k = n := by omega
      subst hkn
      have hok := (HW.out _ HB.out).1
      have hT : qs.take k = qs := List.take_of_length_le (by rw [HN.out]; exact Nat.le_refl _)
      rw [hT] at HM HO
      have HS := Lib.hid (row_sl HO.out HM.out.symm (fun x hx => by
        obtain ⟨q, hq, rfl⟩ := List.mem_map.1 hx
        exact (hok q (List.mem_filter.1 hq).1).1))
      clear hT hok HO
      go_wp2_with fail
      go_ret
      exact ⟨Ax, m, cx, rfl, HM.out, HS.out, HB.out⟩

set_option maxRecDepth 100000 in
set_option maxHeartbeats 8000000 in
theorem keys25 (C1 C2 : Nat) (l1 l2 : List An) (F B : Nat) (A : Option Addr) (n cap : Nat) (qs : List Qs) (w : World) (hE : sheetE qs = 0) (hn : qs.length = n) (hq : QL B w A qs) (hF : SM w F A n cap qs)
    (hfn : ∀ W, Below w.heap.size w W → ∀ (q : Qs), keyL q.k.data.toList = true → ∀ (Ao : Option Addr) (m co : Nat), Calls Tryz.prog 25 #[.agg #[.string q.k, .int .i64 q.d, .int .i64 q.m, .slice Ao m co, .bool q.nd, .bool q.sc], .pointer (some ⟨C1, 0, none⟩), .pointer (some ⟨C2, 0, none⟩)] W fun e w' => e = .returned (.bool (differs l1 l2 q.k)) ∧ Below W.heap.size W w') :
    Calls Tryz.prog 24 #[.pointer (some ⟨F, 0, none⟩), .func (.func 25) #[] #[.pointer (some ⟨C1, 0, none⟩), .pointer (some ⟨C2, 0, none⟩)]] w (StrRet ((qs.filter fun q => differs l1 l2 q.k).map (·.k)) w) := by
  have HE := Lib.hid hE
  have HN := Lib.hid hn
  have h30 := (sheetE_ok hE).2.2
  have HFN := Lib.hid hfn
  have HW : Hid (∀ W, Below w.heap.size w W → QL B W A qs) := Lib.hid fun W hW => hq.below hW
  obtain ⟨M, hFB, _⟩ := hF
  have s0 := hFB.cell 0 _ rfl
  have hFl := hFB.lt
  have hn30 : n ≤ 30 := by omega
  obtain ⟨i0, hi0, hz0, hz1, hz2⟩ := info_parts infoS
  have HI := Lib.hid hi0
  have Z0 := Lib.hid hz0
  have Z1 := Lib.hid hz1
  have Z2 := Lib.hid hz2
  clear hE hn hfn hq hFB h30 hi0 hz0 hz1 hz2
  go_enter Tryz.func24, Tryz.ntmps24
  go_wp2_with fail
  clear s0
  go_loopw [5, 13] (fun o i wr => ∃ (k : Nat) (Ax : Option Addr) (m cx : Nat), k ≤ n ∧ i = .int .i64 k ∧ o = .slice Ax m cx ∧ m ≤ k ∧ Hid (m = (((qs.take k).filter fun q => differs l1 l2 q.k).map (·.k)).length) ∧ Hid (wr.ownsRow w.heap.size 9 1 (.slice Ax m cx) m ((((qs.take k).filter fun q => differs l1 l2 q.k).map (·.k)).map Value.string)) ∧ Hid (Below w.heap.size w wr)) (fun _ i _ => n - (intOf i).toNat)
  case atStart => exact ⟨0, none, 0, 0, Nat.zero_le _, rfl, rfl, Nat.zero_le _, Lib.hid rfl, Lib.hid (World.ownsRow_nil _ _ _ _), Lib.hid (Below.refl _ _)⟩
  case round =>
    obtain ⟨k, Ax, m, cx, hk, rfl, rfl, hmk, HM, HO, HB⟩ := hrel
    rename World => w1
    have hz1 := HB.out.size
    by_cases hlt : k < n
    · have hkl : k < qs.length := by rw [HN.out]; exact hlt
      obtain ⟨hok, hcells⟩ := HW.out _ HB.out
      obtain ⟨b, hA, hbl, _, hc⟩ := hcells (by omega)
      obtain ⟨c0, c1, c2, ⟨v, c3, hol⟩, c4, c5⟩ := hc k hkl
      obtain ⟨Ao, co, hv, _⟩ := hol
      have hkey := (sheetsE_ok qs [] (sheetE_ok HE.out).1 k hkl).1
      have HNX := Lib.hid (fil_next qs (fun q => differs l1 l2 q.k) k hkl)
      subst hv
      simp only at HNX
      generalize qs[k] = q at *
      have HCL := Lib.hid (fun (W : World) (hW : Below w.heap.size w W) => HFN.out W hW q hkey Ao q.o.length co)
      obtain ⟨pb, hpb⟩ : ∃ pb, (differs l1 l2 q.k) = pb := ⟨_, rfl⟩
      rw [hpb] at HNX HCL
      have a0 : (0 : Int) ≤ (k : Int) := by omega
      have a1 : (k : Int) < (n : Int) := by omega
      subst hA
      have KQ := Lib.hid (Blk.new w1 45 #[.string q.k, .int .i64 q.d, .int .i64 q.m, .slice Ao q.o.length co, .bool q.nd, .bool q.sc])
      have B1 := Lib.hid (HB.out.alloc hz1 (.cells #[.string q.k, .int .i64 q.d, .int .i64 q.m, .slice Ao q.o.length co, .bool q.nd, .bool q.sc] 45))
      have O1 := Lib.hid (HO.out.alloc (.cells #[.string q.k, .int .i64 q.d, .int .i64 q.m, .slice Ao q.o.length co, .bool q.nd, .bool q.sc] 45))
      clear hok hcells hc hpb hkey HO
      go_wp2_with fail
      refine (HCL.out _ B1.out).mono ?_; rintro e w2 ⟨rfl, hb⟩
      have B2 := Lib.hid (B1.out.trans (hb.mono B1.out.size))
      have O2 := Lib.hid (own_below O1.out hb)
      have K2 := Lib.hid (KQ.out.below hb (by simp))
      have e0 := K2.out.cell 0 _ rfl
      have hz2 := B2.out.size
      clear hb O1 B1 KQ c0 c1 c2 c3 c4 c5
      cases pb
      · have HM2 : Hid (m = (((qs.take (k + 1)).filter fun q => differs l1 l2 q.k).map (·.k)).length) := Lib.hid (by rw [HNX.out]; simpa using HM.out)
        have O3 : Hid (w2.ownsRow w.heap.size 9 1 (.slice Ax m cx) m ((((qs.take (k + 1)).filter fun q => differs l1 l2 q.k).map (·.k)).map Value.string)) := Lib.hid (by rw [HNX.out]; simpa using O2.out)
        clear O2 HNX
        go_wp2_with fail
        go_roundw
        case rel => exact ⟨k + 1, Ax, m, cx, by omega, by go_num, rfl, by omega, HM2, O3, B2⟩
        case measure => simp [intOf]; omega
      · have HM2 : Hid (m + 1 = (((qs.take (k + 1)).filter fun q => differs l1 l2 q.k).map (·.k)).length) := Lib.hid (by rw [HNX.out]; have := HM.out; simp at this ⊢; omega)
        have HAP : Hid ((((qs.take (k + 1)).filter fun q => differs l1 l2 q.k).map (·.k)).map Value.string = ((((qs.take k).filter fun q => differs l1 l2 q.k).map (·.k)).map Value.string) ++ [.string q.k]) := Lib.hid (by rw [HNX.out]; simp)
        clear HNX
        go_wp2_with (at_builtin; (refine wpList_append_lies _ rfl _ _ _ rfl w.heap.size 9 i0 _ 1 16 Tryz.underlying30 HI.out Z0.out Z1.out Z2.out rfl (by omega) (.slice Ax m cx) m _ rfl (O2.out.alloc _) ⟨w2.heap.size, 0, none⟩ 1 1 [.string q.k] rfl rfl (World.news_of_block (cs := #[.string q.k]) (t := 9) (fr := (0, 0)) (heap_alloc_new w2 _)) (by simp [Value.oneCell']) (by omega) (by unfold maxLen; omega) (by omega) (by simp; omega) (w2.heap.size + 1) (by simp) ?_); intro gg cap' w7 hown hgrow hat hgl; (have O7 := Lib.hid (HAP.out.symm ▸ hown)); (have B7 := Lib.hid ((B2.out.alloc hz2 (.cells #[.string q.k] 9)).trans (grownB (C := w.heap.size) hgrow (fun r e => (O2.out.lt r e).1) (by simp; omega)))); clear hown hgrow hat hgl)
        go_roundw
        case rel => exact ⟨k + 1, some ⟨gg, 0, none⟩, m + 1, cap', by omega, by go_num, rfl, by omega, HM2, O7, B7⟩
        case measure => simp [intOf]; omega
    · have hkn : k = n := by omega
      subst hkn
      have hok := (HW.out _ HB.out).1
      have hT : qs.take k = qs := List.take_of_length_le (by rw [HN.out]; exact Nat.le_refl _)
      rw [hT] at HM HO
      have HS := Lib.hid (row_sl HO.out HM.out.symm (fun x hx => by
        obtain ⟨q, hq, rfl⟩ := List.mem_map.1 hx
        exact (hok q (List.mem_filter.1 hq).1).1))
      clear hT hok HO
      go_wp2_with fail
      go_ret
      exact ⟨Ax, m, cx, rfl, HM.out, HS.out, HB.out⟩
end Go.Proofs.YthglfcfnejjpjaaGreatDoor.Rev
