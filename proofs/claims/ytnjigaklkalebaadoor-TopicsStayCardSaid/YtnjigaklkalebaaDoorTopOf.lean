/-
  THE NUMBERS OF TOPICS BY THEIR KEYS: a map that the call makes; the contracts of index.Of, index.Two and index.Parents.
-/
import Derived.Test.YtnjigaklkalebaaDoorTopPath
import Derived.Maps.Own
import Derived.Maps.OwnOps
import Derived.Maps.OwnSet
import Derived.Laws.MakeOwn
namespace Go.Proofs.YtnjigaklkalebaaDoor.For
open Go.ChangeShapes Go.WideShapes Go.ChangeAt Go.RowKit Stm Key
open Go.Maps (Keyed string_keyed)
set_option linter.unusedVariables false

/-- The map of the first k topics' numbers. -/
def numD (l : List Tp) : Nat → DataW Unit
  | 0 => .map []
  | k + 1 => (numD l k).put (.string (l.getD k ⟨⟨#[]⟩, ⟨#[]⟩⟩).k.data.toList) (.lit (.int .i64 k))
theorem numD_map (l : List Tp) : ∀ k, Maps.IsMap (numD l k)
  | 0 => Maps.isMap_empty
  | k + 1 => (numD_map l k).put _ _
theorem key_ne {a b : ByteArray} (h : eqB a b = false) : (Lit.string b.data.toList) ≠ .string a.data.toList := by
  intro e
  injection e with e
  have : a = b := ByteArray.ext (Array.toList_inj.1 e.symm)
  rw [this, eqB_self] at h; cases h
theorem take_next {α : Type} (l : List α) (k : Nat) (h : k < l.length) : l.take (k + 1) = l.take k ++ [l[k]] := by
  rw [List.take_succ_eq_append_getElem h]
theorem numD_look (l : List Tp) (s : ByteArray) (z : DataW Unit) : ∀ k, k ≤ l.length →
    Maps.has (numD l k) (.string s.data.toList) = (lk (l.take k) s).isSome ∧ (numD l k).atKey (.string s.data.toList) z = (match lk (l.take k) s with | some i => .lit (.int .i64 i) | none => z)
  | 0, _ => ⟨rfl, rfl⟩
  | k + 1, hk => by
    have ih := numD_look l s z k (by omega)
    have hkl : k < l.length := by omega
    have e : l.getD k ⟨⟨#[]⟩, ⟨#[]⟩⟩ = l[k] := by simp [List.getD, List.getElem?_eq_getElem hkl]
    rw [take_next l k hkl, lk_snoc]
    simp only [numD, e]
    cases hx : eqB l[k].k s with
    | true =>
      have hs : l[k].k = s := (eqB_iff _ _).1 hx
      rw [hs]
      refine ⟨?_, ?_⟩
      · rw [Maps.has_put_same (k := .string s.data.toList) (numD_map l k) (show WideAt.IsKeyLit (.string _) from trivial)]; simp
      · rw [Maps.atKey_put_same (k := .string s.data.toList) (numD_map l k) (show WideAt.IsKeyLit (.string _) from trivial)]; simp [List.length_take, Nat.min_eq_left (Nat.le_of_lt hkl)]
    | false =>
      refine ⟨?_, ?_⟩
      · rw [Maps.has_put_other (key_ne hx), ih.1]; simp
      · rw [Maps.atKey_put_other (key_ne hx), ih.2]; simp
theorem keyLaw : Keyed Tryd.prog 9 := string_keyed Tryd.underlying9
theorem zeroI (w : World) : (zeroValue 3).run Tryd.prog w = .ok (.int .i64 0) w := by kernel_rfl
/-- Block M is the map of all topics' numbers. -/
def NM (w : World) (M : Nat) (l : List Tp) : Prop := w.ownsMap Tryd.prog 9 (plainElem Tryd.prog 3) M l.length (numD l l.length)
theorem NM.below {w w' : World} {M : Nat} {l : List Tp} (h : NM w M l) (hb : Below w.heap.size w w') : NM w' M l :=
  h.kept (row := none) ⟨hb.os, hb.tape, hb.output, hb.size, fun k hk _ => hb.block k hk⟩ (by simp)
theorem NM.gr {w w' : World} {M : Nat} {l : List Tp} {row : Option Nat} (h : NM w M l) (hb : w.grownBy w' row) (hne : some M ≠ row) : NM w' M l := h.kept hb hne

theorem keyfn_any (x : Tp) (w : World) : Calls Tryd.prog 48 #[.agg #[.string x.k, .string x.a]] w fun e w' => e = .returned (.string x.k) ∧ Below w.heap.size w w' := by
  go_enter Tryd.func48, Tryd.ntmps48
  go_wp2
  go_ret
  exact ⟨rfl, (Below.refl _ _).alloc (Nat.le_refl _) _⟩
theorem abovefn_any (x : Tp) (w : World) : Calls Tryd.prog 50 #[.agg #[.string x.k, .string x.a]] w fun e w' => e = .returned (.string x.a) ∧ Below w.heap.size w w' := by
  go_enter Tryd.func50, Tryd.ntmps50
  go_wp2
  go_ret
  exact ⟨rfl, (Below.refl _ _).alloc (Nat.le_refl _) _⟩

set_option maxRecDepth 100000 in
set_option maxHeartbeats 4000000 in
theorem of_walk (A : Option Addr) (n cap : Nat) (l : List Tp) (w : World) (hn : l.length = n) (hn2 : n ≤ 1000) (hS : TL w A l) :
    Calls Tryd.prog 47 #[.slice A n cap, .func (.func 48) #[] #[]] w fun e w' => ∃ M, e = .returned (.map (some M)) ∧ w.heap.size ≤ M ∧ NM w' M l ∧ Below w.heap.size w w' := by
  have HS := Lib.hid hS
  have HL := Lib.hid hn
  clear hS hn
  have hmm : ∀ W : World, (Instr.makeMap 66 (some (.int .i64 n))).run Tryd.prog W = .ok (.map (some W.heap.size)) (W.alloc (.map #[] 0)) := fun W => by
    simp [Instr.makeMap, run_underlying Tryd.underlying66, asInt, asIntOf, Result.andThen]
  go_enter Tryd.func47, Tryd.ntmps47
  go_wp2_with fail
  clear hmm
  go_loopw [13] (fun i wr => ∃ k : Nat, k ≤ n ∧ i = .int .i64 k ∧ Hid (wr.ownsMap Tryd.prog 9 (plainElem Tryd.prog 3) w.heap.size k (numD l k)) ∧ Hid (Below w.heap.size w wr)) (fun i _ => n - (intOf i).toNat)
  case atStart => exact ⟨0, Nat.zero_le _, rfl, Lib.hid (World.ownsMap_made _ _ _ _), Lib.hid ((Below.refl _ _).alloc (Nat.le_refl _) _)⟩
  case round =>
    obtain ⟨k, hk, rfl, HO, HB⟩ := hrel
    by_cases hlt : k < n
    · obtain ⟨hsz, hcells⟩ := HS.out
      have hkl : k < l.length := by have := HL.out; omega
      obtain ⟨b, hA, hbl, hc⟩ := hcells (by omega)
      obtain ⟨hsz1, hsz2⟩ := hsz l[k] (List.getElem_mem hkl)
      obtain ⟨d0, d1⟩ := hc k hkl
      have c0 := (HB.out.cell (p := ⟨b, k * 2, none⟩) hbl).trans d0
      have c1 := (HB.out.cell (p := ⟨b, k * 2 + 1, none⟩) hbl).trans d1
      have HST : Hid (numD l (k + 1) = (numD l k).put (.string l[k].k.data.toList) (.lit (.int .i64 k))) := Lib.hid (by simp [numD, List.getD, List.getElem?_eq_getElem hkl])
      generalize l[k] = x at *
      have hkey : keyOf Tryd.prog 9 (.string x.k) = some (.string x.k.data.toList) := Go.WideMaps.keyOf_string_mk Tryd.underlying9 (by unfold maxLen; omega)
      have HKEY := Lib.hid hkey
      have B1 := Lib.hid (HB.out.alloc HB.out.size (.cells #[.string x.k, .string x.a] 38))
      have O1 := Lib.hid (HO.out.alloc (.cells #[.string x.k, .string x.a] 38))
      subst hA
      clear hsz hcells hc d0 d1 hkey
      go_wp2_with fail
      refine (keyfn_any x _).mono ?_
      rintro e w2 ⟨rfl, hb⟩
      have B2 := Lib.hid (B1.out.trans (hb.mono B1.out.size))
      have O2 := Lib.hid (O1.out.kept (row := none) ⟨hb.os, hb.tape, hb.output, hb.size, fun k hk _ => hb.block k hk⟩ (by simp))
      clear hb B1 O1 c0 c1
      go_wp2_with (at_mapUpdate; (refine wpList_mapUpdate_own _ rfl _ _ _ 66 rfl 9 3 keyLaw Tryd.underlying66 _ w.heap.size k _ rfl O2.out (by unfold maxLen; omega) _ _ _ rfl rfl HKEY.out _ [] (plainElem_int Tryd.underlying3 (WalkArith.wf_i64 (by omega))) ?_); intro w3 hown3 hgrow3; (have O3 := Lib.hid (HST.out.symm ▸ hown3)); (have B3 := Lib.hid (B2.out.grown hgrow3 B2.out.size (fun j hj => by cases hj; exact Nat.le_refl _))); clear hown3 hgrow3)
      go_roundw
      case rel => exact ⟨k + 1, by omega, by go_num, O3, B3⟩
      case measure => simp [intOf]; omega
    · have hkn : k = n := by omega
      subst hkn
      go_wp2_with fail
      go_ret
      exact ⟨w.heap.size, rfl, Nat.le_refl _, by unfold NM; rw [HL.out]; exact HO.out, HB.out⟩
end Go.Proofs.YtnjigaklkalebaaDoor.For
