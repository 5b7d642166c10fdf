/-
  MARKS: strings in order, each once, with their numbers: slices.Sort, slices.Compact, index.Of, calibrate.numbered.
-/
import Derived.Test.YthhiefpickpiaaaGreatDoorCalK
import Derived.Test.YthhiefpickpiaaaGreatDoorStrs
import Derived.Test.YthhiefpickpiaaaGreatDoorShelf
import Derived.Shelf.Sort.Plain
import Derived.Shelf.Slices.CompactS
import Derived.Shelf.Slices.In.SortNone
import Derived.Sort.OwnSorted
import Derived.Laws.MakeOwn
namespace Go.Proofs.YthhiefpickpiaaaGreatDoor.Cal
open Go.Shelf Go.Lib Go.Sort
open Go.ChangeShapes Go.WideShapes Go.ChangeAt Go.RowKit Stm Key
set_option linter.unusedVariables false

def mkBA (x : List UInt8) : ByteArray := ⟨x.toArray⟩
theorem mkBA_list (x : List UInt8) : (mkBA x).data.toList = x := rfl
theorem mkBA_back (x : ByteArray) : mkBA x.data.toList = x := rfl
/-- Strings in order, each once. -/
def dedB (l : List ByteArray) : List ByteArray := (ded (l.map fun x => x.data.toList)).map mkBA
theorem dedB_mem (l : List ByteArray) (x : ByteArray) : x ∈ dedB l ↔ x ∈ l := by
  unfold dedB
  rw [List.mem_map]
  constructor
  · rintro ⟨y, hy, rfl⟩
    rw [ded_mem, List.mem_map] at hy
    obtain ⟨z, hz, rfl⟩ := hy
    rw [mkBA_back]; exact hz
  · intro h
    exact ⟨x.data.toList, by rw [ded_mem, List.mem_map]; exact ⟨x, h, rfl⟩, mkBA_back x⟩
theorem dedB_length (l : List ByteArray) : (dedB l).length ≤ l.length := by
  unfold dedB; rw [List.length_map]; exact Nat.le_trans (ded_length _) (by simp)
theorem dedB_sorted (l : List ByteArray) : (dedB l).Pairwise fun a b => a.data.toList < b.data.toList := by
  unfold dedB; rw [List.pairwise_map]; exact (ded_sorted _).imp fun h => h
theorem dedB_nodup (l : List ByteArray) : (dedB l).Nodup := (dedB_sorted l).imp fun {a b} h e => by subst e; exact bl_irrefl _ h
theorem row_sl {w : World} {base n cap : Nat} {A : Option Addr} {l : List ByteArray} (h : w.ownsRow base 9 1 (.slice A n cap) n (l.map Value.string)) (hL : l.length = n) (hok : ∀ x ∈ l, x.size ≤ 1000) : SL w A l := by
  refine ⟨hok, fun h0 => ?_⟩
  rcases h.2 with ⟨e, e0⟩ | ⟨g, cap', cur, e, hb, hh, _⟩
  · omega
  · injection e with e1
    subst e1
    refine ⟨g, rfl, lt_of_block hh, fun i hi => ?_⟩
    have hc := h.cells (g := g) rfl i (.string l[i]) (by simp [List.getElem?_eq_getElem hi])
    rw [row_add'] at hc
    exact hc
/-- What is put back in order: the sort and what is left of it when each is kept once. -/
theorem sorts_own (base n cap : Nat) (A : Option Addr) (ss : List ByteArray) (w : World) (hn : ss.length = n) (h12 : n ≤ 1000) (hr : w.ownsRow base 9 1 (.slice A n cap) n (ss.map Value.string)) :
    Calls Tryz.prog 47 #[.slice A n cap] w fun e w' => e = .returned (.tuple #[]) ∧ w'.ownsRow base 9 1 (.slice A n cap) n (((ss.map fun x => x.data.toList).mergeSort fun x y => decide (x ≤ y)).map encStr) ∧ (base ≤ w.heap.size → Below base w w') := by
  have hR := hr
  rcases hr.2 with ⟨hnil, h0⟩ | ⟨g', cap', cur, hv, hbase, hblk, h1, h2, h3, h4⟩
  · subst h0
    refine (Any.slices_Sort_string_none Tryz.lays190 A cap w).mono ?_
    rintro e w' ⟨rfl, rfl⟩
    obtain rfl := List.length_eq_zero_iff.1 hn
    exact ⟨rfl, by simpa using hR, fun _ => Below.refl _ _⟩
  injection hv with hv hv2 hv3
  subst hv
  subst hv3
  have hglt : g' < w.heap.size := (Array.getElem?_eq_some_iff.1 hblk).1
  obtain ⟨L, hL⟩ : ∃ L, L = ss.map fun x => x.data.toList := ⟨_, rfl⟩
  have hLl : L.length = n := by rw [hL]; simpa using hn
  have hmap : ss.map Value.string = L.map encStr := by
    rw [hL, List.map_map]
    apply List.map_congr_left
    intro x _
    rfl
  rw [hmap] at h4
  have hH : Holds encStr w g' 0 L.toArray := holds_of_block hblk (by rw [hLl]; simpa using h4)
  have hcon := Any.slices_Sort_string Tryz.lays190 g' 0 cap L w hH hglt (by omega)
  rw [hLl] at hcon
  refine hcon.mono ?_
  rintro e w' ⟨rfl, m, os, rfl⟩
  rw [← hL]
  have hown := ownsRow_sorted (n := m) (os := os) (ss := L) (ts := L.mergeSort fun x y => decide (x ≤ y)) (by rw [List.length_mergeSort]) hbase hblk (by rw [hLl]; exact h1) h2 h3
  rw [hLl] at hown
  refine ⟨rfl, hown, fun hb => (Below.refl _ _).grown (grownBy_sorted _) hb (fun k hk => by injection hk with hk; omega)⟩
theorem compacts_own (base n cap : Nat) (A : Option Addr) (zs : List (List UInt8)) (w : World) (hn : zs.length = n) (h12 : n ≤ 1000) (hr : w.ownsRow base 9 1 (.slice A n cap) n (zs.map encStr)) (hsz : ∀ x ∈ zs, x.length ≤ 1000) :
    Calls Tryz.prog 48 #[.slice A n cap] w fun e w' => e = .returned (.slice A (compact zs).length cap) ∧ SL w' A ((compact zs).map mkBA) ∧ (base ≤ w.heap.size → Below base w w') := by
  have hR := hr
  rcases hr.2 with ⟨hnil, h0⟩ | ⟨g', cap', cur, hv, hbase, hblk, h1, h2, h3, h4⟩
  · subst h0
    refine (Any.slices_Compact_string_empty Tryz.lays194 A cap w).mono ?_
    rintro e w' ⟨rfl, rfl⟩
    obtain rfl := List.length_eq_zero_iff.1 hn
    exact ⟨rfl, ⟨by simp [compact, compactUpTo], fun h => absurd h (by simp [compact, compactUpTo])⟩, fun _ => Below.refl _ _⟩
  injection hv with hv hv2 hv3
  subst hv
  subst hv3
  have hglt : g' < w.heap.size := (Array.getElem?_eq_some_iff.1 hblk).1
  have hH : Holds encStr w g' 0 zs.toArray := holds_of_block hblk (by rw [hn]; simpa using h4)
  have hcon := Any.slices_Compact_string Tryz.lays194 g' 0 cap zs w hH (by omega) (by omega)
  rw [hn] at hcon
  refine hcon.mono ?_
  rintro e w' ⟨rfl, q, rfl⟩
  have hcl : (compact zs).length ≤ n := by rw [← hn]; exact cu_len _ _
  have hown := ownsRow_sorted (n := q) (os := #[]) (ss := zs) (ts := compact zs ++ List.replicate (n - (compact zs).length) []) (by rw [List.length_append, List.length_replicate, hn]; omega) hbase hblk (by rw [hn]; exact h1) h2 h3
  rw [hn, grow_empty] at hown
  refine ⟨rfl, ⟨fun x hx => ?_, fun h0 => ⟨g', rfl, ?_, fun i hi => ?_⟩⟩, fun hb => ?_⟩
  · obtain ⟨y, hy, rfl⟩ := List.mem_map.1 hx
    exact hsz y ((compact_mem zs y).1 hy)
  · exact (hown.lt g' rfl).2
  · have hi' : i < (compact zs).length := by simpa using hi
    have hc := hown.cells (g := g') rfl i (encStr (compact zs)[i]) (by
      rw [List.getElem?_map, List.getElem?_append_left hi', List.getElem?_eq_getElem hi']; rfl)
    rw [row_add'] at hc
    rw [hc, List.getElem_map]; rfl
  · have hg := grownBy_sorted (w := w) (g := g') (n := q) (os := #[]) (compact zs ++ List.replicate (n - (compact zs).length) []).toArray
    rw [grow_empty] at hg
    exact (Below.refl _ _).grown hg hb (fun k hk => by injection hk with hk; omega)

/-! ### The numbers of strings -/
def numS (ks : List ByteArray) : Nat → DataW Unit
  | 0 => .map []
  | k + 1 => (numS ks k).put (.string (ks.getD k ⟨#[]⟩).data.toList) (.lit (.int .i64 k))
theorem numS_map (ks : List ByteArray) : ∀ k, Maps.IsMap (numS ks k)
  | 0 => Maps.isMap_empty
  | k + 1 => (numS_map ks k).put _ _
theorem numS_at (ks : List ByteArray) (hd : ks.Nodup) (z : DataW Unit) : ∀ (k i : Nat) (hk : k ≤ ks.length) (hi : i < k), (numS ks k).atKey (.string (ks[i]'(by omega)).data.toList) z = .lit (.int .i64 i) ∧ Maps.has (numS ks k) (.string (ks[i]'(by omega)).data.toList) = true
  | 0, i, _, hi => absurd hi (by omega)
  | k + 1, i, hk, hi => by
    have hkl : k < ks.length := by omega
    have e : ks.getD k ⟨#[]⟩ = ks[k] := by simp [List.getD, List.getElem?_eq_getElem hkl]
    simp only [numS, e]
    by_cases h : i = k
    · subst h
      exact ⟨by rw [Maps.atKey_put_same (k := .string ks[i].data.toList) (numS_map ks i) (show WideAt.IsKeyLit (.string _) from trivial)], by rw [Maps.has_put_same (k := .string ks[i].data.toList) (numS_map ks i) (show WideAt.IsKeyLit (.string _) from trivial)]⟩
    · have hne : eqB ks[k] (ks[i]'(by omega)) = false := by
        cases hx : eqB ks[k] (ks[i]'(by omega))
        · rfl
        · exact absurd ((List.getElem_inj hd).1 ((eqB_iff _ _).1 hx)) (by omega)
      have ih := numS_at ks hd z k i (by omega) (by omega)
      exact ⟨by rw [Maps.atKey_put_other (key_ne hne), ih.1], by rw [Maps.has_put_other (key_ne hne), ih.2]⟩
theorem numS_has (ks : List ByteArray) (s : ByteArray) (hs : s ∉ ks) : ∀ k, k ≤ ks.length → Maps.has (numS ks k) (.string s.data.toList) = false
  | 0, _ => rfl
  | k + 1, hk => by
    have hkl : k < ks.length := by omega
    have e : ks.getD k ⟨#[]⟩ = ks[k] := by simp [List.getD, List.getElem?_eq_getElem hkl]
    simp only [numS, e]
    have hne : eqB ks[k] s = false := by
      cases hx : eqB ks[k] s
      · rfl
      · exact absurd ((eqB_iff _ _).1 hx ▸ List.getElem_mem hkl) hs
    rw [Maps.has_put_other (key_ne hne), numS_has ks s hs k (by omega)]
/-- Block M is the map of all numbers. -/
def NS (w : World) (M : Nat) (ks : List ByteArray) : Prop := w.ownsMap Tryz.prog 9 (plainElem Tryz.prog 3) M ks.length (numS ks ks.length)
theorem NS.below {w w' : World} {M : Nat} {ks : List ByteArray} (h : NS w M ks) (hb : Below w.heap.size w w') : NS w' M ks :=
  h.kept (row := none) ⟨hb.os, hb.tape, hb.output, hb.size, fun k hk _ => hb.block k hk⟩ (by simp)
theorem NS.gr {w w' : World} {M : Nat} {ks : List ByteArray} {row : Option Nat} (h : NS w M ks) (hb : w.grownBy w' row) (hne : some M ≠ row) : NS w' M ks := h.kept hb hne
theorem selffn_any (x : ByteArray) (w : World) : Calls Tryz.prog 50 #[.string x] w fun e w' => e = .returned (.string x) ∧ w' = w := by
  go_enter Tryz.func50, Tryz.ntmps50
  go_wp2
  go_ret
  exact ⟨rfl, rfl⟩
set_option maxRecDepth 100000 in
set_option maxHeartbeats 4000000 in
theorem ofs_walk (A : Option Addr) (n cap : Nat) (ks : List ByteArray) (w : World) (hn : ks.length = n) (hn2 : n ≤ 1000) (hS : SL w A ks) :
    Calls Tryz.prog 49 #[.slice A n cap, .func (.func 50) #[] #[]] w fun e w' => ∃ M, e = .returned (.map (some M)) ∧ w.heap.size ≤ M ∧ NS w' M ks ∧ Below w.heap.size w w' := by
  have HS := Lib.hid hS
  have HL := Lib.hid hn
  clear hS hn
  have hmm : ∀ W : World, (Instr.makeMap 46 (some (.int .i64 n))).run Tryz.prog W = .ok (.map (some W.heap.size)) (W.alloc (.map #[] 0)) := fun W => by
    simp [Instr.makeMap, run_underlying Tryz.underlying46, asInt, asIntOf, Result.andThen]
  go_enter Tryz.func49, Tryz.ntmps49
  go_wp2_with fail
  clear hmm
  go_loopw [13] (fun i wr => ∃ k : Nat, k ≤ n ∧ i = .int .i64 k ∧ Hid (wr.ownsMap Tryz.prog 9 (plainElem Tryz.prog 3) w.heap.size k (numS ks k)) ∧ Hid (Below w.heap.size w wr)) (fun i _ => n - (intOf i).toNat)
  case atStart => exact ⟨0, Nat.zero_le _, rfl, Lib.hid (World.ownsMap_made _ _ _ _), Lib.hid ((Below.refl _ _).alloc (Nat.le_refl _) _)⟩
  case round =>
    obtain ⟨k, hk, rfl, HO, HB⟩ := hrel
    by_cases hlt : k < n
    · obtain ⟨hsz, hcells⟩ := HS.out
      have hkl : k < ks.length := by have := HL.out; omega
      obtain ⟨b, hA, hbl, hc⟩ := hcells (by omega)
      have hsz1 := hsz ks[k] (List.getElem_mem hkl)
      have c0 := (HB.out.cell (p := ⟨b, k, none⟩) hbl).trans (hc k hkl)
      have HST : Hid (numS ks (k + 1) = (numS ks k).put (.string ks[k].data.toList) (.lit (.int .i64 k))) := Lib.hid (by simp [numS, List.getD, List.getElem?_eq_getElem hkl])
      generalize ks[k] = x at *
      have HKEY := Lib.hid (show keyOf Tryz.prog 9 (.string x) = some (.string x.data.toList) from Go.WideMaps.keyOf_string_mk Tryz.underlying9 (by unfold maxLen; omega))
      have a0 : (0 : Int) ≤ (k : Int) := by omega
      have a1 : (k : Int) < (n : Int) := by omega
      subst hA
      clear hsz hcells hc
      go_wp2_with fail
      refine (selffn_any x _).mono ?_
      rintro e w2 ⟨rfl, rfl⟩
      go_wp2_with (at_mapUpdate; (refine wpList_mapUpdate_own _ rfl _ _ _ 46 rfl 9 3 keyLaw Tryz.underlying46 _ w.heap.size k _ rfl HO.out (by unfold maxLen; omega) _ _ _ rfl rfl HKEY.out _ [] (plainElem_int Tryz.underlying3 (WalkArith.wf_i64 (by omega))) ?_); intro w3 hown3 hgrow3; (have O3 := Lib.hid (HST.out.symm ▸ hown3)); (have B3 := Lib.hid (HB.out.grown hgrow3 HB.out.size (fun j hj => by cases hj; exact Nat.le_refl _))); clear hown3 hgrow3)
      go_roundw
      case rel => exact ⟨k + 1, by omega, by go_num, O3, B3⟩
      case measure => simp [intOf]; omega
    · have hkn : k = n := by omega
      subst hkn
      have HF := Lib.hid (show NS wr w.heap.size ks by unfold NS; rw [HL.out]; exact HO.out)
      go_wp2_with fail
      go_ret
      exact ⟨_, rfl, Nat.le_refl _, HF.out, HB.out⟩
end Go.Proofs.YthhiefpickpiaaaGreatDoor.Cal
