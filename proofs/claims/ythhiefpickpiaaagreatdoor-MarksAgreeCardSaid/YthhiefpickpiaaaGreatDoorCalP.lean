/-
  MARKS: calibrate.PapersOf, PeopleOf; the reference's sorted, MarkedPapers, Markers.
-/
import Derived.Test.YthhiefpickpiaaaGreatDoorCalT
import Derived.Shelf.SlicesE.Clone
import Derived.Deep.AppendLies
namespace Go.Proofs.YthhiefpickpiaaaGreatDoor.Cal
open Go.Shelf Go.Lib Go.Sort
open Go.ChangeShapes Go.WideShapes Go.ChangeAt Go.RowKit Stm Key
set_option linter.unusedVariables false

/-- What PapersOf hands back. -/
def papersofRet (r : Int) (l : List Mk) (w : World) (e : Ending) (w' : World) : Prop := Below w.heap.size w w' ∧ ((r ≠ 0 ∧ e = .returned (.tuple #[.slice none 0 0, .int .i64 r])) ∨ (r = 0 ∧ ∃ (A : Option Addr) (c : Nat), e = .returned (.tuple #[.slice A (papersL l).length c, .int .i64 0]) ∧ SL w' A (papersL l)))
/-- What PeopleOf hands back. -/
def peopleofRet (r : Int) (l : List Mk) (w : World) (e : Ending) (w' : World) : Prop := Below w.heap.size w w' ∧ ((r ≠ 0 ∧ e = .returned (.tuple #[.slice none 0 0, .int .i64 r])) ∨ (r = 0 ∧ ∃ (A : Option Addr) (c : Nat), e = .returned (.tuple #[.slice A (peopleL l).length c, .int .i64 0]) ∧ SL w' A (peopleL l)))
theorem clones_any (A : Option Addr) (n cap : Nat) (ss : List ByteArray) (w : World) (hS : SL w A ss) (hn : ss.length = n) (hn2 : n ≤ 1000) (hA : (A = none ∧ n = 0) ∨ ∃ g, A = some ⟨g, 0, none⟩) :
    Calls Tryz.prog 55 #[.slice A n cap] w fun e w' => ∃ (A' : Option Addr) (c' : Nat), e = .returned (.slice A' n c') ∧ ((A' = none ∧ n = 0) ∨ ∃ g, A' = some ⟨g, 0, none⟩) ∧
      w'.ownsRow w.heap.size 9 1 (.slice A' n c') n (ss.map Value.string) ∧ Below w.heap.size w w' := by
  rcases hA with ⟨rfl, rfl⟩ | ⟨g, rfl⟩
  · refine (AnyE.slices_Clone_nil Tryz.laysSlE041_f55 0 cap w).mono ?_
    rintro e w' ⟨rfl, rfl⟩
    have : ss = [] := List.length_eq_zero_iff.1 hn
    subst this
    exact ⟨none, 0, rfl, Or.inl ⟨rfl, rfl⟩, World.ownsRow_nil _ _ _ _, Below.refl _ _⟩
  · obtain ⟨i0, hi0, hz0, hz1, hz2⟩ := info_parts infoS
    refine (AnyE.slices_Clone Tryz.laysSlE041_f55 i0 _ 1 16 hi0 hz0 hz1 hz2 rfl (by omega) Tryz.sizeOf9 g 0 n cap (ss.map Value.string) w (by simp [hn]) (by unfold maxLen; omega) (by omega) ?_ ?_).mono ?_
    · intro j u hj
      rw [Nat.zero_add]
      rw [List.getElem?_map] at hj
      have hjl : j < ss.length := by
        rcases Nat.lt_or_ge j ss.length with h | h
        · exact h
        · rw [List.getElem?_eq_none h] at hj; simp at hj
      rw [List.getElem?_eq_getElem hjl] at hj
      simp at hj
      subst hj
      obtain ⟨b, hb, _, hc⟩ := hS.2 (by omega)
      have : g = b := congrArg Addr.block (Option.some.inj hb)
      subst this
      exact hc j hjl
    · intro u hu
      obtain ⟨x, _, rfl⟩ := List.mem_map.1 hu
      rfl
    · rintro e w' ⟨v', rfl, ho, hne, hb⟩
      rcases ho.2 with ⟨e, e2⟩ | ⟨g', cap', cur, e, _⟩
      · exact absurd e hne
      · subst e
        exact ⟨some ⟨g', 0, none⟩, cap', rfl, Or.inr ⟨g', rfl⟩, ho, hb⟩
/-- A list of strings handed back. -/
def SRet (ss : List ByteArray) (w : World) (e : Ending) (w' : World) : Prop := ∃ (A : Option Addr) (c : Nat), e = .returned (.slice A ss.length c) ∧ SL w' A ss ∧ Below w.heap.size w w'
set_option maxHeartbeats 2000000 in
theorem sorted_walk (A : Option Addr) (n cap : Nat) (ss : List ByteArray) (w : World) (hS : SL w A ss) (hn : ss.length = n) (hn2 : n ≤ 1000) (hA : (A = none ∧ n = 0) ∨ ∃ g, A = some ⟨g, 0, none⟩) :
    Calls Tryz.prog 45 #[.slice A n cap] w (SRet (dedB ss) w) := by
  have HCL := Lib.hid (clones_any A n cap ss w hS hn hn2 hA)
  have HN := Lib.hid hn
  have HSZ := Lib.hid hS.1
  clear hS hn
  go_enter Tryz.func45, Tryz.ntmps45
  go_wp2_with fail
  refine (HCL.out).mono ?_; rintro e w1 ⟨A1, c1, rfl, _, ho1, hb1⟩
  have O1 := Lib.hid ho1
  have B1 := Lib.hid hb1
  clear ho1 hb1 HCL
  go_wp2_with fail
  refine (sorts_own w.heap.size n c1 A1 ss w1 HN.out hn2 O1.out).mono ?_; rintro e w2 ⟨rfl, ho2, hb2⟩
  have O2 := Lib.hid ho2
  have B2 := Lib.hid (B1.out.trans (hb2 B1.out.size))
  clear ho2 hb2 O1 B1
  go_wp2_with fail
  refine (compacts_own w.heap.size n c1 A1 ((ss.map fun x => x.data.toList).mergeSort fun x y => decide (x ≤ y)) w2 (by rw [List.length_mergeSort, List.length_map]; exact HN.out) hn2 O2.out (fun x hx => by
    rw [List.mem_mergeSort, List.mem_map] at hx
    obtain ⟨y, hy, rfl⟩ := hx
    exact HSZ.out y hy)).mono ?_; rintro e w3 ⟨rfl, hs3, hb3⟩
  have hlen : (compact ((ss.map fun x => x.data.toList).mergeSort fun x y => decide (x ≤ y))).length = (dedB ss).length := by rw [← mk_bytes, List.length_map]
  rw [mk_bytes] at hs3
  have HRES := Lib.hid (show SRet (dedB ss) w (.returned (.slice A1 (dedB ss).length c1)) w3 from ⟨_, _, rfl, hs3, B2.out.trans (hb3 B2.out.size)⟩)
  rw [hlen]
  obtain ⟨q, hq⟩ : ∃ q, (dedB ss).length = q := ⟨_, rfl⟩
  rw [hq] at HRES ⊢
  clear hs3 hb3 hlen hq O2 B2
  go_wp2_with fail
  go_ret
  exact HRES.out
set_option maxRecDepth 100000 in
set_option maxHeartbeats 4000000 in
theorem ref_p (A : Option Addr) (n cap : Nat) (l : List Mk) (w : World) (hn : l.length = n) (hn2 : n ≤ 1000) (hM : ML w A l) :
    Calls Tryz.prog 24 #[.slice A n cap] w (SRet (dedB (l.map Mk.p)) w) := by
  have HN := Lib.hid hn
  have HM := Lib.hid hM
  obtain ⟨i0, hi0, hz0, hz1', hz2'⟩ := info_parts infoS
  have HI := Lib.hid hi0
  have Z0 := Lib.hid hz0
  have Z1 := Lib.hid hz1'
  have Z2 := Lib.hid hz2'
  clear hn hM hi0 hz0 hz1' hz2'
  go_enter Tryz.func24, Tryz.ntmps24
  go_wp2_with fail
  go_loopw [3, 8] (fun o i wr => ∃ (k : Nat) (Ao : Option Addr) (c : Nat), k ≤ n ∧ i = .int .i64 k ∧ o = .slice Ao k c ∧ Hid (wr.ownsRow w.heap.size 9 1 (.slice Ao k c) k (((l.take k).map Mk.p).map Value.string)) ∧ Hid (Below w.heap.size w wr)) (fun _ i _ => n - (intOf i).toNat)
  case atStart => exact ⟨0, none, 0, Nat.zero_le _, rfl, rfl, Lib.hid (World.ownsRow_nil _ _ _ _), Lib.hid (Below.refl _ _)⟩
  case round =>
    obtain ⟨k, Ao, c, hk, rfl, rfl, HO, HB⟩ := hrel
    have hzr := HB.out.size
    by_cases hlt : k < n
    · have hkl : k < l.length := by rw [HN.out]; exact hlt
      obtain ⟨g, hA, hgW, hcl⟩ := HM.out.2 (by omega)
      subst hA
      obtain ⟨d0, d1, d2⟩ := hcl k hkl
      have c0 := (HB.out.cell (p := ⟨g, k * 3, none⟩) hgW).trans d0
      have c1 := (HB.out.cell (p := ⟨g, k * 3 + 1, none⟩) hgW).trans d1
      have c2 := (HB.out.cell (p := ⟨g, k * 3 + 2, none⟩) hgW).trans d2
      have HNX := Lib.hid (map_next (f := Mk.p) hkl)
      clear hcl d0 d1 d2
      generalize l[k] = x at *
      have a0 : (0 : Int) ≤ (k : Int) := by omega
      have a1 : (k : Int) < (n : Int) := by omega
      have B1 := Lib.hid (HB.out.alloc hzr (.cells #[.string x.p, .string x.h, .int .i64 x.s] 59))
      have O1 := Lib.hid (own_below HO.out ((Below.refl _ _).alloc (Nat.le_refl _) (.cells #[.string x.p, .string x.h, .int .i64 x.s] 59)))
      clear HO HB
      go_wp2_with (at_builtin; (refine wpList_append_lies _ rfl _ _ _ rfl w.heap.size 9 i0 _ 1 16 Tryz.underlying45 HI.out Z0.out Z1.out Z2.out rfl (by omega) (.slice Ao k c) k (((l.take k).map Mk.p).map Value.string) rfl (O1.out.alloc _) ⟨wr.heap.size + 1, 0, none⟩ 1 1 [.string x.p] rfl rfl (World.news_of_block (cs := #[.string x.p]) (t := 9) (fr := (0, 0)) (new_at (by simp))) (by simp [Value.oneCell']) (by omega) (by unfold maxLen; omega) (by omega) (by simp; omega) (wr.heap.size + 1 + 1) (by simp) ?_); intro gg cap' w5 hown hgrow hat hgl; (have O5 := Lib.hid (show w5.ownsRow w.heap.size 9 1 (.slice (some ⟨gg, 0, none⟩) (k + 1) cap') (k + 1) (((l.take (k + 1)).map Mk.p).map Value.string) by rw [HNX.out]; exact hown)); (have B5 := Lib.hid ((B1.out.alloc B1.out.size (.cells #[.string x.p] 9)).trans (grownB hgrow (fun g e => (O1.out.lt g e).1) (by simp; omega)))); clear hown hgrow hat)
      go_roundw
      case rel => exact ⟨k + 1, _, _, by omega, by go_num, rfl, O5, B5⟩
      case measure => simp [intOf]; omega
    · have hkn : k = n := by omega
      subst hkn
      have hO := HO.out
      rw [List.take_of_length_le (by rw [HN.out]; exact Nat.le_refl _)] at hO
      have hL : (l.map Mk.p).length = k := by rw [List.length_map, HN.out]
      have hSL := row_sl hO hL (fun x hx => by
        obtain ⟨m, hm, rfl⟩ := List.mem_map.1 hx
        obtain ⟨h1, h2, _⟩ := HM.out.1 m hm
        first | exact h1 | exact h2)
      have hAo : (Ao = none ∧ k = 0) ∨ ∃ g, Ao = some ⟨g, 0, none⟩ := by
        rcases hO.2 with ⟨e, e0⟩ | ⟨g, cap', cur, e, _⟩
        · injection e with e1; exact Or.inl ⟨e1, e0⟩
        · injection e with e1; exact Or.inr ⟨g, e1⟩
      have HSO := Lib.hid (sorted_walk Ao k c (l.map Mk.p) wr hSL hL hn2 hAo)
      have B1 := Lib.hid (fun W (h : Below wr.heap.size wr W) => HB.out.trans (h.mono hzr))
      clear hO hL hSL hAo HO
      go_wp2_with fail
      refine (HSO.out).mono ?_; rintro e w1 ⟨A1, c1, rfl, hs1, hb1⟩
      have HRES := Lib.hid (show SRet (dedB (l.map Mk.p)) w (.returned (.slice A1 (dedB (l.map Mk.p)).length c1)) w1 from ⟨_, _, rfl, hs1, B1.out _ hb1⟩)
      obtain ⟨q, hq⟩ : ∃ q, (dedB (l.map Mk.p)).length = q := ⟨_, rfl⟩
      rw [hq] at HRES ⊢
      clear hs1 hb1 hq
      go_wp2_with fail
      go_ret
      exact HRES.out
end Go.Proofs.YthhiefpickpiaaaGreatDoor.Cal
