/-
  MARKS: calibrate.numbered: the papers, or the persons, of marks, sorted, each once, and their numbers.
-/
import Derived.Test.YthhiefpickpiaaaGreatDoorCalN
import Derived.Deep.AppendLies
namespace Go.Proofs.YthhiefpickpiaaaGreatDoor.Cal
open Go.Shelf Go.Lib Go.Sort
open Go.ChangeShapes Go.WideShapes Go.ChangeAt Go.RowKit Stm Key
set_option linter.unusedVariables false

theorem infoS : (Tryz.prog.info? 9).map (fun i => (i.zero, i.size, i.bytes)) = some (some (.string ⟨#[]⟩), 1, 16) := by kernel_rfl
theorem own_below {w w' : World} {base E S n : Nat} {v : Value} {xs : List Value} (h : w.ownsRow base E S v n xs) (hb : Below w.heap.size w w') : w'.ownsRow base E S v n xs :=
  h.kept (row := none) ⟨hb.os, hb.tape, hb.output, hb.size, fun k hk _ => hb.block k hk⟩ (by
    rcases hh : v.ownBlock with _ | g
    · exact Or.inl rfl
    · exact Or.inr (by simp))
theorem map_next {l : List Mk} {f : Mk → ByteArray} {k : Nat} (h : k < l.length) : ((l.take (k + 1)).map f).map Value.string = ((l.take k).map f).map Value.string ++ [Value.string (f l[k])] := by
  rw [take_next l k h, List.map_append, List.map_append]; rfl
theorem mk_bytes {l : List ByteArray} : (compact ((l.map fun x => x.data.toList).mergeSort fun x y => decide (x ≤ y))).map mkBA = dedB l := rfl
/-- What numbered hands back. -/
def NumRet (ks : List ByteArray) (w : World) (e : Ending) (w' : World) : Prop := ∃ (A : Option Addr) (c M : Nat), e = .returned (.tuple #[.slice A ks.length c, .map (some M)]) ∧ SL w' A ks ∧ (∀ b, A = some ⟨b, 0, none⟩ → w.heap.size ≤ b ∧ b < w'.heap.size) ∧ w.heap.size ≤ M ∧ M < w'.heap.size ∧ NS w' M ks ∧ Below w.heap.size w w'
theorem NS.lt {w : World} {M : Nat} {ks : List ByteArray} (h : NS w M ks) : M < w.heap.size := World.ownsMap.lt h

theorem keyfn_p (x : Mk) (w : World) : Calls Tryz.prog 35 #[.agg #[.string x.p, .string x.h, .int .i64 x.s]] w fun e w' => e = .returned (.string x.p) ∧ Below w.heap.size w w' := by
  go_enter Tryz.func35, Tryz.ntmps35
  go_wp2
  go_ret
  exact ⟨rfl, (Below.refl _ _).alloc (Nat.le_refl _) _⟩
set_option maxRecDepth 100000 in
set_option maxHeartbeats 4000000 in
theorem numbered_p (A : Option Addr) (n cap : Nat) (l : List Mk) (w : World) (hn : l.length = n) (hn2 : n ≤ 1000) (hM : ML w A l) :
    Calls Tryz.prog 34 #[.slice A n cap, .func (.func 35) #[] #[]] w (NumRet (dedB (l.map Mk.p)) w) := by
  obtain ⟨ks, hks⟩ : ∃ ks, dedB (l.map Mk.p) = ks := ⟨_, rfl⟩
  rw [hks]
  have HKS := Lib.hid hks
  clear hks
  have HN := Lib.hid hn
  have HM := Lib.hid hM
  obtain ⟨i0, hi0, hz0, hz1', hz2'⟩ := info_parts infoS
  have HI := Lib.hid hi0
  have Z0 := Lib.hid hz0
  have Z1 := Lib.hid hz1'
  have Z2 := Lib.hid hz2'
  clear hn hM hi0 hz0 hz1' hz2'
  go_enter Tryz.func34, Tryz.ntmps34
  go_wp2_with fail
  go_loopw [6, 11] (fun o i wr => ∃ (k : Nat) (Ao : Option Addr) (c : Nat), k ≤ n ∧ i = .int .i64 k ∧ o = .slice Ao k c ∧ Hid (wr.ownsRow w.heap.size 9 1 (.slice Ao k c) k (((l.take k).map Mk.p).map Value.string)) ∧ Hid (Below w.heap.size w wr)) (fun _ i _ => n - (intOf i).toNat)
  case atStart => exact ⟨0, none, 0, Nat.zero_le _, rfl, rfl, Lib.hid (World.ownsRow_nil _ _ _ _), Lib.hid (Below.refl _ _)⟩
  case round =>
    obtain ⟨k, Ao, c, hk, rfl, rfl, HO, HB⟩ := hrel
    have hzr := HB.out.size
    by_cases hlt : k < n
    · have hkl : k < l.length := by rw [HN.out]; exact hlt
      obtain ⟨g, hA, hgW, hcl⟩ := HM.out.2 (by omega)
      subst hA
      obtain ⟨d0, d1, d2⟩ := hcl k hkl
      have c0 := (HB.out.cell (p := ⟨g, k * 3, none⟩) hgW).trans d0
      have c1 := (HB.out.cell (p := ⟨g, k * 3 + 1, none⟩) hgW).trans d1
      have c2 := (HB.out.cell (p := ⟨g, k * 3 + 2, none⟩) hgW).trans d2
      have HNX := Lib.hid (map_next (f := Mk.p) hkl)
      clear hcl d0 d1 d2
      generalize l[k] = x at *
      have a0 : (0 : Int) ≤ (k : Int) := by omega
      have a1 : (k : Int) < (n : Int) := by omega
      go_wp2_with fail
      refine (keyfn_p x _).mono ?_; rintro e w1 ⟨rfl, hb1⟩
      have B1 := Lib.hid (HB.out.trans (((Below.refl _ _).alloc (Nat.le_refl _) (.cells #[.string x.p, .string x.h, .int .i64 x.s] 59)).trans (hb1.mono (by simp)) |>.mono hzr))
      have O1 := Lib.hid (own_below (own_below HO.out ((Below.refl _ _).alloc (Nat.le_refl _) (.cells #[.string x.p, .string x.h, .int .i64 x.s] 59))) hb1)
      have hz1 := B1.out.size
      clear hb1 HO HB c0 c1 c2
      generalize x.p = y at *
      go_wp2_with (at_builtin; (refine wpList_append_lies _ rfl _ _ _ rfl w.heap.size 9 i0 _ 1 16 Tryz.underlying45 HI.out Z0.out Z1.out Z2.out rfl (by omega) (.slice Ao k c) k (((l.take k).map Mk.p).map Value.string) rfl (O1.out.alloc _) ⟨w1.heap.size, 0, none⟩ 1 1 [.string y] rfl rfl (World.news_of_block (cs := #[.string y]) (t := 9) (fr := (0, 0)) (heap_alloc_new w1 _)) (by simp [Value.oneCell']) (by omega) (by unfold maxLen; omega) (by omega) (by simp; omega) (w1.heap.size + 1) (by simp) ?_); intro gg cap' w5 hown hgrow hat hgl; (have O5 := Lib.hid (show w5.ownsRow w.heap.size 9 1 (.slice (some ⟨gg, 0, none⟩) (k + 1) cap') (k + 1) (((l.take (k + 1)).map Mk.p).map Value.string) by rw [HNX.out]; exact hown)); (have B5 := Lib.hid ((B1.out.alloc B1.out.size (.cells #[.string y] 9)).trans (grownB hgrow (fun g e => (O1.out.lt g e).1) (by have := B1.out.size; simp; omega)))); clear hown hgrow hat)
      go_roundw
      case rel => exact ⟨k + 1, _, _, by omega, by go_num, rfl, O5, B5⟩
      case measure => simp [intOf]; omega
    · have hkn : k = n := by omega
      subst hkn
      have hO := HO.out
      rw [List.take_of_length_le (by rw [HN.out]; exact Nat.le_refl _)] at hO
      have hsl : ∀ x ∈ (l.map Mk.p), x.size ≤ 1000 := fun x hx => by
        obtain ⟨m, hm, rfl⟩ := List.mem_map.1 hx
        obtain ⟨h1, h2, _⟩ := HM.out.1 m hm
        first | exact h1 | exact h2
      have HSL := Lib.hid hsl
      obtain ⟨ss, hss⟩ : ∃ ss, l.map Mk.p = ss := ⟨_, rfl⟩
      have HKS2 := Lib.hid (show dedB ss = ks by rw [← hss]; exact HKS.out)
      rw [hss] at hO HSL
      have HL := Lib.hid (show ss.length = k by rw [← hss, List.length_map, HN.out])
      have hlb : ss.length ≤ 1000 := by rw [HL.out]; exact hn2
      have O1 := Lib.hid hO
      clear hO hsl hss HO
      go_wp2_with fail
      refine (sorts_own w.heap.size k c Ao ss wr HL.out hn2 O1.out).mono ?_; rintro e w1 ⟨rfl, ho1, hb1⟩
      have O2 := Lib.hid ho1
      have B2 := Lib.hid (HB.out.trans (hb1 hzr))
      clear ho1 hb1 O1 HB
      go_wp2_with fail
      refine (compacts_own w.heap.size k c Ao ((ss.map fun x => x.data.toList).mergeSort fun x y => decide (x ≤ y)) w1 (by rw [List.length_mergeSort, List.length_map]; exact HL.out) hn2 O2.out (fun x hx => by
        rw [List.mem_mergeSort, List.mem_map] at hx
        obtain ⟨y, hy, rfl⟩ := hx
        exact HSL.out y hy)).mono ?_; rintro e w2 ⟨rfl, hs2, hb2⟩
      have hlen : (compact ((ss.map fun x => x.data.toList).mergeSort fun x y => decide (x ≤ y))).length = (dedB ss).length := by rw [← mk_bytes, List.length_map]
      rw [mk_bytes] at hs2
      have hdl := dedB_length ss
      have B3 := Lib.hid (B2.out.trans (hb2 B2.out.size |>.mono (Nat.le_refl _)))
      rw [HKS2.out] at hs2 hdl hlen
      obtain ⟨nk, hnk⟩ : ∃ nk, ks.length = nk := ⟨_, rfl⟩
      have HNK := Lib.hid hnk
      have HS2 := Lib.hid hs2
      have hnk1 : nk ≤ 1000 := by omega
      have FIN : Hid (∀ e w', NumRet ks w e w' ↔ ∃ (A : Option Addr) (c M : Nat), e = .returned (.tuple #[.slice A nk c, .map (some M)]) ∧ SL w' A ks ∧ (∀ b, A = some ⟨b, 0, none⟩ → w.heap.size ≤ b ∧ b < w'.heap.size) ∧ w.heap.size ≤ M ∧ M < w'.heap.size ∧ NS w' M ks ∧ Below w.heap.size w w') := Lib.hid (fun e w' => by unfold NumRet; rw [hnk])
      rw [hnk] at hlen
      rw [hlen]
      have HAB := Lib.hid (show ∀ b, Ao = some ⟨b, 0, none⟩ → w.heap.size ≤ b ∧ b < w2.heap.size from fun b e => by
        have h1 := O2.out.lt b (by rw [e]; rfl)
        exact ⟨h1.1, Nat.lt_of_lt_of_le h1.2 (hb2 B2.out.size).size⟩)
      clear hs2 hb2 hdl hnk hlen O2 B2
      go_wp2_with fail
      refine (ofs_walk Ao nk c ks w2 HNK.out hnk1 HS2.out).mono ?_; rintro e w3 ⟨M, rfl, hM1, hN, hb3⟩
      have B4 := Lib.hid (B3.out.trans (hb3.mono B3.out.size))
      have S4 := Lib.hid (show SL w3 Ao ks from HS2.out.below hb3)
      have N4 := Lib.hid hN
      have hM2 : w.heap.size ≤ M := Nat.le_trans B3.out.size hM1
      have hM3 := hN.lt
      have HAB4 := Lib.hid (show ∀ b, Ao = some ⟨b, 0, none⟩ → w.heap.size ≤ b ∧ b < w3.heap.size from fun b e => ⟨(HAB.out b e).1, Nat.lt_of_lt_of_le (HAB.out b e).2 hb3.size⟩)
      clear hN hb3 HS2 HAB
      go_wp2_with fail
      go_ret2
      exact (FIN.out _ _).2 ⟨Ao, c, M, rfl, S4.out, HAB4.out, hM2, hM3, N4.out, B4.out⟩

theorem keyfn_h (x : Mk) (w : World) : Calls Tryz.prog 36 #[.agg #[.string x.p, .string x.h, .int .i64 x.s]] w fun e w' => e = .returned (.string x.h) ∧ Below w.heap.size w w' := by
  go_enter Tryz.func36, Tryz.ntmps36
  go_wp2
  go_ret
  exact ⟨rfl, (Below.refl _ _).alloc (Nat.le_refl _) _⟩
set_option maxRecDepth 100000 in
set_option maxHeartbeats 4000000 in
theorem numbered_h (A : Option Addr) (n cap : Nat) (l : List Mk) (w : World) (hn : l.length = n) (hn2 : n ≤ 1000) (hM : ML w A l) :
    Calls Tryz.prog 34 #[.slice A n cap, .func (.func 36) #[] #[]] w (NumRet (dedB (l.map Mk.h)) w) := by
  obtain ⟨ks, hks⟩ : ∃ ks, dedB (l.map Mk.h) = ks := ⟨_, rfl⟩
  rw [hks]
  have HKS := Lib.hid hks
  clear hks
  have HN := Lib.hid hn
  have HM := Lib.hid hM
  obtain ⟨i0, hi0, hz0, hz1', hz2'⟩ := info_parts infoS
  have HI := Lib.hid hi0
  have Z0 := Lib.hid hz0
  have Z1 := Lib.hid hz1'
  have Z2 := Lib.hid hz2'
  clear hn hM hi0 hz0 hz1' hz2'
  go_enter Tryz.func34, Tryz.ntmps34
  go_wp2_with fail
  go_loopw [6, 11] (fun o i wr => ∃ (k : Nat) (Ao : Option Addr) (c : Nat), k ≤ n ∧ i = .int .i64 k ∧ o = .slice Ao k c ∧ Hid (wr.ownsRow w.heap.size 9 1 (.slice Ao k c) k (((l.take k).map Mk.h).map Value.string)) ∧ Hid (Below w.heap.size w wr)) (fun _ i _ => n - (intOf i).toNat)
  case atStart => exact ⟨0, none, 0, Nat.zero_le _, rfl, rfl, Lib.hid (World.ownsRow_nil _ _ _ _), Lib.hid (Below.refl _ _)⟩
  case round =>
    obtain ⟨k, Ao, c, hk, rfl, rfl, HO, HB⟩ := hrel
    have hzr := HB.out.size
    by_cases hlt : k < n
    · have hkl : k < l.length := by rw [HN.out]; exact hlt
      obtain ⟨g, hA, hgW, hcl⟩ := HM.out.2 (by omega)
      subst hA
      obtain ⟨d0, d1, d2⟩ := hcl k hkl
      have c0 := (HB.out.cell (p := ⟨g, k * 3, none⟩) hgW).trans d0
      have c1 := (HB.out.cell (p := ⟨g, k * 3 + 1, none⟩) hgW).trans d1
      have c2 := (HB.out.cell (p := ⟨g, k * 3 + 2, none⟩) hgW).trans d2
      have HNX := Lib.hid (map_next (f := Mk.h) hkl)
      clear hcl d0 d1 d2
      generalize l[k] = x at *
      have a0 : (0 : Int) ≤ (k : Int) := by omega
      have a1 : (k : Int) < (n : Int) := by omega
      go_wp2_with fail
      refine (keyfn_h x _).mono ?_; rintro e w1 ⟨rfl, hb1⟩
      have B1 := Lib.hid (HB.out.trans (((Below.refl _ _).alloc (Nat.le_refl _) (.cells #[.string x.p, .string x.h, .int .i64 x.s] 59)).trans (hb1.mono (by simp)) |>.mono hzr))
      have O1 := Lib.hid (own_below (own_below HO.out ((Below.refl _ _).alloc (Nat.le_refl _) (.cells #[.string x.p, .string x.h, .int .i64 x.s] 59))) hb1)
      have hz1 := B1.out.size
      clear hb1 HO HB c0 c1 c2
      generalize x.h = y at *
      go_wp2_with (at_builtin; (refine wpList_append_lies _ rfl _ _ _ rfl w.heap.size 9 i0 _ 1 16 Tryz.underlying45 HI.out Z0.out Z1.out Z2.out rfl (by omega) (.slice Ao k c) k (((l.take k).map Mk.h).map Value.string) rfl (O1.out.alloc _) ⟨w1.heap.size, 0, none⟩ 1 1 [.string y] rfl rfl (World.news_of_block (cs := #[.string y]) (t := 9) (fr := (0, 0)) (heap_alloc_new w1 _)) (by simp [Value.oneCell']) (by omega) (by unfold maxLen; omega) (by omega) (by simp; omega) (w1.heap.size + 1) (by simp) ?_); intro gg cap' w5 hown hgrow hat hgl; (have O5 := Lib.hid (show w5.ownsRow w.heap.size 9 1 (.slice (some ⟨gg, 0, none⟩) (k + 1) cap') (k + 1) (((l.take (k + 1)).map Mk.h).map Value.string) by rw [HNX.out]; exact hown)); (have B5 := Lib.hid ((B1.out.alloc B1.out.size (.cells #[.string y] 9)).trans (grownB hgrow (fun g e => (O1.out.lt g e).1) (by have := B1.out.size; simp; omega)))); clear hown hgrow hat)
      go_roundw
      case rel => exact ⟨k + 1, _, _, by omega, by go_num, rfl, O5, B5⟩
      case measure => simp [intOf]; omega
    · have hkn : k = n := by omega
      subst hkn
      have hO := HO.out
      rw [List.take_of_length_le (by rw [HN.out]; exact Nat.le_refl _)] at hO
      have hsl : ∀ x ∈ (l.map Mk.h), x.size ≤ 1000 := fun x hx => by
        obtain ⟨m, hm, rfl⟩ := List.mem_map.1 hx
        obtain ⟨h1, h2, _⟩ := HM.out.1 m hm
        first | exact h1 | exact h2
      have HSL := Lib.hid hsl
      obtain ⟨ss, hss⟩ : ∃ ss, l.map Mk.h = ss := ⟨_, rfl⟩
      have HKS2 := Lib.hid (show dedB ss = ks by rw [← hss]; exact HKS.out)
      rw [hss] at hO HSL
      have HL := Lib.hid (show ss.length = k by rw [← hss, List.length_map, HN.out])
      have hlb : ss.length ≤ 1000 := by rw [HL.out]; exact hn2
      have O1 := Lib.hid hO
      clear hO hsl hss HO
      go_wp2_with fail
      refine (sorts_own w.heap.size k c Ao ss wr HL.out hn2 O1.out).mono ?_; rintro e w1 ⟨rfl, ho1, hb1⟩
      have O2 := Lib.hid ho1
      have B2 := Lib.hid (HB.out.trans (hb1 hzr))
      clear ho1 hb1 O1 HB
      go_wp2_with fail
      refine (compacts_own w.heap.size k c Ao ((ss.map fun x => x.data.toList).mergeSort fun x y => decide (x ≤ y)) w1 (by rw [List.length_mergeSort, List.length_map]; exact HL.out) hn2 O2.out (fun x hx => by
        rw [List.mem_mergeSort, List.mem_map] at hx
        obtain ⟨y, hy, rfl⟩ := hx
        exact HSL.out y hy)).mono ?_; rintro e w2 ⟨rfl, hs2, hb2⟩
      have hlen : (compact ((ss.map fun x => x.data.toList).mergeSort fun x y => decide (x ≤ y))).length = (dedB ss).length := by rw [← mk_bytes, List.length_map]
      rw [mk_bytes] at hs2
      have hdl := dedB_length ss
      have B3 := Lib.hid (B2.out.trans (hb2 B2.out.size |>.mono (Nat.le_refl _)))
      rw [HKS2.out] at hs2 hdl hlen
      obtain ⟨nk, hnk⟩ : ∃ nk, ks.length = nk := ⟨_, rfl⟩
      have HNK := Lib.hid hnk
      have HS2 := Lib.hid hs2
      have hnk1 : nk ≤ 1000 := by omega
      have FIN : Hid (∀ e w', NumRet ks w e w' ↔ ∃ (A : Option Addr) (c M : Nat), e = .returned (.tuple #[.slice A nk c, .map (some M)]) ∧ SL w' A ks ∧ (∀ b, A = some ⟨b, 0, none⟩ → w.heap.size ≤ b ∧ b < w'.heap.size) ∧ w.heap.size ≤ M ∧ M < w'.heap.size ∧ NS w' M ks ∧ Below w.heap.size w w') := Lib.hid (fun e w' => by unfold NumRet; rw [hnk])
      rw [hnk] at hlen
      rw [hlen]
      have HAB := Lib.hid (show ∀ b, Ao = some ⟨b, 0, none⟩ → w.heap.size ≤ b ∧ b < w2.heap.size from fun b e => by
        have h1 := O2.out.lt b (by rw [e]; rfl)
        exact ⟨h1.1, Nat.lt_of_lt_of_le h1.2 (hb2 B2.out.size).size⟩)
      clear hs2 hb2 hdl hnk hlen O2 B2
      go_wp2_with fail
      refine (ofs_walk Ao nk c ks w2 HNK.out hnk1 HS2.out).mono ?_; rintro e w3 ⟨M, rfl, hM1, hN, hb3⟩
      have B4 := Lib.hid (B3.out.trans (hb3.mono B3.out.size))
      have S4 := Lib.hid (show SL w3 Ao ks from HS2.out.below hb3)
      have N4 := Lib.hid hN
      have hM2 : w.heap.size ≤ M := Nat.le_trans B3.out.size hM1
      have hM3 := hN.lt
      have HAB4 := Lib.hid (show ∀ b, Ao = some ⟨b, 0, none⟩ → w.heap.size ≤ b ∧ b < w3.heap.size from fun b e => ⟨(HAB.out b e).1, Nat.lt_of_lt_of_le (HAB.out b e).2 hb3.size⟩)
      clear hN hb3 HS2 HAB
      go_wp2_with fail
      go_ret2
      exact (FIN.out _ _).2 ⟨Ao, c, M, rfl, S4.out, HAB4.out, hM2, hM3, N4.out, B4.out⟩
end Go.Proofs.YthhiefpickpiaaaGreatDoor.Cal
