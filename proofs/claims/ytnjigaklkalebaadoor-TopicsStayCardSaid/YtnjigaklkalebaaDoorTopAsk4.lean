/-
  THE CONTRACTS OF Above AND Below.
-/
import Derived.Test.YtnjigaklkalebaaDoorTopAsk3
namespace Go.Proofs.YtnjigaklkalebaaDoor.For
open Go.ChangeShapes Go.WideShapes Go.ChangeAt Go.RowKit Stm Key
set_option linter.unusedVariables false

theorem infoS : (Tryd.prog.info? 9).map (fun i => (i.zero, i.size, i.bytes)) = some (some (.string ⟨#[]⟩), 1, 16) := by kernel_rfl
theorem row_sl {w : World} {base n cap : Nat} {A : Option Addr} {ss : List ByteArray} (h : w.ownsRow base 9 1 (.slice A n cap) n (ss.map Value.string)) (L : ss.length = n) (hsz : ∀ x ∈ ss, x.size ≤ 1000) : SL w A ss := by
  refine ⟨hsz, fun h0 => ?_⟩
  obtain ⟨g, cap', hv, _, hlt⟩ := h.form (by omega)
  have hA : A = some ⟨g, 0, none⟩ := by injection hv
  subst hA
  refine ⟨g, rfl, hlt, fun i hi => ?_⟩
  have e1 := h.cells (g := g) rfl i (.string ss[i]) (by simp [List.getElem?_eq_getElem hi])
  rw [row_add] at e1
  exact e1
/-- A slice of strings that was made. -/
def StrsRet (r : Int) (Q : List ByteArray → Prop) (w : World) (e : Ending) (w' : World) : Prop := ∃ (A : Option Addr) (m c : Nat) (ss : List ByteArray), e = .returned (.tuple #[.slice A m c, .int .i64 r]) ∧ ss.length = m ∧ m ≤ 1000 ∧ m ≤ c ∧ SL w' A ss ∧ (r = 0 → Q ss) ∧ Below w.heap.size w w'
/-- New memory: the list is nil, or lies at the head of a block that is new, whole, and may be written. -/
def NB (w w' : World) (A : Option Addr) (m S : Nat) (T : TypeId) : Prop := (A = none ∧ m = 0) ∨ ∃ g cs, A = some ⟨g, 0, none⟩ ∧ w.heap.size ≤ g ∧ Blk w' g T cs ∧ m * S ≤ cs.size
theorem row_nb {w0 w : World} {base n cap : Nat} {E S : Nat} {A : Option Addr} {xs : List Value} (h : w.ownsRow base E S (.slice A n cap) n xs) (hB : w0.heap.size ≤ base) : NB w0 w A n S E := by
  rcases h.2 with ⟨e, e2⟩ | ⟨g, cap', cur, e, hb, hg, hnc, _, hcs, _⟩
  · injection e with e1; exact Or.inl ⟨e1, e2⟩
  · injection e with e1 _ e3
    exact Or.inr ⟨g, cur, e1, Nat.le_trans hB hb, hg, by rw [hcs]; exact Nat.mul_le_mul_right _ hnc⟩
def StrsRet2 (r : Int) (Q : List ByteArray → Prop) (w : World) (e : Ending) (w' : World) : Prop := ∃ (A : Option Addr) (m c : Nat) (ss : List ByteArray), e = .returned (.tuple #[.slice A m c, .int .i64 r]) ∧ ss.length = m ∧ m ≤ 1000 ∧ m ≤ c ∧ SL w' A ss ∧ (r = 0 → Q ss) ∧ Below w.heap.size w w' ∧ NB w w' A m 1 9
theorem StrsRet2.old {r : Int} {Q : List ByteArray → Prop} {w : World} {e : Ending} {w' : World} (h : StrsRet2 r Q w e w') : StrsRet r Q w e w' := by
  obtain ⟨A, m, c, ss, h1, h2, h3, h4, h5, h6, h7, _⟩ := h
  exact ⟨A, m, c, ss, h1, h2, h3, h4, h5, h6, h7⟩
theorem keysOf_le {l : List Tp} (h : ∀ x ∈ l, x.k.size ≤ 1000 ∧ x.a.size ≤ 1000) (W : List Int) : ∀ s ∈ keysOf l W, s.size ≤ 1000 := by
  intro s hs
  obtain ⟨j, hj, rfl⟩ := List.mem_map.1 hs
  show (l.getD j.toNat ⟨⟨#[]⟩, ⟨#[]⟩⟩).k.size ≤ 1000
  rcases Nat.lt_or_ge j.toNat l.length with h1 | h1
  · simp only [List.getD, List.getElem?_eq_getElem h1, Option.getD_some]; exact (h _ (List.getElem_mem h1)).1
  · simp [List.getD, List.getElem?_eq_none h1]; decide
theorem keysOf_next {l : List Tp} {W : List Int} {k : Nat} (h : k < W.length) {q : Nat} (hq : W[k] = q) (hl : q < l.length) : (keysOf l W).take (k + 1) = (keysOf l W).take k ++ [l[q].k] := by
  have hk : k < (keysOf l W).length := by simp [keysOf]; exact h
  rw [take_next _ _ hk]
  congr 1
  simp [keysOf, hq, List.getD, List.getElem?_eq_getElem hl]

set_option maxRecDepth 100000 in
set_option maxHeartbeats 8000000 in
theorem abovef_new (A : Option Addr) (n cap : Nat) (l : List Tp) (a : ByteArray) (w : World) (hn : l.length = n) (hn2 : n ≤ 1000) (hS : TL w A l) (ha : a.size ≤ 1000) (r : Int) (hr : Hid (askE l a a = r)) :
    Calls Tryd.prog 9 #[.slice A n cap, .string a] w (StrsRet2 r (fun ss => ∃ i, lk l a = some i ∧ ss = keysOf l (way (pars l) (i : Nat))) w) := by
  have HTW := Lib.hid (twoof_walk A n cap l a a w hn hn2 hS ha ha r hr)
  have HL := Lib.hid hn
  have HS := Lib.hid hS
  clear hn hS hr
  go_enter Tryd.func9, Tryd.ntmps9
  go_wp2_with fail
  refine (HTW.out).mono ?_; rintro e w1 ⟨F, i, j, hor, hb1⟩
  have B1 := Lib.hid hb1
  have hz1 := hb1.size
  clear hb1
  rcases hor with ⟨h0, rfl⟩ | ⟨rfl, rfl, hfe, hi, hj, hFM⟩
  · have H0 := Lib.hid h0
    have hbb : (r != 0) = true := by rw [bne_iff_ne]; exact h0
    clear h0
    go_wp2_with fail
    go_ret2
    exact ⟨none, 0, 0, [], rfl, rfl, by omega, by omega, ⟨by simp, fun h => absurd h (by simp)⟩, fun h => absurd h H0.out, B1.out, Or.inl ⟨rfl, rfl⟩⟩
  · obtain ⟨_, _, _, hlo, hdp⟩ := forest_parts hfe
    have hNL := NL_of hlo
    obtain ⟨hil, _⟩ := lk_some l a i hi
    have hl := HL.out
    have hpn : (pars l).length = n := by rw [pars_len]; exact hl
    obtain ⟨M, g, D, cd, k1, k2, k3, k4⟩ := hFM
    have x2 : w1.cell? ⟨F, 2, none⟩ = some (.slice (some ⟨g, 0, none⟩) n n) := k1.cell 2 _ rfl
    have HPW := Lib.hid (path_walk (some ⟨g, 0, none⟩) n n (pars l) i w1 hpn hn2 k3 (pars_good l) (by omega) (by omega) (by have := hNL i (by omega); rwa [hpn] at this) (way (pars l) i) (Lib.hid (by unfold way; rw [hpn])))
    have HRG := Lib.hid (fun x (hx : x ∈ way (pars l) (i : Int)) => way_range (pars_good l) (p := i) (by omega) (by omega) hx)
    have HKL := Lib.hid (keysOf_le HS.out.1 (way (pars l) (i : Int)))
    have HI := Lib.hid hi
    obtain ⟨bl, hA, hbl, hcells⟩ := HS.out.2 (by omega)
    have HCL := Lib.hid hcells
    generalize hW : way (pars l) (i : Int) = W at *
    have HWW := Lib.hid hW
    have HPN := Lib.hid hpn
    subst hA
    clear hfe hi hj k1 k2 k3 k4 hlo hdp hNL hW hcells hpn hl
    go_wp2_with fail
    refine (HPW.out).mono ?_; rintro e w2 ⟨A1, m1, c1, rfl, hm, hmn, hown, hb2⟩
    have B2 := Lib.hid (B1.out.trans (hb2.mono hz1))
    have hz2 := B2.out.size
    have IL2 := Lib.hid (row_il hown hm)
    have HM := Lib.hid hm
    clear hb2 hown hm x2
    go_wp2_with fail
    go_loopw [10, 32] (fun out kk wr => ∃ (k : Nat) (Ao : Option Addr) (c : Nat), k ≤ m1 ∧ kk = .int .i64 k ∧ out = .slice Ao k c ∧ Hid (wr.ownsRow w2.heap.size 9 1 (.slice Ao k c) k (((keysOf l W).take k).map Value.string)) ∧ Hid (Below w2.heap.size w2 wr)) (fun _ kk _ => m1 - (intOf kk).toNat)
    case atStart => exact ⟨0, none, 0, Nat.zero_le _, rfl, rfl, Lib.hid (World.ownsRow_nil _ _ _ _), Lib.hid (Below.refl _ _)⟩
    case round =>
      obtain ⟨k, Ao, c, hk, rfl, rfl, HO, HB⟩ := hrel
      by_cases hlt : k < m1
      · have hkW : k < W.length := by have := HM.out; omega
        obtain ⟨b1, hA1, hb1l, hc1⟩ := IL2.out (by omega)
        have d1 := (HB.out.cell (p := ⟨b1, k, none⟩) hb1l).trans (hc1 k hkW)
        have hrg := HRG.out W[k] (List.getElem_mem hkW)
        obtain ⟨q, hq⟩ : ∃ q : Nat, W[k] = q := ⟨W[k].toNat, by omega⟩
        have hql : q < l.length := by have := HPN.out; rw [hq, pars_len] at hrg; omega
        have HNX := Lib.hid (keysOf_next (l := l) hkW hq hql)
        have d2 := (B2.out.trans (HB.out.mono hz2)).cell (p := ⟨bl, q * 2, none⟩) hbl
        rw [(HCL.out q hql).1] at d2
        rw [hq] at d1
        generalize l[q] = x at *
        have q0 : (0 : Int) ≤ (q : Int) := by omega
        have q1 : (q : Int) < (n : Int) := by have := HL.out; omega
        obtain ⟨i0, hi0, hz0, hz1', hz2'⟩ := info_parts infoS
        have HI0 := Lib.hid hi0
        have Z0 := Lib.hid hz0
        have Z1 := Lib.hid hz1'
        have Z2 := Lib.hid hz2'
        have hzr := HB.out.size
        subst hA1
        clear hi0 hz0 hz1' hz2' hc1 hq hrg hb1l
        go_wp2_with (at_builtin; (refine wpList_append_lies _ rfl _ _ _ rfl w2.heap.size 9 i0 _ 1 16 Tryd.underlying39 HI0.out Z0.out Z1.out Z2.out rfl (by omega) (.slice Ao k c) k (((keysOf l W).take k).map Value.string) rfl (HO.out.alloc _) ⟨wr.heap.size, 0, none⟩ 1 1 [.string x.k] rfl rfl (World.news_of_block (cs := #[.string x.k]) (t := 9) (fr := (0, 0)) (heap_alloc_new wr _)) (by simp [Value.oneCell']) (by omega) (by unfold maxLen; omega) (by omega) (by simp; omega) (wr.heap.size + 1) (by simp) ?_); intro gg cap' w5 hown hgrow hat hgl; (have O5 := Lib.hid (show w5.ownsRow w2.heap.size 9 1 (.slice (some ⟨gg, 0, none⟩) (k + 1) cap') (k + 1) (((keysOf l W).take (k + 1)).map Value.string) by rw [HNX.out, List.map_append]; exact hown)); (have B5 := Lib.hid ((HB.out.alloc HB.out.size (.cells #[.string x.k] 9)).trans (grown_below hgrow (fun g e => (HO.out.lt g e).1) (by simp; omega)))); clear hown hgrow hat)
        go_roundw
        case rel => exact ⟨k + 1, some ⟨gg, 0, none⟩, cap', by omega, by go_num, rfl, O5, B5⟩
        case measure => simp [intOf]; omega
      · have hkm : k = m1 := by omega
        subst hkm
        have hlen : (keysOf l W).length = k := by simp [keysOf]; exact HM.out
        have htk : (keysOf l W).take k = keysOf l W := by rw [← hlen, List.take_length]
        have O6 := HO.out
        rw [htk] at O6
        have FIN := Lib.hid (show StrsRet2 0 (fun ss => ∃ i, lk l a = some i ∧ ss = keysOf l (way (pars l) (i : Nat))) w (.returned (.tuple #[.slice Ao k c, .int .i64 0])) wr from
          ⟨Ao, k, c, keysOf l W, rfl, hlen, by omega, row_cap O6, row_sl O6 hlen HKL.out, fun _ => ⟨i, HI.out, by rw [HWW.out]⟩, B2.out.trans (HB.out.mono hz2), row_nb O6 hz2⟩)
        clear hlen htk O6
        go_wp2_with fail
        go_ret2
        exact FIN.out

/-- The keys of the first k topics that are below (or are) one. -/
def belS (l : List Tp) (top k : Nat) : List ByteArray := ((List.range k).filter (fun i => (way (pars l) (i : Nat)).contains (top : Int))).map (fun i => (l.getD i ⟨⟨#[]⟩, ⟨#[]⟩⟩).k)
theorem belS_next {l : List Tp} {top k : Nat} (h : k < l.length) : belS l top (k + 1) = if (way (pars l) (k : Nat)).contains (top : Int) then belS l top k ++ [l[k].k] else belS l top k := by
  unfold belS
  rw [List.range_succ, List.filter_append, List.map_append]
  cases hc : (way (pars l) (k : Nat)).contains (top : Int) with
  | true =>
    have : [k].filter (fun i => (way (pars l) (i : Nat)).contains (top : Int)) = [k] := by rw [List.filter_cons_of_pos (by exact hc)]; rfl
    rw [this]; simp [List.getD, List.getElem?_eq_getElem h]
  | false =>
    have : [k].filter (fun i => (way (pars l) (i : Nat)).contains (top : Int)) = [] := by rw [List.filter_cons_of_neg (by rw [hc]; simp)]; rfl
    rw [this]; simp
theorem belS_len (l : List Tp) (top k : Nat) : (belS l top k).length ≤ k := by
  unfold belS; rw [List.length_map]; exact Nat.le_trans (List.length_filter_le _ _) (by simp)
theorem belS_le {l : List Tp} (h : ∀ x ∈ l, x.k.size ≤ 1000 ∧ x.a.size ≤ 1000) (top k : Nat) : ∀ s ∈ belS l top k, s.size ≤ 1000 := by
  intro s hs
  obtain ⟨j, hj, rfl⟩ := List.mem_map.1 hs
  rcases Nat.lt_or_ge j l.length with h1 | h1
  · simp only [List.getD, List.getElem?_eq_getElem h1, Option.getD_some]; exact (h _ (List.getElem_mem h1)).1
  · simp [List.getD, List.getElem?_eq_none h1]; decide

set_option maxRecDepth 100000 in
set_option maxHeartbeats 8000000 in
theorem belowf_new (A : Option Addr) (n cap : Nat) (l : List Tp) (a : ByteArray) (w : World) (hn : l.length = n) (hn2 : n ≤ 1000) (hS : TL w A l) (ha : a.size ≤ 1000) (r : Int) (hr : Hid (askE l a a = r)) :
    Calls Tryd.prog 10 #[.slice A n cap, .string a] w (StrsRet2 r (fun ss => ∃ i, lk l a = some i ∧ ss = belS l i l.length) w) := by
  have HTW := Lib.hid (twoof_walk A n cap l a a w hn hn2 hS ha ha r hr)
  have HL := Lib.hid hn
  have HS := Lib.hid hS
  clear hn hS hr
  go_enter Tryd.func10, Tryd.ntmps10
  go_wp2_with fail
  refine (HTW.out).mono ?_; rintro e w1 ⟨F, i, j, hor, hb1⟩
  have B1 := Lib.hid hb1
  have hz1 := hb1.size
  clear hb1
  rcases hor with ⟨h0, rfl⟩ | ⟨rfl, rfl, hfe, hi, hj, hFM⟩
  · have H0 := Lib.hid h0
    have hbb : (r != 0) = true := by rw [bne_iff_ne]; exact h0
    clear h0
    go_wp2_with fail
    go_ret2
    exact ⟨none, 0, 0, [], rfl, rfl, by omega, by omega, ⟨by simp, fun h => absurd h (by simp)⟩, fun h => absurd h H0.out, B1.out, Or.inl ⟨rfl, rfl⟩⟩
  · obtain ⟨_, _, _, hlo, hdp⟩ := forest_parts hfe
    have hNL := NL_of hlo
    obtain ⟨hil, _⟩ := lk_some l a i hi
    have hl := HL.out
    have hpn : (pars l).length = n := by rw [pars_len]; exact hl
    obtain ⟨M, g, D, cd, k1, k2, k3, k4⟩ := hFM
    have K1 := Lib.hid k1
    have hFlt := k1.lt
    have HIW := Lib.hid (fun (W : World) (hW : Below w1.heap.size w1 W) (b : Nat) (hb : b < n) => inside_walk g n (pars l) b i W hpn hn2 (k3.below hW) (pars_good l) hNL hb _ (Lib.hid rfl))
    have HI := Lib.hid hi
    obtain ⟨bl, hA, hbl, hcells⟩ := HS.out.2 (by omega)
    have HCL := Lib.hid hcells
    subst hA
    clear hfe hi hj k1 k2 k3 k4 hlo hdp hNL hcells hpn hl
    go_wp2_with fail
    go_loopw [10, 27] (fun out kk wr => ∃ (k m c : Nat) (Ao : Option Addr), k ≤ n ∧ kk = .int .i64 k ∧ out = .slice Ao m c ∧ (belS l i k).length = m ∧ Hid (wr.ownsRow w1.heap.size 9 1 (.slice Ao m c) m ((belS l i k).map Value.string)) ∧ Hid (Below w1.heap.size w1 wr)) (fun _ kk _ => n - (intOf kk).toNat)
    case atStart => exact ⟨0, 0, 0, none, Nat.zero_le _, rfl, rfl, rfl, Lib.hid (World.ownsRow_nil _ _ _ _), Lib.hid (Below.refl _ _)⟩
    case round =>
      obtain ⟨k, m, c, Ao, hk, rfl, rfl, hm, HO, HB⟩ := hrel
      have HM := Lib.hid hm
      have hmk : m ≤ k := by have := belS_len l i k; omega
      clear hm
      by_cases hlt : k < n
      · have hkl : k < l.length := by have := HL.out; omega
        have d2 := (B1.out.trans (HB.out.mono hz1)).cell (p := ⟨bl, k * 2, none⟩) hbl
        rw [(HCL.out k hkl).1] at d2
        have d3 := (B1.out.trans (HB.out.mono hz1)).cell (p := ⟨bl, k * 2 + 1, none⟩) hbl
        rw [(HCL.out k hkl).2] at d3
        have HNX := Lib.hid (belS_next (l := l) (top := i) hkl)
        have x2 : wr.cell? ⟨F, 2, none⟩ = some (.slice (some ⟨g, 0, none⟩) n n) := (HB.out.cell (p := ⟨F, 2, none⟩) hFlt).trans (K1.out.cell 2 _ rfl)
        generalize l[k] = x at *
        have hzr := HB.out.size
        have hFw : F < wr.heap.size := by omega
        have B2 := Lib.hid (HB.out.alloc HB.out.size (.cells #[.string x.k, .string x.a] 38))
        have HIK := Lib.hid (HIW.out _ B2.out k hlt)
        have hk0 := (Blk.new wr 38 #[.string x.k, .string x.a])
        have K2 := Lib.hid hk0
        clear hk0
        generalize (way (pars l) (k : Nat)).contains (i : Int) = ct at *
        go_wp2_with fail
        refine (HIK.out).mono ?_; rintro e w3 ⟨rfl, hb3⟩
        have B3 := Lib.hid (B2.out.trans (hb3.mono B2.out.size))
        have O3 := Lib.hid (own_below (own_below HO.out ((Below.refl _ _).alloc (Nat.le_refl _) (.cells #[.string x.k, .string x.a] 38))) hb3)
        have K3 := Lib.hid (K2.out.below hb3 (by simp))
        have hz3 := B3.out.size
        clear hb3 B2 K2 HIK d2 d3 x2
        cases ct
        · have HNF := Lib.hid (show belS l i (k + 1) = belS l i k from HNX.out)
          go_wp2_with fail
          go_roundw
          case rel => exact ⟨k + 1, m, c, Ao, by omega, by go_num, rfl, by rw [HNF.out]; exact HM.out, by rw [HNF.out]; exact O3, B3⟩
          case measure => simp [intOf]; omega
        · have HNT := Lib.hid (show belS l i (k + 1) = belS l i k ++ [x.k] from HNX.out)
          have d2 : w3.cell? ⟨wr.heap.size, 0, none⟩ = some (.string x.k) := K3.out.cell 0 _ rfl
          obtain ⟨i0, hi0, hz0, hz1', hz2'⟩ := info_parts infoS
          have HI0 := Lib.hid hi0
          have Z0 := Lib.hid hz0
          have Z1 := Lib.hid hz1'
          have Z2 := Lib.hid hz2'
          clear hi0 hz0 hz1' hz2'
          go_wp2_with (at_builtin; (refine wpList_append_lies _ rfl _ _ _ rfl w1.heap.size 9 i0 _ 1 16 Tryd.underlying39 HI0.out Z0.out Z1.out Z2.out rfl (by omega) (.slice Ao m c) m ((belS l i k).map Value.string) rfl (O3.out.alloc _) ⟨w3.heap.size, 0, none⟩ 1 1 [.string x.k] rfl rfl (World.news_of_block (cs := #[.string x.k]) (t := 9) (fr := (0, 0)) (heap_alloc_new w3 _)) (by simp [Value.oneCell']) (by omega) (by unfold maxLen; omega) (by omega) (by simp; omega) (w3.heap.size + 1) (by simp) ?_); intro gg cap' w5 hown hgrow hat hgl; (have O5 := Lib.hid (show w5.ownsRow w1.heap.size 9 1 (.slice (some ⟨gg, 0, none⟩) (m + 1) cap') (m + 1) ((belS l i (k + 1)).map Value.string) by rw [HNT.out, List.map_append]; exact hown)); (have B5 := Lib.hid ((B3.out.alloc B3.out.size (.cells #[.string x.k] 9)).trans (grown_below hgrow (fun g e => (O3.out.lt g e).1) (by simp; omega)))); clear hown hgrow hat)
          go_roundw
          case rel => exact ⟨k + 1, m + 1, cap', some ⟨gg, 0, none⟩, by omega, by go_num, rfl, by rw [HNT.out, List.length_append, HM.out]; rfl, O5, B5⟩
          case measure => simp [intOf]; omega
      · have hkn : k = n := by omega
        subst hkn
        have hll := HL.out
        have FIN := Lib.hid (show StrsRet2 0 (fun ss => ∃ i, lk l a = some i ∧ ss = belS l i l.length) w (.returned (.tuple #[.slice Ao m c, .int .i64 0])) wr from
          ⟨Ao, m, c, belS l i k, rfl, HM.out, by omega, row_cap HO.out, row_sl HO.out HM.out (belS_le HS.out.1 i k), fun _ => ⟨i, HI.out, by rw [hll]⟩, B1.out.trans (HB.out.mono hz1), row_nb HO.out hz1⟩)
        clear hll
        go_wp2_with fail
        go_ret2
        exact FIN.out
theorem abovef_walk (A : Option Addr) (n cap : Nat) (l : List Tp) (a : ByteArray) (w : World) (hn : l.length = n) (hn2 : n ≤ 1000) (hS : TL w A l) (ha : a.size ≤ 1000) (r : Int) (hr : Hid (askE l a a = r)) :
    Calls Tryd.prog 9 #[.slice A n cap, .string a] w (StrsRet r (fun ss => ∃ i, lk l a = some i ∧ ss = keysOf l (way (pars l) (i : Nat))) w) := (abovef_new A n cap l a w hn hn2 hS ha r hr).mono fun _ _ h => h.old
theorem belowf_walk (A : Option Addr) (n cap : Nat) (l : List Tp) (a : ByteArray) (w : World) (hn : l.length = n) (hn2 : n ≤ 1000) (hS : TL w A l) (ha : a.size ≤ 1000) (r : Int) (hr : Hid (askE l a a = r)) :
    Calls Tryd.prog 10 #[.slice A n cap, .string a] w (StrsRet r (fun ss => ∃ i, lk l a = some i ∧ ss = belS l i l.length) w) := (belowf_new A n cap l a w hn hn2 hS ha r hr).mono fun _ _ h => h.old
end Go.Proofs.YtnjigaklkalebaaDoor.For
