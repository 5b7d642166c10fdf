/-
  MARKS: the mean of a paper: marks.Mean, (*table).marked, ofPaper, Mean; committeekeep1.scores.
-/
import Derived.Test.YthhiefpickpiaaaGreatDoorCalT
import Derived.Test.YthhiefpickpiaaaGreatDoorCalU
import Derived.Maps.OwnSet
namespace Go.Proofs.YthhiefpickpiaaaGreatDoor.Cal
open Go.ChangeShapes Go.WideShapes Go.ChangeAt Go.RowKit Stm Key
set_option linter.unusedVariables false

set_option maxHeartbeats 1000000 in
theorem marked_in (T : Nat) (l : List Mk) (s : ByteArray) (w : World) (hT : Tab w T l) (hs : s ∈ papersL l) (hz : s.size ≤ 1000) :
    Calls Tryz.prog 54 #[.pointer (some ⟨T, 0, none⟩), .string s] w fun e w' => e = .returned (.tuple #[.int .i64 (idx (papersL l) s), .int .i64 0]) ∧ w' = w := by
  obtain ⟨P, H, cP, cH, MP, MH, bo, bb, v, h1, h2, h3, h4, h5, h6, h7, h8⟩ := hT
  have t2 := h1.cell 2 _ rfl
  obtain ⟨ks, hks⟩ : ∃ ks, papersL l = ks := ⟨_, rfl⟩
  rw [hks] at h4 hs ⊢
  have hd : ks.Nodup := by rw [← hks]; exact dedB_nodup _
  obtain ⟨hi, e1⟩ := idx_at hs
  have hat2 := numS_at ks hd (.lit (.int .i64 0)) ks.length (idx ks s) (Nat.le_refl _) hi
  rw [e1] at hat2
  obtain ⟨q, hq⟩ : ∃ q, idx ks s = q := ⟨_, rfl⟩
  rw [hq] at hat2 ⊢
  have HAT := Lib.hid hat2.1
  have HHAS := Lib.hid hat2.2
  obtain ⟨D, hD⟩ : ∃ D, numS ks ks.length = D := ⟨_, rfl⟩
  have hO : w.ownsMap Tryz.prog 9 (plainElem Tryz.prog 3) MP ks.length (numS ks ks.length) := h4
  rw [hD] at hO HAT HHAS
  have HO := Lib.hid hO
  have HKEY := Lib.hid (show keyOf Tryz.prog 9 (.string s) = some (.string s.data.toList) from Go.WideMaps.keyOf_string_mk Tryz.underlying9 (by unfold maxLen; omega))
  clear h1 h2 h3 h4 h5 h6 h7 h8 hs hd hi e1 hat2 hq hD hO hks
  go_enter Tryz.func54, Tryz.ntmps54
  go_wp2_with (at_lookup; refine wpList_lookup_own_ok_int _ rfl _ _ 46 rfl 9 3 .i64 keyLaw Tryz.underlying46 Tryz.underlying3 (zeroI _) MP ks.length D rfl HO.out (.string s) _ rfl HKEY.out ?_; intro c hat hwc; (rw [HAT.out] at hat); obtain rfl := (Lit.int.inj (DataW.lit.inj hat)).2; rw [HHAS.out]; clear hat hwc)
  go_ret2
  exact ⟨rfl, rfl⟩
set_option maxHeartbeats 1000000 in
theorem marked_out (T : Nat) (l : List Mk) (s : ByteArray) (w : World) (hT : Tab w T l) (hs : s ∉ papersL l) (hz : s.size ≤ 1000) :
    Calls Tryz.prog 54 #[.pointer (some ⟨T, 0, none⟩), .string s] w fun e w' => e = .returned (.tuple #[.int .i64 0, .int .i64 8]) ∧ w' = w := by
  obtain ⟨P, H, cP, cH, MP, MH, bo, bb, v, h1, h2, h3, h4, h5, h6, h7, h8⟩ := hT
  have t2 := h1.cell 2 _ rfl
  obtain ⟨ks, hks⟩ : ∃ ks, papersL l = ks := ⟨_, rfl⟩
  rw [hks] at h4 hs
  have HHAS := Lib.hid (numS_has ks s hs ks.length (Nat.le_refl _))
  obtain ⟨D, hD⟩ : ∃ D, numS ks ks.length = D := ⟨_, rfl⟩
  have hO : w.ownsMap Tryz.prog 9 (plainElem Tryz.prog 3) MP ks.length (numS ks ks.length) := h4
  rw [hD] at hO HHAS
  have HO := Lib.hid hO
  have HKEY := Lib.hid (show keyOf Tryz.prog 9 (.string s) = some (.string s.data.toList) from Go.WideMaps.keyOf_string_mk Tryz.underlying9 (by unfold maxLen; omega))
  clear h1 h2 h3 h4 h5 h6 h7 h8 hs hD hO hks
  go_enter Tryz.func54, Tryz.ntmps54
  go_wp2_with (at_lookup; refine wpList_lookup_own_ok_int _ rfl _ _ 46 rfl 9 3 .i64 keyLaw Tryz.underlying46 Tryz.underlying3 (zeroI _) MP ks.length D rfl HO.out (.string s) _ rfl HKEY.out ?_; intro c hat hwc; rw [HHAS.out]; clear hat hwc)
  go_ret2
  exact ⟨rfl, rfl⟩
set_option maxHeartbeats 1000000 in
theorem mean_walk (A : Option Addr) (n cap : Nat) (l : List Int) (w : World) (hn : l.length = n) (hn2 : n ≤ 1000) (hn1 : 1 ≤ n) (hI : IL w A l) :
    Calls Tryz.prog 44 #[.slice A n cap] w fun e w' => e = .returned (.agg #[.int .i64 (lowZ (sumI l) n).1, .int .i64 (lowZ (sumI l) n).2]) ∧ Below w.heap.size w w' := by
  have HS := Lib.hid (fun W (h : Below w.heap.size w W) => sum_walk A n cap l W hn hn2 (hI.below h))
  have hb := sumI_bd l hI.1
  rw [hn] at hb
  obtain ⟨t, ht⟩ : ∃ t, sumI l = t := ⟨_, rfl⟩
  rw [ht] at hb HS ⊢
  obtain ⟨hb0, hb1⟩ := hb
  have hb2 : t ≤ 10000 := by omega
  clear hn hI ht hb1
  go_enter Tryz.func44, Tryz.ntmps44
  go_wp2_with fail
  refine (HS.out _ ((Below.refl _ _).alloc (Nat.le_refl _) _)).mono ?_; rintro e w1 ⟨rfl, rfl⟩
  go_wp2_with fail
  refine (lowZ_any t n _ (by omega) (by omega) (by omega) (by omega)).mono ?_; rintro e w2 ⟨rfl, hb⟩
  have RB := Lib.hid ((Blk.new w 30 #[.int .i64 0, .int .i64 0]).below hb (by simp))
  have HB := Lib.hid (((Below.refl _ _).alloc (Nat.le_refl _) (.cells #[.int .i64 0, .int .i64 0] 30)).trans (hb.mono (by simp)) : Below w.heap.size w w2)
  have f0 := RB.out.frozen 0
  have f1 := RB.out.frozen 1
  have q0 := RB.out.cell 0 _ rfl
  have q1 := RB.out.cell 1 _ rfl
  obtain ⟨u, hu⟩ : ∃ u, lowZ t n = u := ⟨_, rfl⟩
  rw [hu]
  have HU := Lib.hid hu
  clear hb hu HS
  go_wp2_with fail
  refine bodyPost_ret (v := .agg #[.int .i64 u.1, .int .i64 u.2]) (by simp only [results, Tryz.results44]; go_simp) rfl ⟨by rw [HU.out], (HB.out.setCell (p := ⟨w.heap.size, 0, none⟩) (Nat.le_refl _) _).setCell (p := ⟨w.heap.size, 1, none⟩) (Nat.le_refl _) _⟩
/-- What Mean hands back. -/
def MeanRet (r : Int) (l : List Mk) (s : ByteArray) (w : World) (e : Ending) (w' : World) : Prop := Below w.heap.size w w' ∧
  ((r ≠ 0 ∧ e = .returned (.tuple #[.agg #[.int .i64 0, .int .i64 0], .int .i64 r])) ∨
   (r = 0 ∧ s ∉ papersL l ∧ e = .returned (.tuple #[.agg #[.int .i64 0, .int .i64 0], .int .i64 8])) ∨
   (r = 0 ∧ s ∈ papersL l ∧ e = .returned (.tuple #[.agg #[.int .i64 (lowZ (sumI (scP l (idx (papersL l) s))) (scP l (idx (papersL l) s)).length).1, .int .i64 (lowZ (sumI (scP l (idx (papersL l) s))) (scP l (idx (papersL l) s)).length).2], .int .i64 0])))
theorem scP_pos {l : List Mk} {s : ByteArray} (h : s ∈ papersL l) : 1 ≤ (scP l (idx (papersL l) s)).length := by
  have h2 : s ∈ l.map Mk.p := (dedB_mem _ _).1 h
  obtain ⟨x, hx, rfl⟩ := List.mem_map.1 h2
  rw [scP_eq, List.length_map]
  exact List.length_pos_of_mem (List.mem_filter.2 ⟨hx, by simp⟩)
theorem blk_frac {w : World} {B : Nat} (h : Blk w B 30 #[.int .i64 0, .int .i64 0]) : w.frozen? ⟨B, 0, none⟩ = false ∧ w.frozen? ⟨B, 1, none⟩ = false ∧ w.cell? ⟨B, 0, none⟩ = some (.int .i64 0) ∧ w.cell? ⟨B, 1, none⟩ = some (.int .i64 0) :=
  ⟨h.frozen 0, h.frozen 1, h.cell 0 _ rfl, h.cell 1 _ rfl⟩
set_option maxRecDepth 100000 in
set_option maxHeartbeats 4000000 in
theorem ofpaper_walk (A : Option Addr) (n cap : Nat) (l : List Mk) (s : ByteArray) (hz : s.size ≤ 1000) (w : World) (hn : l.length = n) (hn2 : n ≤ 256) (hM : ML w A l) (r : Int) (hr : Hid (chkE ⟨#[]⟩ ⟨#[]⟩ 0 l = r)) :
    Calls Tryz.prog 43 #[.slice A n cap, .string s, .func (.func 44) #[] #[]] w (MeanRet r l s w) := by
  have HNT := Lib.hid (fun W (hW : Below w.heap.size w W) => newtable_walk A n cap l W hn (by omega) (hM.below hW) r hr)
  have HN := Lib.hid hn
  have hBA : Below w.heap.size w ((w.alloc (.cells #[.int .i64 0, .int .i64 0] 30)).alloc (.cells #[.int .i64 0, .int .i64 0] 30)) := ((Below.refl _ _).alloc (Nat.le_refl _) _).alloc (by simp) _
  have HBA := Lib.hid hBA
  clear hn hM hBA
  go_enter Tryz.func43, Tryz.ntmps43
  go_wp2_with fail
  refine (HNT.out _ HBA.out).mono ?_; rintro e w1 ⟨hb1, hor⟩
  have B1 := Lib.hid (show Below w.heap.size w w1 from HBA.out.trans (hb1.mono HBA.out.size))
  have R1 := Lib.hid (((Blk.new w 30 #[.int .i64 0, .int .i64 0]).alloc (.cells #[.int .i64 0, .int .i64 0] 30)).below hb1 (by simp; omega))
  have R2 := Lib.hid (show Blk w1 (w.heap.size + 1) 30 #[.int .i64 0, .int .i64 0] from (by
    have := Blk.new (w.alloc (.cells #[.int .i64 0, .int .i64 0] 30)) 30 #[.int .i64 0, .int .i64 0]
    have h2 := this.below hb1 (by simp)
    simpa using h2))
  clear hb1 HNT HBA
  have FIN : Hid (∀ (W : World) (a b : Int), Below w.heap.size w W → Below w.heap.size w ((W.setCell ⟨w.heap.size, 0, none⟩ (.int .i64 a)).setCell ⟨w.heap.size, 1, none⟩ (.int .i64 b))) := Lib.hid (fun W a b h => (h.setCell (p := ⟨w.heap.size, 0, none⟩) (Nat.le_refl _) _).setCell (p := ⟨w.heap.size, 1, none⟩) (Nat.le_refl _) _)
  rcases hor with ⟨h0, rfl⟩ | ⟨rfl, T, rfl, hT1, hT⟩
  · have H0 := Lib.hid h0
    have e1 : (r != 0) = true := by simpa using h0
    obtain ⟨f0, f1, q0, q1⟩ := blk_frac R1.out
    obtain ⟨_, _, q2, q3⟩ := blk_frac R2.out
    clear h0
    go_wp2_with fail
    exact bodyPost_ret (v := .tuple #[.agg #[.int .i64 0, .int .i64 0], .int .i64 r]) (by simp only [results, Tryz.results43]; go_simp) rfl ⟨FIN.out _ _ _ B1.out, Or.inl ⟨H0.out, rfl⟩⟩
  · have HT := Lib.hid hT
    clear hT
    by_cases hs : s ∈ papersL l
    · have HMI := Lib.hid (marked_in T l s w1 HT.out hs hz)
      have HS := Lib.hid hs
      have hpos := scP_pos hs
      have hip := (idx_at hs).1
      have hsc : ∀ x ∈ l, 0 ≤ x.s ∧ x.s ≤ 10 := fun x hx => (chk_scores l _ _ _ hr.out x hx).2
      have HSW := Lib.hid (scores_walk T (idx (papersL l) s) l w1 (by have := HN.out; omega) HT.out hip hsc)
      have hil := scP_mem hsc (idx (papersL l) s)
      have hle : (scP l (idx (papersL l) s)).length ≤ 256 := by rw [scP_eq, List.length_map]; exact Nat.le_trans (List.length_filter_le _ _) (by rw [HN.out]; exact hn2)
      have HRES := Lib.hid (fun (W : World) (hW : Below w.heap.size w W) (e : Ending) (he : e = .returned (.tuple #[.agg #[.int .i64 (lowZ (sumI (scP l (idx (papersL l) s))) (scP l (idx (papersL l) s)).length).1, .int .i64 (lowZ (sumI (scP l (idx (papersL l) s))) (scP l (idx (papersL l) s)).length).2], .int .i64 0])) => show MeanRet 0 l s w e W from ⟨hW, Or.inr (Or.inr ⟨rfl, hs, he⟩)⟩)
      obtain ⟨ip, hipe⟩ : ∃ ip, idx (papersL l) s = ip := ⟨_, rfl⟩
      rw [hipe] at HMI HSW hpos hil hle HRES
      obtain ⟨Y, hY⟩ : ∃ Y, scP l ip = Y := ⟨_, rfl⟩
      rw [hY] at HSW hpos hil hle HRES
      obtain ⟨y, hy⟩ : ∃ y, Y.length = y := ⟨_, rfl⟩
      rw [hy] at hpos hle HRES
      have HY := Lib.hid hy
      clear hs hip hsc hil hipe hY hy
      go_wp2_with fail
      refine (HMI.out).mono ?_; rintro e w2 ⟨rfl, rfl⟩
      go_wp2_with fail
      refine (HSW.out).mono ?_; rintro e w3 ⟨YA, cY, rfl, hilY, _, hb3, _⟩
      rw [HY.out]
      have B3 := Lib.hid (B1.out.trans (hb3.mono B1.out.size))
      have HMW := Lib.hid (mean_walk YA y cY Y w3 HY.out (by omega) hpos hilY)
      have R3 := Lib.hid (R1.out.below hb3 R1.out.lt)
      obtain ⟨u, hu⟩ : ∃ u, lowZ (sumI Y) y = u := ⟨_, rfl⟩
      rw [hu] at HMW HRES
      clear hilY hb3 hu HSW HMI
      go_wp2_with fail
      refine (HMW.out).mono ?_; rintro e w4 ⟨rfl, hb4⟩
      have B4 := Lib.hid (B3.out.trans (hb4.mono B3.out.size))
      have R4 := Lib.hid (R3.out.below hb4 R3.out.lt)
      obtain ⟨f0, f1, q0, q1⟩ := blk_frac R4.out
      clear hb4
      go_wp2_with fail
      exact bodyPost_ret (v := .tuple #[.agg #[.int .i64 u.1, .int .i64 u.2], .int .i64 0]) (by simp only [results, Tryz.results43]; go_simp) rfl (HRES.out _ (FIN.out _ _ _ B4.out) _ rfl)
    · have HMO := Lib.hid (marked_out T l s w1 HT.out hs hz)
      have HS := Lib.hid hs
      obtain ⟨f0, f1, q0, q1⟩ := blk_frac R1.out
      obtain ⟨_, _, q2, q3⟩ := blk_frac R2.out
      clear hs
      go_wp2_with fail
      refine (HMO.out).mono ?_; rintro e w2 ⟨rfl, rfl⟩
      go_wp2_with fail
      exact bodyPost_ret (v := .tuple #[.agg #[.int .i64 0, .int .i64 0], .int .i64 8]) (by simp only [results, Tryz.results43]; go_simp) rfl ⟨FIN.out _ _ _ B1.out, Or.inr (Or.inl ⟨rfl, HS.out, rfl⟩)⟩
set_option maxRecDepth 100000 in
set_option maxHeartbeats 2000000 in
theorem mean_any (A : Option Addr) (n cap : Nat) (l : List Mk) (s : ByteArray) (hz : s.size ≤ 1000) (w : World) (hn : l.length = n) (hn2 : n ≤ 256) (hM : ML w A l) (r : Int) (hr : Hid (chkE ⟨#[]⟩ ⟨#[]⟩ 0 l = r)) :
    Calls Tryz.prog 23 #[.slice A n cap, .string s] w (MeanRet r l s w) := by
  have HOF := Lib.hid (fun W (hW : Below w.heap.size w W) => ofpaper_walk A n cap l s hz W hn hn2 (hM.below hW) r hr)
  clear hn hM
  go_enter Tryz.func23, Tryz.ntmps23
  go_wp2_with fail
  refine (HOF.out _ ((Below.refl _ _).alloc (Nat.le_refl _) _)).mono ?_; rintro e w1 ⟨hb1, hor⟩
  have B1 := Lib.hid (show Below w.heap.size w w1 from ((Below.refl _ _).alloc (Nat.le_refl _) (.cells #[.int .i64 0, .int .i64 0] 30)).trans (hb1.mono (by simp)))
  have R1 := Lib.hid ((Blk.new w 30 #[.int .i64 0, .int .i64 0]).below hb1 (by simp))
  have FIN : Hid (∀ (W : World) (a b : Int), Below w.heap.size w W → Below w.heap.size w ((W.setCell ⟨w.heap.size, 0, none⟩ (.int .i64 a)).setCell ⟨w.heap.size, 1, none⟩ (.int .i64 b))) := Lib.hid (fun W a b h => (h.setCell (p := ⟨w.heap.size, 0, none⟩) (Nat.le_refl _) _).setCell (p := ⟨w.heap.size, 1, none⟩) (Nat.le_refl _) _)
  obtain ⟨f0, f1, q0, q1⟩ := blk_frac R1.out
  clear hb1 HOF
  rcases hor with ⟨h0, rfl⟩ | ⟨rfl, hs, rfl⟩ | ⟨rfl, hs, rfl⟩
  · have H0 := Lib.hid h0
    clear h0
    go_wp2_with fail
    exact bodyPost_ret (v := .tuple #[.agg #[.int .i64 0, .int .i64 0], .int .i64 r]) (by simp only [results, Tryz.results23]; go_simp) rfl ⟨FIN.out _ _ _ B1.out, Or.inl ⟨H0.out, rfl⟩⟩
  · have HS := Lib.hid hs
    clear hs
    go_wp2_with fail
    exact bodyPost_ret (v := .tuple #[.agg #[.int .i64 0, .int .i64 0], .int .i64 8]) (by simp only [results, Tryz.results23]; go_simp) rfl ⟨FIN.out _ _ _ B1.out, Or.inr (Or.inl ⟨rfl, HS.out, rfl⟩)⟩
  · have HRES := Lib.hid (fun (W : World) (hW : Below w.heap.size w W) (e : Ending) (he : e = .returned (.tuple #[.agg #[.int .i64 (lowZ (sumI (scP l (idx (papersL l) s))) (scP l (idx (papersL l) s)).length).1, .int .i64 (lowZ (sumI (scP l (idx (papersL l) s))) (scP l (idx (papersL l) s)).length).2], .int .i64 0])) => show MeanRet 0 l s w e W from ⟨hW, Or.inr (Or.inr ⟨rfl, hs, he⟩)⟩)
    obtain ⟨u, hu⟩ : ∃ u, lowZ (sumI (scP l (idx (papersL l) s))) (scP l (idx (papersL l) s)).length = u := ⟨_, rfl⟩
    rw [hu] at HRES
    rw [hu]
    clear hu hs
    go_wp2_with fail
    exact bodyPost_ret (v := .tuple #[.agg #[.int .i64 u.1, .int .i64 u.2], .int .i64 0]) (by simp only [results, Tryz.results23]; go_simp) rfl (HRES.out _ (FIN.out _ _ _ B1.out) _ rfl)
/-- The one mark of the laws' own question. -/
def mk7 : Mk := ⟨⟨#[112]⟩, ⟨#[97]⟩, 7⟩
theorem mk7_chk : chkE ⟨#[]⟩ ⟨#[]⟩ 0 [mk7] = 0 := by decide +kernel
theorem mk7_mem : mk7.p ∈ papersL [mk7] := (dedB_mem _ _).2 (List.mem_singleton.2 rfl)
theorem mk7_sc : scP [mk7] (idx (papersL [mk7]) mk7.p) = [7] := by rw [scP_eq]; simp [mk7]
end Go.Proofs.YthhiefpickpiaaaGreatDoor.Cal
