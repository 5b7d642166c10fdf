/-
  MARKS: the spread of a paper: the closure of Spread, ofPaper at it, Spread.
-/
import Derived.Test.YtgajencgpceabaaGreatDoorCalQ
import Derived.Test.YtgajencgpceabaaGreatDoorCalV
namespace Go.Proofs.YtgajencgpceabaaGreatDoor.Cal
open Go.ChangeShapes Go.WideShapes Go.ChangeAt Go.RowKit Stm Key
set_option linter.unusedVariables false

theorem dif_bd2 {l : List Int} (h : ∀ x ∈ l, 0 ≤ x ∧ x ≤ 10) {n : Nat} (hn : l.length = n) (hn2 : n ≤ 500) : 0 ≤ difI l ∧ difI l ≤ 50000000 := by
  refine ⟨dif_nonneg l, ?_⟩
  have h1 := sqI_bd l h
  have h2 : (l.length : Int) * sqI l ≤ 500 * 50000 := Int.mul_le_mul (by omega) (by omega) h1.1 (by omega)
  have h3 := sq_nonneg (sumI l)
  unfold difI
  omega
set_option maxHeartbeats 2000000 in
theorem spreadfn_walk (A : Option Addr) (n cap : Nat) (l : List Int) (w : World) (hn : l.length = n) (hn2 : n ≤ 256) (hn1 : 1 ≤ n) (hI : IL w A l) :
    Calls Tryz.prog 35 #[.slice A n cap] w fun e w' => e = .returned (.agg #[.int .i64 (lowZ (difI l) (2 * (n : Int) * (n : Int))).1, .int .i64 (lowZ (difI l) (2 * (n : Int) * (n : Int))).2]) ∧ Below w.heap.size w w' := by
  have HS := Lib.hid (fun W (h : Below w.heap.size w W) => diff_walk A n cap l W hn (by omega) (hI.below h))
  have hb := dif_bd2 hI.1 hn (by omega)
  obtain ⟨t, ht⟩ : ∃ t, difI l = t := ⟨_, rfl⟩
  rw [ht] at hb HS ⊢
  obtain ⟨hb0, hb1⟩ := hb
  have p0 : 1 ≤ 2 * (n : Int) * (n : Int) := by have := Int.mul_le_mul (show (2 : Int) ≤ 2 * (n : Int) by omega) (show (1 : Int) ≤ (n : Int) by omega) (by omega) (by omega); omega
  have p1 : 2 * (n : Int) * (n : Int) ≤ 512 * 256 := Int.mul_le_mul (by omega) (by omega) (by omega) (by omega)
  clear hn hI ht
  go_enter Tryz.func35, Tryz.ntmps35
  go_wp2_with fail
  refine (HS.out _ ((Below.refl _ _).alloc (Nat.le_refl _) _)).mono ?_; rintro e w1 ⟨rfl, rfl⟩
  go_wp2_with fail
  refine (lowZ_any t (2 * (n : Int) * (n : Int)) _ (by omega) (by omega) p0 (by omega)).mono ?_; rintro e w2 ⟨rfl, hb⟩
  have RB := Lib.hid ((Blk.new w 37 #[.int .i64 0, .int .i64 0]).below hb (by simp))
  have HB := Lib.hid (((Below.refl _ _).alloc (Nat.le_refl _) (.cells #[.int .i64 0, .int .i64 0] 37)).trans (hb.mono (by simp)) : Below w.heap.size w w2)
  have f0 := RB.out.frozen 0
  have f1 := RB.out.frozen 1
  have q0 := RB.out.cell 0 _ rfl
  have q1 := RB.out.cell 1 _ rfl
  obtain ⟨u, hu⟩ : ∃ u, lowZ t (2 * (n : Int) * (n : Int)) = u := ⟨_, rfl⟩
  rw [hu]
  have HU := Lib.hid hu
  clear hb hu HS p0 p1
  go_wp2_with fail
  refine bodyPost_ret (v := .agg #[.int .i64 u.1, .int .i64 u.2]) (by simp only [results, Tryz.results35]; go_simp) rfl ⟨by rw [HU.out], (HB.out.setCell (p := ⟨w.heap.size, 0, none⟩) (Nat.le_refl _) _).setCell (p := ⟨w.heap.size, 1, none⟩) (Nat.le_refl _) _⟩
/-- What Spread hands back. -/
def SpreadRet (r : Int) (l : List Mk) (s : ByteArray) (w : World) (e : Ending) (w' : World) : Prop := Below w.heap.size w w' ∧
  ((r ≠ 0 ∧ e = .returned (.tuple #[.agg #[.int .i64 0, .int .i64 0], .int .i64 r])) ∨
   (r = 0 ∧ s ∉ papersL l ∧ e = .returned (.tuple #[.agg #[.int .i64 0, .int .i64 0], .int .i64 8])) ∨
   (r = 0 ∧ s ∈ papersL l ∧ e = .returned (.tuple #[.agg #[.int .i64 (lowZ (difI (scP l (idx (papersL l) s))) (2 * ((scP l (idx (papersL l) s)).length : Int) * ((scP l (idx (papersL l) s)).length : Int))).1, .int .i64 (lowZ (difI (scP l (idx (papersL l) s))) (2 * ((scP l (idx (papersL l) s)).length : Int) * ((scP l (idx (papersL l) s)).length : Int))).2], .int .i64 0])))
set_option maxRecDepth 100000 in
set_option maxHeartbeats 4000000 in
theorem ofspread_walk (A : Option Addr) (n cap : Nat) (l : List Mk) (s : ByteArray) (hz : s.size ≤ 1000) (w : World) (hn : l.length = n) (hn2 : n ≤ 256) (hM : ML w A l) (r : Int) (hr : Hid (chkE ⟨#[]⟩ ⟨#[]⟩ 0 l = r)) :
    Calls Tryz.prog 31 #[.slice A n cap, .string s, .func (.func 35) #[] #[]] w (SpreadRet r l s w) := by
  have HNT := Lib.hid (fun W (hW : Below w.heap.size w W) => newtable_walk A n cap l W hn (by omega) (hM.below hW) r hr)
  have HN := Lib.hid hn
  have hBA : Below w.heap.size w ((w.alloc (.cells #[.int .i64 0, .int .i64 0] 37)).alloc (.cells #[.int .i64 0, .int .i64 0] 37)) := ((Below.refl _ _).alloc (Nat.le_refl _) _).alloc (by simp) _
  have HBA := Lib.hid hBA
  clear hn hM hBA
  go_enter Tryz.func31, Tryz.ntmps31
  go_wp2_with fail
  refine (HNT.out _ HBA.out).mono ?_; rintro e w1 ⟨hb1, hor⟩
  have B1 := Lib.hid (show Below w.heap.size w w1 from HBA.out.trans (hb1.mono HBA.out.size))
  have R1 := Lib.hid (((Blk.new w 37 #[.int .i64 0, .int .i64 0]).alloc (.cells #[.int .i64 0, .int .i64 0] 37)).below hb1 (by simp; omega))
  have R2 := Lib.hid (show Blk w1 (w.heap.size + 1) 37 #[.int .i64 0, .int .i64 0] from (by
    have := Blk.new (w.alloc (.cells #[.int .i64 0, .int .i64 0] 37)) 37 #[.int .i64 0, .int .i64 0]
    have h2 := this.below hb1 (by simp)
    simpa using h2))
  clear hb1 HNT HBA
  have FIN : Hid (∀ (W : World) (a b : Int), Below w.heap.size w W → Below w.heap.size w ((W.setCell ⟨w.heap.size, 0, none⟩ (.int .i64 a)).setCell ⟨w.heap.size, 1, none⟩ (.int .i64 b))) := Lib.hid (fun W a b h => (h.setCell (p := ⟨w.heap.size, 0, none⟩) (Nat.le_refl _) _).setCell (p := ⟨w.heap.size, 1, none⟩) (Nat.le_refl _) _)
  rcases hor with ⟨h0, rfl⟩ | ⟨rfl, T, rfl, hT1, hT⟩
  · have H0 := Lib.hid h0
    have e1 : (r != 0) = true := by simpa using h0
    obtain ⟨f0, f1, q0, q1⟩ := blk_frac R1.out
    obtain ⟨_, _, q2, q3⟩ := blk_frac R2.out
    clear h0
    go_wp2_with fail
    exact bodyPost_ret (v := .tuple #[.agg #[.int .i64 0, .int .i64 0], .int .i64 r]) (by simp only [results, Tryz.results31]; go_simp) rfl ⟨FIN.out _ _ _ B1.out, Or.inl ⟨H0.out, rfl⟩⟩
  · have HT := Lib.hid hT
    clear hT
    by_cases hs : s ∈ papersL l
    · have HMI := Lib.hid (marked_in T l s w1 HT.out hs hz)
      have HS := Lib.hid hs
      have hpos := scP_pos hs
      have hip := (idx_at hs).1
      have hsc : ∀ x ∈ l, 0 ≤ x.s ∧ x.s ≤ 10 := fun x hx => (chk_scores l _ _ _ hr.out x hx).2
      have HSW := Lib.hid (scores_walk T (idx (papersL l) s) l w1 (by have := HN.out; omega) HT.out hip hsc)
      have hil := scP_mem hsc (idx (papersL l) s)
      have hle : (scP l (idx (papersL l) s)).length ≤ 256 := by rw [scP_eq, List.length_map]; exact Nat.le_trans (List.length_filter_le _ _) (by rw [HN.out]; exact hn2)
      have HRES := Lib.hid (fun (W : World) (hW : Below w.heap.size w W) (e : Ending) (he : e = .returned (.tuple #[.agg #[.int .i64 (lowZ (difI (scP l (idx (papersL l) s))) (2 * ((scP l (idx (papersL l) s)).length : Int) * ((scP l (idx (papersL l) s)).length : Int))).1, .int .i64 (lowZ (difI (scP l (idx (papersL l) s))) (2 * ((scP l (idx (papersL l) s)).length : Int) * ((scP l (idx (papersL l) s)).length : Int))).2], .int .i64 0])) => show SpreadRet 0 l s w e W from ⟨hW, Or.inr (Or.inr ⟨rfl, hs, he⟩)⟩)
      obtain ⟨ip, hipe⟩ : ∃ ip, idx (papersL l) s = ip := ⟨_, rfl⟩
      rw [hipe] at HMI HSW hpos hil hle HRES
      obtain ⟨Y, hY⟩ : ∃ Y, scP l ip = Y := ⟨_, rfl⟩
      rw [hY] at HSW hpos hil hle HRES
      obtain ⟨y, hy⟩ : ∃ y, Y.length = y := ⟨_, rfl⟩
      rw [hy] at hpos hle HRES
      have HY := Lib.hid hy
      clear hs hip hsc hil hipe hY hy
      go_wp2_with fail
      refine (HMI.out).mono ?_; rintro e w2 ⟨rfl, rfl⟩
      go_wp2_with fail
      refine (HSW.out).mono ?_; rintro e w3 ⟨YA, cY, rfl, hilY, _, hb3, _⟩
      rw [HY.out]
      have B3 := Lib.hid (B1.out.trans (hb3.mono B1.out.size))
      have HMW := Lib.hid (spreadfn_walk YA y cY Y w3 HY.out (by omega) hpos hilY)
      have R3 := Lib.hid (R1.out.below hb3 R1.out.lt)
      obtain ⟨u, hu⟩ : ∃ u, lowZ (difI Y) (2 * (y : Int) * (y : Int)) = u := ⟨_, rfl⟩
      rw [hu] at HMW HRES
      clear hilY hb3 hu HSW HMI
      go_wp2_with fail
      refine (HMW.out).mono ?_; rintro e w4 ⟨rfl, hb4⟩
      have B4 := Lib.hid (B3.out.trans (hb4.mono B3.out.size))
      have R4 := Lib.hid (R3.out.below hb4 R3.out.lt)
      obtain ⟨f0, f1, q0, q1⟩ := blk_frac R4.out
      clear hb4
      go_wp2_with fail
      exact bodyPost_ret (v := .tuple #[.agg #[.int .i64 u.1, .int .i64 u.2], .int .i64 0]) (by simp only [results, Tryz.results31]; go_simp) rfl (HRES.out _ (FIN.out _ _ _ B4.out) _ rfl)
    · have HMO := Lib.hid (marked_out T l s w1 HT.out hs hz)
      have HS := Lib.hid hs
      obtain ⟨f0, f1, q0, q1⟩ := blk_frac R1.out
      obtain ⟨_, _, q2, q3⟩ := blk_frac R2.out
      clear hs
      go_wp2_with fail
      refine (HMO.out).mono ?_; rintro e w2 ⟨rfl, rfl⟩
      go_wp2_with fail
      exact bodyPost_ret (v := .tuple #[.agg #[.int .i64 0, .int .i64 0], .int .i64 8]) (by simp only [results, Tryz.results31]; go_simp) rfl ⟨FIN.out _ _ _ B1.out, Or.inr (Or.inl ⟨rfl, HS.out, rfl⟩)⟩
set_option maxRecDepth 100000 in
set_option maxHeartbeats 2000000 in
theorem spread_any (A : Option Addr) (n cap : Nat) (l : List Mk) (s : ByteArray) (hz : s.size ≤ 1000) (w : World) (hn : l.length = n) (hn2 : n ≤ 256) (hM : ML w A l) (r : Int) (hr : Hid (chkE ⟨#[]⟩ ⟨#[]⟩ 0 l = r)) :
    Calls Tryz.prog 14 #[.slice A n cap, .string s] w (SpreadRet r l s w) := by
  have HOF := Lib.hid (fun W (hW : Below w.heap.size w W) => ofspread_walk A n cap l s hz W hn hn2 (hM.below hW) r hr)
  clear hn hM
  go_enter Tryz.func14, Tryz.ntmps14
  go_wp2_with fail
  refine (HOF.out _ ((Below.refl _ _).alloc (Nat.le_refl _) _)).mono ?_; rintro e w1 ⟨hb1, hor⟩
  have B1 := Lib.hid (show Below w.heap.size w w1 from ((Below.refl _ _).alloc (Nat.le_refl _) (.cells #[.int .i64 0, .int .i64 0] 37)).trans (hb1.mono (by simp)))
  have R1 := Lib.hid ((Blk.new w 37 #[.int .i64 0, .int .i64 0]).below hb1 (by simp))
  have FIN : Hid (∀ (W : World) (a b : Int), Below w.heap.size w W → Below w.heap.size w ((W.setCell ⟨w.heap.size, 0, none⟩ (.int .i64 a)).setCell ⟨w.heap.size, 1, none⟩ (.int .i64 b))) := Lib.hid (fun W a b h => (h.setCell (p := ⟨w.heap.size, 0, none⟩) (Nat.le_refl _) _).setCell (p := ⟨w.heap.size, 1, none⟩) (Nat.le_refl _) _)
  obtain ⟨f0, f1, q0, q1⟩ := blk_frac R1.out
  clear hb1 HOF
  rcases hor with ⟨h0, rfl⟩ | ⟨rfl, hs, rfl⟩ | ⟨rfl, hs, rfl⟩
  · have H0 := Lib.hid h0
    clear h0
    go_wp2_with fail
    exact bodyPost_ret (v := .tuple #[.agg #[.int .i64 0, .int .i64 0], .int .i64 r]) (by simp only [results, Tryz.results14]; go_simp) rfl ⟨FIN.out _ _ _ B1.out, Or.inl ⟨H0.out, rfl⟩⟩
  · have HS := Lib.hid hs
    clear hs
    go_wp2_with fail
    exact bodyPost_ret (v := .tuple #[.agg #[.int .i64 0, .int .i64 0], .int .i64 8]) (by simp only [results, Tryz.results14]; go_simp) rfl ⟨FIN.out _ _ _ B1.out, Or.inr (Or.inl ⟨rfl, HS.out, rfl⟩)⟩
  · have HRES := Lib.hid (fun (W : World) (hW : Below w.heap.size w W) (e : Ending) (he : e = .returned (.tuple #[.agg #[.int .i64 (lowZ (difI (scP l (idx (papersL l) s))) (2 * ((scP l (idx (papersL l) s)).length : Int) * ((scP l (idx (papersL l) s)).length : Int))).1, .int .i64 (lowZ (difI (scP l (idx (papersL l) s))) (2 * ((scP l (idx (papersL l) s)).length : Int) * ((scP l (idx (papersL l) s)).length : Int))).2], .int .i64 0])) => show SpreadRet 0 l s w e W from ⟨hW, Or.inr (Or.inr ⟨rfl, hs, he⟩)⟩)
    obtain ⟨u, hu⟩ : ∃ u, lowZ (difI (scP l (idx (papersL l) s))) (2 * ((scP l (idx (papersL l) s)).length : Int) * ((scP l (idx (papersL l) s)).length : Int)) = u := ⟨_, rfl⟩
    rw [hu] at HRES
    rw [hu]
    clear hu hs
    go_wp2_with fail
    exact bodyPost_ret (v := .tuple #[.agg #[.int .i64 u.1, .int .i64 u.2], .int .i64 0]) (by simp only [results, Tryz.results14]; go_simp) rfl (HRES.out _ (FIN.out _ _ _ B1.out) _ rfl)
end Go.Proofs.YtgajencgpceabaaGreatDoor.Cal
