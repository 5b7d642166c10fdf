/-
  MARKS: the median of a paper: ofPaper at median, Median.
-/
import Derived.Test.YtgajencgpceabaaGreatDoorCalQ
import Derived.Test.YtgajencgpceabaaGreatDoorCalMe
namespace Go.Proofs.YtgajencgpceabaaGreatDoor.Cal
open Go.ChangeShapes Go.WideShapes Go.ChangeAt Go.RowKit Stm Key
set_option linter.unusedVariables false

/-- What Median hands back. -/
def MedRet (r : Int) (l : List Mk) (s : ByteArray) (w : World) (e : Ending) (w' : World) : Prop := Below w.heap.size w w' ∧
  ((r ≠ 0 ∧ e = .returned (.tuple #[.int .i64 0, .int .i64 r])) ∨
   (r = 0 ∧ s ∉ papersL l ∧ e = .returned (.tuple #[.int .i64 0, .int .i64 8])) ∨
   (r = 0 ∧ s ∈ papersL l ∧ e = .returned (.tuple #[.int .i64 (medI (scP l (idx (papersL l) s))), .int .i64 0])))
set_option maxRecDepth 100000 in
set_option maxHeartbeats 4000000 in
theorem ofmed_walk (A : Option Addr) (n cap : Nat) (l : List Mk) (s : ByteArray) (hz : s.size ≤ 1000) (w : World) (hn : l.length = n) (hn2 : n ≤ 256) (hM : ML w A l) (r : Int) (hr : Hid (chkE ⟨#[]⟩ ⟨#[]⟩ 0 l = r)) :
    Calls Tryz.prog 33 #[.slice A n cap, .string s, .func (.func 34) #[] #[]] w (MedRet r l s w) := by
  have HNT := Lib.hid (newtable_walk A n cap l w hn (by omega) hM r hr)
  have HN := Lib.hid hn
  clear hn hM
  go_enter Tryz.func33, Tryz.ntmps33
  go_wp2_with fail
  refine (HNT.out).mono ?_; rintro e w1 ⟨hb1, hor⟩
  have B1 := Lib.hid hb1
  clear hb1 HNT
  rcases hor with ⟨h0, rfl⟩ | ⟨rfl, T, rfl, hT1, hT⟩
  · have H0 := Lib.hid h0
    have e1 : (r != 0) = true := by simpa using h0
    clear h0
    go_wp2_with fail
    exact bodyPost_ret (v := .tuple #[.int .i64 0, .int .i64 r]) (by simp only [results, Tryz.results33]; go_simp) rfl ⟨B1.out, Or.inl ⟨H0.out, rfl⟩⟩
  · have HT := Lib.hid hT
    clear hT
    by_cases hs : s ∈ papersL l
    · have HMI := Lib.hid (marked_in T l s w1 HT.out hs hz)
      have HS := Lib.hid hs
      have hpos := scP_pos hs
      have hip := (idx_at hs).1
      have hsc : ∀ x ∈ l, 0 ≤ x.s ∧ x.s ≤ 10 := fun x hx => (chk_scores l _ _ _ hr.out x hx).2
      have HSW := Lib.hid (scores_walk T (idx (papersL l) s) l w1 (by have := HN.out; omega) HT.out hip hsc)
      have hle : (scP l (idx (papersL l) s)).length ≤ 256 := by rw [scP_eq, List.length_map]; exact Nat.le_trans (List.length_filter_le _ _) (by rw [HN.out]; exact hn2)
      have HRES := Lib.hid (fun (W : World) (hW : Below w.heap.size w W) (e : Ending) (he : e = .returned (.tuple #[.int .i64 (medI (scP l (idx (papersL l) s))), .int .i64 0])) => show MedRet 0 l s w e W from ⟨hW, Or.inr (Or.inr ⟨rfl, hs, he⟩)⟩)
      obtain ⟨ip, hipe⟩ : ∃ ip, idx (papersL l) s = ip := ⟨_, rfl⟩
      rw [hipe] at HMI HSW hpos hle HRES
      obtain ⟨Y, hY⟩ : ∃ Y, scP l ip = Y := ⟨_, rfl⟩
      rw [hY] at HSW hpos hle HRES
      obtain ⟨y, hy⟩ : ∃ y, Y.length = y := ⟨_, rfl⟩
      rw [hy] at hpos hle
      have HY := Lib.hid hy
      clear hs hip hsc hipe hY hy
      go_wp2_with fail
      refine (HMI.out).mono ?_; rintro e w2 ⟨rfl, rfl⟩
      go_wp2_with fail
      refine (HSW.out).mono ?_; rintro e w3 ⟨YA, cY, rfl, hilY, _, hb3, _⟩
      rw [HY.out]
      have B3 := Lib.hid (B1.out.trans (hb3.mono B1.out.size))
      have HMW := Lib.hid (median_walk YA y cY Y w3 HY.out hpos hle hilY)
      obtain ⟨u, hu⟩ : ∃ u, medI Y = u := ⟨_, rfl⟩
      rw [hu] at HMW HRES
      clear hilY hb3 hu HSW HMI
      go_wp2_with fail
      refine (HMW.out).mono ?_; rintro e w4 ⟨rfl, hb4⟩
      have B4 := Lib.hid (B3.out.trans (hb4.mono B3.out.size))
      clear hb4
      go_wp2_with fail
      exact bodyPost_ret (v := .tuple #[.int .i64 u, .int .i64 0]) (by simp only [results, Tryz.results33]; go_simp) rfl (HRES.out _ B4.out _ rfl)
    · have HMO := Lib.hid (marked_out T l s w1 HT.out hs hz)
      have HS := Lib.hid hs
      clear hs
      go_wp2_with fail
      refine (HMO.out).mono ?_; rintro e w2 ⟨rfl, rfl⟩
      go_wp2_with fail
      exact bodyPost_ret (v := .tuple #[.int .i64 0, .int .i64 8]) (by simp only [results, Tryz.results33]; go_simp) rfl ⟨B1.out, Or.inr (Or.inl ⟨rfl, HS.out, rfl⟩)⟩
set_option maxRecDepth 100000 in
set_option maxHeartbeats 2000000 in
theorem median_any (A : Option Addr) (n cap : Nat) (l : List Mk) (s : ByteArray) (hz : s.size ≤ 1000) (w : World) (hn : l.length = n) (hn2 : n ≤ 256) (hM : ML w A l) (r : Int) (hr : Hid (chkE ⟨#[]⟩ ⟨#[]⟩ 0 l = r)) :
    Calls Tryz.prog 13 #[.slice A n cap, .string s] w (MedRet r l s w) := by
  have HOF := Lib.hid (ofmed_walk A n cap l s hz w hn hn2 hM r hr)
  clear hn hM
  go_enter Tryz.func13, Tryz.ntmps13
  go_wp2_with fail
  refine (HOF.out).mono ?_; rintro e w1 ⟨hb1, hor⟩
  have B1 := Lib.hid hb1
  clear hb1 HOF
  rcases hor with ⟨h0, rfl⟩ | ⟨rfl, hs, rfl⟩ | ⟨rfl, hs, rfl⟩
  · have H0 := Lib.hid h0
    clear h0
    go_wp2_with fail
    exact bodyPost_ret (v := .tuple #[.int .i64 0, .int .i64 r]) (by simp only [results, Tryz.results13]; go_simp) rfl ⟨B1.out, Or.inl ⟨H0.out, rfl⟩⟩
  · have HS := Lib.hid hs
    clear hs
    go_wp2_with fail
    exact bodyPost_ret (v := .tuple #[.int .i64 0, .int .i64 8]) (by simp only [results, Tryz.results13]; go_simp) rfl ⟨B1.out, Or.inr (Or.inl ⟨rfl, HS.out, rfl⟩)⟩
  · have HS := Lib.hid hs
    clear hs
    obtain ⟨u, hu⟩ : ∃ u, medI (scP l (idx (papersL l) s)) = u := ⟨_, rfl⟩
    rw [hu]
    have HU := Lib.hid hu
    clear hu
    go_wp2_with fail
    exact bodyPost_ret (v := .tuple #[.int .i64 u, .int .i64 0]) (by simp only [results, Tryz.results13]; go_simp) rfl ⟨B1.out, Or.inr (Or.inr ⟨rfl, HS.out, by rw [HU.out]⟩)⟩
end Go.Proofs.YtgajencgpceabaaGreatDoor.Cal
