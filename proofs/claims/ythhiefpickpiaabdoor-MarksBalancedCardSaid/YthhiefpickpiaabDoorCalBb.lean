/-
  MARKS: calibrate.Balanced.
-/
import Derived.Test.YthhiefpickpiaabDoorCalT
import Derived.Test.YthhiefpickpiaabDoorCalBl
import Derived.Deep.RegionHeld3
namespace Go.Proofs.YthhiefpickpiaabDoor.Cal
open Go.ChangeShapes Go.WideShapes Go.ChangeAt Go.RowKit Stm Key
set_option linter.unusedVariables false

/-- What Balanced hands back: an error, or the levels. -/
def BalancedRet (r : Int) (l : List Mk) (n : Int) (w : World) (e : Ending) (w' : World) : Prop := Below w.heap.size w w' ∧
  ((r ≠ 0 ∧ e = .returned (.tuple #[.slice none 0 0, .slice none 0 0, .int .i64 r])) ∨ (r = 0 ∧ (n < 1 ∨ 100 < n) ∧ e = .returned (.tuple #[.slice none 0 0, .slice none 0 0, .int .i64 1])) ∨
   (r = 0 ∧ 1 ≤ n ∧ n ≤ 100 ∧ ∃ (A B : Option Addr) (cA cB : Nat), e = .returned (.tuple #[.slice A (papersL l).length cA, .slice B (peopleL l).length cB, .int .i64 0]) ∧
     LvL w' A (lvs (papersL l) (bal (papersL l) (peopleL l) l n.toNat).1) ∧ LvL w' B (lvs (peopleL l) (bal (papersL l) (peopleL l) l n.toNat).2)))
set_option maxRecDepth 100000 in
set_option maxHeartbeats 4000000 in
theorem balanced_any (A : Option Addr) (n cap : Nat) (l : List Mk) (m : Int) (w : World) (hn : l.length = n) (hn2 : n ≤ 256) (hM : ML w A l) (r : Int) (hr : Hid (chkE ⟨#[]⟩ ⟨#[]⟩ 0 l = r)) :
    Calls Tryd.prog 6 #[.slice A n cap, .int .i64 m] w (BalancedRet r l m w) := by
  have HNT := Lib.hid (newtable_walk A n cap l w hn (by omega) hM r hr)
  have HN := Lib.hid hn
  clear hn hM
  go_enter Tryd.func6, Tryd.ntmps6
  go_wp2_with fail
  refine (HNT.out).mono ?_; rintro e w1 ⟨hb1, hor⟩
  have B1 := Lib.hid hb1
  clear hb1 HNT
  rcases hor with ⟨h0, rfl⟩ | ⟨rfl, T, rfl, hT1, hT⟩
  · have H0 := Lib.hid h0
    have e1 : (r != 0) = true := by simpa using h0
    clear h0
    go_wp2_with fail
    exact bodyPost_ret (v := .tuple #[.slice none 0 0, .slice none 0 0, .int .i64 r]) (by simp only [results, Tryd.results6]; go_simp) rfl ⟨B1.out, Or.inl ⟨H0.out, rfl⟩⟩
  · by_cases hm : m < 1 ∨ 100 < m
    · have HM' := Lib.hid hm
      have d2 : (decide (m < 1) || decide (m > 100)) = true := by simpa using hm
      rcases hm with hm | hm
      · have d1 : decide (m < 1) = true := by simpa using hm
        go_wp2_with fail
        exact bodyPost_ret (v := .tuple #[.slice none 0 0, .slice none 0 0, .int .i64 1]) (by simp only [results, Tryd.results6]; go_simp) rfl ⟨B1.out, Or.inr (Or.inl ⟨rfl, HM'.out, rfl⟩)⟩
      · have d1 : decide (m < 1) = false := by simp; omega
        have d3 : decide (m > 100) = true := by simpa using hm
        go_wp2_with fail
        exact bodyPost_ret (v := .tuple #[.slice none 0 0, .slice none 0 0, .int .i64 1]) (by simp only [results, Tryd.results6]; go_simp) rfl ⟨B1.out, Or.inr (Or.inl ⟨rfl, HM'.out, rfl⟩)⟩
    · obtain ⟨k, rfl⟩ : ∃ k : Nat, m = k := ⟨m.toNat, by omega⟩
      have hk1 : 1 ≤ (k : Int) := by omega
      have hk2 : (k : Int) ≤ 100 := by omega
      have d1 : decide ((k : Int) < 1) = false := by simp; omega
      have d3 : decide ((k : Int) > 100) = false := by simp; omega
      have HTK := Lib.hid hT
      have HBW := Lib.hid (balanced_walk T k l w1 (by have := HN.out; omega) hT (fun x hx => (chk_scores l _ _ _ hr.out x hx).2) (by omega))
      clear hm hT
      go_wp2_with fail
      refine (HBW.out).mono ?_; rintro e w2 ⟨bw, bs, rfl, hw, hs, hb2⟩
      have T2 := Lib.hid (HTK.out.below hb2)
      have B2 := Lib.hid (B1.out.trans (hb2.mono B1.out.size))
      have HW := Lib.hid hw
      have HS := Lib.hid hs
      clear hw hs hb2 HBW HTK B1
      obtain ⟨P, H, cP, cH, MP, MH, bo, bb, v, h1, h2, h3, h4, h5, h6, h7, h8⟩ := T2.out
      have HT1 := Lib.hid h1
      have HSP := Lib.hid h2
      have HSH := Lib.hid h3
      have hnp : (papersL l).length ≤ 256 := Nat.le_trans (dedB_length _) (by rw [List.length_map, HN.out]; exact hn2)
      have hnh : (peopleL l).length ≤ 256 := Nat.le_trans (dedB_length _) (by rw [List.length_map, HN.out]; exact hn2)
      have HLP := Lib.hid (lvs_len (papersL l) (bal (papersL l) (peopleL l) l k).1)
      have HLH := Lib.hid (lvs_len (peopleL l) (bal (papersL l) (peopleL l) l k).2)
      have HFIN := Lib.hid (show ∀ (A B : Option Addr) (cA cB : Nat) (W : World), Below w2.heap.size w2 W → LvL W A (lvs (papersL l) (bal (papersL l) (peopleL l) l k).1) → LvL W B (lvs (peopleL l) (bal (papersL l) (peopleL l) l k).2) →
          BalancedRet 0 l k w (.returned (.tuple #[.slice A (papersL l).length cA, .slice B (peopleL l).length cB, .int .i64 0])) W from fun A B cA cB W hW h1 h2 =>
        ⟨B2.out.trans (hW.mono B2.out.size), Or.inr (Or.inr ⟨rfl, hk1, hk2, A, B, cA, cB, rfl, by simpa using h1, by simpa using h2⟩)⟩)
      clear h1 h2 h3 h4 h5 h6 h7 h8 T2 B2
      obtain ⟨np, he⟩ : ∃ np, (papersL l).length = np := ⟨_, rfl⟩
      rw [he] at hnp HT1 HW HFIN HLP ⊢
      have HNP := Lib.hid he; clear he
      obtain ⟨nh, he⟩ : ∃ nh, (peopleL l).length = nh := ⟨_, rfl⟩
      rw [he] at hnh HT1 HS HFIN HLH ⊢
      have HNH := Lib.hid he; clear he
      obtain ⟨C, hC⟩ : ∃ C, w2.heap.size = C := ⟨_, rfl⟩
      have hTB : ∀ v, Below C w2 v → Below w2.heap.size w2 v := fun v h => by rw [hC]; exact h
      have HC1 := Lib.hid (show ∀ v, Below C w2 v → Calls Tryd.prog 15 #[.slice P np cP, .slice (some ⟨bw, 0, none⟩) np np] v (LvRet (lvs (papersL l) (bal (papersL l) (peopleL l) l k).1) v) from fun v h =>
        leveled_walk P np cP (papersL l) bw np _ v HNP.out (by omega) (HSP.out.below (hTB v h)) (rowIs_below HW.out (hTB v h)))
      have HC2 := Lib.hid (show ∀ v, Below C w2 v → Calls Tryd.prog 15 #[.slice H nh cH, .slice (some ⟨bs, 0, none⟩) nh nh] v (LvRet (lvs (peopleL l) (bal (papersL l) (peopleL l) l k).2) v) from fun v h =>
        leveled_walk H nh cH (peopleL l) bs nh _ v HNH.out (by omega) (HSH.out.below (hTB v h)) (rowIs_below HS.out (hTB v h)))
      have HCA := Lib.hid (show ∀ v, Below C w2 v → Blk v T 53 #[.slice P np cP, .slice H nh cH, .map (some MP), .map (some MH), .slice (some ⟨bo, 0, none⟩) np np, .slice (some ⟨bb, 0, none⟩) nh nh] from fun v h => HT1.out.below (hTB v h) HT1.out.lt)
      have HB0 := Lib.hid (show Below C w2 w2 from Below.refl _ _)
      have HSZ := Lib.hid (show C ≤ w2.heap.size from Nat.le_of_eq hC.symm)
      clear HSP HSH HW HS HT1 HNP HNH HN
      go_wp2_with fail
      go_region_held3 (fun v => v.cell? ⟨T, 0, none⟩ = some (.slice P np cP) ∧ v.cell? ⟨T, 1, none⟩ = some (.slice H nh cH) ∧ Below C w2 v ∧ C ≤ v.heap.size)
          (first
            | (go_split_ands; have hv := Below.trans (by assumption) (hb.mono (by assumption)); have k0 := HCA.out _ hv; exact ⟨k0.cell 0 _ rfl, k0.cell 1 _ rfl, hv, Nat.le_trans (by assumption) hb.size⟩)
            | (have k0 := HCA.out _ HB0.out.drew; exact ⟨k0.cell 0 _ rfl, k0.cell 1 _ rfl, HB0.out.drew, by have := HSZ.out; simpa using this⟩))
          (first
            | (go_at_call 15; go_split_ands; ((with_reducible refine (HC1.out _ (by assumption)).mono ?_); rintro e wz ⟨AA, cA, rfl, hlA, hb⟩))
            | (go_at_call 15; go_split_ands; ((with_reducible refine (HC2.out _ (by assumption)).mono ?_); rintro e wz ⟨AB, cB, rfl, hlB, hb⟩)))
      all_goals
        go_split_ands
        go_wp2_with fail
        rw [HLP.out, HLH.out]
        exact bodyPost_ret (v := .tuple #[.slice AA np cA, .slice AB nh cB, .int .i64 0]) (by simp only [results, Tryd.results6]; go_simp) rfl (HFIN.out AA AB cA cB _ (hTB _ (by assumption)) (hlA.below hb) hlB)
end Go.Proofs.YthhiefpickpiaabDoor.Cal
