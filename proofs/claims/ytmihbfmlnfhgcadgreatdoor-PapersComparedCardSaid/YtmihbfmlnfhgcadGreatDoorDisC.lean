/-
  MARKS, the seventh chapter's way: what is wrong with marks (as many of one paper as one likes): marks.Check at its bound, discuss.CheckMarks.
-/
import Derived.Test.YtmihbfmlnfhgcadGreatDoorCalC
namespace Go.Proofs.YtmihbfmlnfhgcadGreatDoor.Cal
open Go.ChangeShapes Go.WideShapes Go.ChangeAt Go.RowKit Stm Key
set_option linter.unusedVariables false

def stepO (lp lh : ByteArray) (x : Mk) : Int := if badK x = true then 5 else if ordP x.p x.h lp lh ≤ 0 then 7 else if badS x = true then 1 else 0
def chkO (lp lh : ByteArray) : List Mk → Int
  | [] => 0
  | x :: t => if stepO lp lh x ≠ 0 then stepO lp lh x else chkO x.p x.h t
def stepQ (prev : Option Mk) (x : Mk) : Int := if badK x = true then 5 else if 0 ≤ ordO prev x then 7 else if badS x = true then 1 else 0
def refO (prev : Option Mk) : List Mk → Int
  | [] => 0
  | x :: t => if stepQ prev x ≠ 0 then stepQ prev x else refO (some x) t
def InvO (prev : Option Mk) (lp lh : ByteArray) : Prop := (prev = none ∧ lp = ⟨#[]⟩ ∧ lh = ⟨#[]⟩) ∨ ∃ y, prev = some y ∧ lp = y.p ∧ lh = y.h
theorem stepO_eq {prev : Option Mk} {lp lh : ByteArray} (hI : InvO prev lp lh) (x : Mk) : stepQ prev x = stepO lp lh x := by
  unfold stepQ stepO
  by_cases hk : badK x = true
  · rw [if_pos hk, if_pos hk]
  · rw [if_neg hk, if_neg hk]
    have hkp : keyL x.p.data.toList = true := by
      unfold badK at hk
      cases h : keyL x.p.data.toList
      · rw [h] at hk; simp at hk
      · rfl
    have hord : (0 ≤ ordO prev x) ↔ ordP x.p x.h lp lh ≤ 0 := by
      rcases hI with ⟨rfl, rfl, rfl⟩ | ⟨y, rfl, rfl, rfl⟩
      · have := ordP_empty (b := x.h) hkp
        have e0 : ordO none x = -1 := rfl
        rw [e0]
        constructor <;> intro h <;> omega
      · show 0 ≤ ordP y.p y.h x.p x.h ↔ _
        rw [ordP_swap x.p x.h y.p y.h]; omega
    by_cases ho : ordP x.p x.h lp lh ≤ 0
    · rw [if_pos ho, if_pos (hord.2 ho)]
    · rw [if_neg ho, if_neg (fun h => ho (hord.1 h))]
theorem ref_chkO : ∀ (l : List Mk) (prev : Option Mk) (lp lh : ByteArray), InvO prev lp lh → refO prev l = chkO lp lh l
  | [], _, _, _, _ => rfl
  | x :: t, prev, lp, lh, hI => by
    unfold refO chkO
    rw [stepO_eq hI x, ref_chkO t (some x) x.p x.h (Or.inr ⟨x, rfl, rfl, rfl⟩)]
theorem marks_sameO (l : List Mk) : refO none l = chkO ⟨#[]⟩ ⟨#[]⟩ l := ref_chkO l _ _ _ (Or.inl ⟨rfl, rfl, rfl⟩)
theorem chkO_cons (lp lh : ByteArray) (x : Mk) (t : List Mk) : chkO lp lh (x :: t) = if stepO lp lh x ≠ 0 then stepO lp lh x else chkO x.p x.h t := rfl
theorem chkO_scores : ∀ (l : List Mk) (lp lh : ByteArray), chkO lp lh l = 0 → ∀ x ∈ l, badK x = false ∧ 0 ≤ x.s ∧ x.s ≤ 10
  | [], _, _, _, x, hx => by simp at hx
  | y :: t, lp, lh, h, x, hx => by
    unfold chkO at h
    by_cases h0 : stepO lp lh y = 0
    · rw [if_neg (by simpa using h0)] at h
      rcases List.mem_cons.1 hx with rfl | hx
      · unfold stepO at h0
        split at h0
        · exact absurd h0 (by decide)
        · split at h0
          · exact absurd h0 (by decide)
          · split at h0
            · exact absurd h0 (by decide)
            · rename_i h1 h2 h3
              unfold badS at h3
              simp at h3
              exact ⟨by simpa using h1, by omega, by omega⟩
      · exact chkO_scores t _ _ h x hx
    · rw [if_pos h0] at h; exact absurd h h0
theorem stepO_first {lp lh : ByteArray} {x : Mk} {r1 : Int} (h1 : (if badK x = true then 5 else if ordP x.p x.h lp lh ≤ 0 then 7 else 0 : Int) = r1) : stepO lp lh x = if r1 ≠ 0 then r1 else if badS x = true then 1 else 0 := by
  unfold stepO
  by_cases hb : badK x = true
  · rw [if_pos hb] at h1 ⊢; subst h1; simp
  · rw [if_neg hb] at h1 ⊢
    by_cases ho : ordP x.p x.h lp lh ≤ 0
    · rw [if_pos ho] at h1 ⊢; subst h1; simp
    · rw [if_neg ho] at h1 ⊢; subst h1; simp
set_option maxRecDepth 100000 in
set_option maxHeartbeats 4000000 in
theorem check3000_walk (A : Option Addr) (n cap : Nat) (l : List Mk) (w : World) (hn : l.length = n) (hn2 : n ≤ 1000) (hM : ML w A l) (r : Int) (hr : Hid (chkO ⟨#[]⟩ ⟨#[]⟩ l = r)) :
    Calls Tryz.prog 56 #[.slice A n cap, .int .i64 3000] w fun e w' => e = .returned (.int .i64 r) ∧ Below w.heap.size w w' := by
  have HN := Lib.hid hn
  have HM := Lib.hid hM
  clear hn hM
  go_enter Tryz.func56, Tryz.ntmps56
  go_wp2_with fail
  go_loopw [6, 15] (fun sm i wr => ∃ (k c : Nat) (lp lh : ByteArray), k ≤ n ∧ c ≤ k ∧ i = .int .i64 k ∧ sm = .int .i64 c ∧ Hid (chkO lp lh (l.drop k) = r) ∧ Hid (Blk wr w.heap.size 49 #[.string lp, .string lh]) ∧ Hid (Below w.heap.size w wr)) (fun _ i _ => n - (intOf i).toNat)
  case atStart => exact ⟨0, 0, ⟨#[]⟩, ⟨#[]⟩, Nat.zero_le _, Nat.le_refl _, rfl, rfl, hr, Lib.hid (Blk.new w _ _), Lib.hid ((Below.refl _ _).alloc (Nat.le_refl _) _)⟩
  case round =>
    obtain ⟨k, c, lp, lh, hk, hc, rfl, rfl, HST, HB, HL⟩ := hrel
    have hzr := HL.out.size
    have hbl := HB.out.lt
    by_cases hlt : k < n
    · have hkl : k < l.length := by rw [HN.out]; exact hlt
      obtain ⟨g, hA, hgl, hcl⟩ := (HM.out.below HL.out).2 (by omega)
      subst hA
      obtain ⟨c0, c1, c2⟩ := hcl k hkl
      have hx := HM.out.1 _ (List.getElem_mem hkl)
      have HST2 : Hid (chkO lp lh (l[k] :: l.drop (k + 1)) = r) := Lib.hid (by rw [← drop_step l k hkl]; exact HST.out)
      have hgW : g < w.heap.size := by
        obtain ⟨g', hA', hg', _⟩ := HM.out.2 (by omega)
        have : g = g' := congrArg Addr.block (Option.some.inj hA')
        omega
      clear hcl HST
      generalize l[k] = x at *
      have a0 : (0 : Int) ≤ (k : Int) := by omega
      have a1 : (k : Int) < (n : Int) := by omega
      have k0 := HB.out.cell 0 _ rfl
      have k1 := HB.out.cell 1 _ rfl
      obtain ⟨r1, hr1⟩ : ∃ r1, (if badK x = true then 5 else if ordP x.p x.h lp lh ≤ 0 then 7 else 0 : Int) = r1 := ⟨_, rfl⟩
      have HR1 := Lib.hid hr1
      have HSF := Lib.hid (stepO_first hr1)
      clear hr1
      have HAF := Lib.hid (after_any x lp lh r1 hx HR1)
      obtain ⟨hx0, hx1, hx2, hx3⟩ := hx
      obtain ⟨nc, hnc⟩ : ∃ nc, newC lp c x = nc := ⟨_, rfl⟩
      have hncb : nc ≤ c + 1 := by rw [← hnc]; unfold newC; split <;> omega
      have HNC := Lib.hid (show (if eqB x.p lp then c else 0) + 1 = nc from hnc)
      have HST3 : Hid ((if (if r1 ≠ 0 then r1 else if badS x = true then 1 else 0) ≠ 0 then (if r1 ≠ 0 then r1 else if badS x = true then 1 else 0) else chkO x.p x.h (l.drop (k + 1))) = r) := Lib.hid (by
        have := HST2.out; rw [chkO_cons, HSF.out] at this; exact this)
      have HBS := Lib.hid (show badS x = (decide (x.s < 0) || decide (10 < x.s)) from rfl)
      clear HST2 HSF hnc
      obtain ⟨xp, xh, xs⟩ := x
      simp only at c0 c1 c2 hx0 hx1 hx2 hx3 HAF HNC HST3 HBS
      go_wp2_with fail
      refine (HAF.out _).mono ?_; rintro e w1 ⟨rfl, hb1⟩
      have hz1 := hb1.size
      have hz2 : wr.heap.size + 1 ≤ w1.heap.size := by simpa using hz1
      have B1 := Lib.hid (show Below wr.heap.size wr w1 from ((Below.refl _ _).alloc (Nat.le_refl _) (.cells #[.string xp, .string xh, .int .i64 xs] 51)).trans (hb1.mono (by simp)))
      have HB1 := Lib.hid (HB.out.below B1.out hbl)
      have HL1 := Lib.hid (HL.out.trans (B1.out.mono hzr))
      have HX := Lib.hid ((Blk.new wr 51 #[.string xp, .string xh, .int .i64 xs]).below hb1 (by simp))
      have m0 := HX.out.cell 0 _ rfl
      have m1 := HX.out.cell 1 _ rfl
      have m2 := HX.out.cell 2 _ rfl
      have j0 := HB1.out.cell 0 _ rfl
      have j1 := HB1.out.cell 1 _ rfl
      have f0 := HB1.out.frozen 0
      have f1 := HB1.out.frozen 1
      have hbl1 := HB1.out.lt
      clear hb1 hz1 HAF HB HL k0 k1 c0 c1 c2
      by_cases h1 : r1 = 0
      · subst h1
        have HST4 : Hid ((if (if badS ⟨xp, xh, xs⟩ = true then 1 else 0 : Int) ≠ 0 then (if badS ⟨xp, xh, xs⟩ = true then 1 else 0) else chkO xp xh (l.drop (k + 1))) = r) := Lib.hid (by have := HST3.out; simpa using this)
        clear HST3
        by_cases hs0 : xs < 0
        · have HE : Hid (1 = r) := Lib.hid (by have := HST4.out; rw [HBS.out] at this; simpa [hs0] using this)
          have d1 : decide (xs < 0) = true := by simpa using hs0
          go_wp2_with fail
          go_ret
          exact ⟨by rw [HE.out]; try rfl, HL1.out⟩
        · by_cases hs1 : 10 < xs
          · have HE : Hid (1 = r) := Lib.hid (by have := HST4.out; rw [HBS.out] at this; simpa [hs1] using this)
            have d1 : decide (xs < 0) = false := by simpa using hs0
            have d2 : decide (xs > 10) = true := by simpa using hs1
            go_wp2_with fail
            go_ret
            exact ⟨by rw [HE.out]; try rfl, HL1.out⟩
          · have HST5 : Hid (chkO xp xh (l.drop (k + 1)) = r) := Lib.hid (by
              have := HST4.out; rw [HBS.out] at this; rw [show (decide (xs < 0) || decide (10 < xs)) = false by simp; omega] at this; simpa using this)
            have d1 : decide (xs < 0) = false := by simpa using hs0
            have d2 : decide (xs > 10) = false := by simp; omega
            clear HST4
            have FIN : Hid (∀ w2 : World, w2 = (w1.setCell ⟨w.heap.size, 0, none⟩ (.string xp)).setCell ⟨w.heap.size, 1, none⟩ (.string xh) → Blk w2 w.heap.size 49 #[.string xp, .string xh] ∧ Below w.heap.size w w2) := Lib.hid (fun w2 e => by
              subst e
              refine ⟨((HB1.out.set_ 0 _).set_ 1 _), (HL1.out.setCell (p := ⟨w.heap.size, 0, none⟩) (Nat.le_refl _) _).setCell (p := ⟨w.heap.size, 1, none⟩) (Nat.le_refl _) _⟩)
            obtain ⟨b, hb⟩ : ∃ b, eqB xp lp = b := ⟨_, rfl⟩
            cases b
            · obtain rfl : nc = 1 := by have := HNC.out; rw [hb] at this; simpa using this.symm
              have HE : Hid (chkO xp xh (l.drop (k + 1)) = r) := HST5
              have e1 : (xp.toList == lp.toList) = false := hb
              have e2 : ¬ xp.toList = lp.toList := by simpa using e1
              have e3 : ¬ lp.toList = xp.toList := fun e => e2 e.symm
              clear hb
              go_wp2_with fail
              go_roundw
              case rel => exact ⟨k + 1, 1, xp, xh, by omega, by omega, by go_num, rfl, HE, Lib.hid (FIN.out _ rfl).1, Lib.hid (FIN.out _ rfl).2⟩
              case measure => simp [intOf]; omega
            · obtain rfl := (eqB_iff _ _).1 hb
              obtain rfl : nc = c + 1 := by have := HNC.out; rw [hb] at this; simpa using this.symm
              clear hb HNC
              have HE : Hid (chkO xp xh (l.drop (k + 1)) = r) := HST5
              have d3 : decide ((c : Int) + 1 > 3000) = false := by simp; omega
              go_wp2_with fail
              go_roundw
              case rel => exact ⟨k + 1, c + 1, xp, xh, by omega, by omega, by go_num, by go_num, HE, Lib.hid (FIN.out _ rfl).1, Lib.hid (FIN.out _ rfl).2⟩
              case measure => simp [intOf]; omega
      · have HE : Hid (r1 = r) := Lib.hid (by have := HST3.out; simpa [h1] using this)
        have e1 : (r1 != 0) = true := by simpa using h1
        clear HST3 h1
        go_wp2_with fail
        go_ret
        exact ⟨by rw [HE.out]; try rfl, HL1.out⟩
    · have hkn : k = n := by omega
      subst hkn
      have HE : Hid (0 = r) := Lib.hid (by rw [← HST.out, List.drop_eq_nil_of_le (by rw [HN.out]; exact Nat.le_refl _)]; rfl)
      clear HST
      go_wp2_with fail
      go_ret
      exact ⟨by rw [HE.out]; try rfl, HL.out⟩
theorem checkmarksO_walk (A : Option Addr) (n cap : Nat) (l : List Mk) (w : World) (hn : l.length = n) (hn2 : n ≤ 1000) (hM : ML w A l) (r : Int) (hr : Hid (chkO ⟨#[]⟩ ⟨#[]⟩ l = r)) :
    Calls Tryz.prog 39 #[.slice A n cap] w fun e w' => e = .returned (.int .i64 r) ∧ Below w.heap.size w w' := by
  have HC := Lib.hid (check3000_walk A n cap l w hn hn2 hM r hr)
  clear hn hM
  go_enter Tryz.func39, Tryz.ntmps39
  go_wp2_with fail
  refine (HC.out).mono ?_; rintro e w1 ⟨rfl, hb1⟩
  have B1 := Lib.hid hb1
  clear hb1 HC
  go_wp2_with fail
  go_ret
  exact ⟨rfl, B1.out⟩
end Go.Proofs.YtmihbfmlnfhgcadGreatDoor.Cal
