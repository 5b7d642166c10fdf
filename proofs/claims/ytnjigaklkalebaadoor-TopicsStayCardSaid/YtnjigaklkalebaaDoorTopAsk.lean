/-
  THE CONTRACTS OF twoOf, Above, Below, Meet AND Near.
-/
import Derived.Test.YtnjigaklkalebaaDoorTopNew
import Derived.Test.YtnjigaklkalebaaDoorStrs
import Derived.Test.YtnjigaklkalebaaDoorLow
import Derived.Test.YtnjigaklkalebaaDoorShelf
namespace Go.Proofs.YtnjigaklkalebaaDoor.For
open Go.ChangeShapes Go.WideShapes Go.ChangeAt Go.RowKit Stm Key
set_option linter.unusedVariables false

/-- The error of two topics. -/
def askE (l : List Tp) (a b : ByteArray) : Int := if forestE l ≠ 0 then forestE l else (twoE l a b).2.2
theorem twoE_ok {l : List Tp} {a b : ByteArray} (h : (twoE l a b).2.2 = 0) : ∃ i j : Nat, lk l a = some i ∧ lk l b = some j ∧ twoE l a b = ((i : Int), (j : Int), 0) := by
  unfold twoE at h ⊢
  split at h
  · rename_i hh
    obtain ⟨i, hi⟩ := Option.isSome_iff_exists.1 hh.1
    obtain ⟨j, hj⟩ := Option.isSome_iff_exists.1 hh.2
    refine ⟨i, j, hi, hj, ?_⟩
    rw [if_pos hh]; unfold lkI; rw [hi, hj]
  · cases h
theorem twoE_no {l : List Tp} {a b : ByteArray} (h : (twoE l a b).2.2 ≠ 0) : twoE l a b = (0, 0, 8) := by
  unfold twoE at h ⊢
  split at h
  · exact absurd rfl h
  · rename_i hh; rw [if_neg hh]

set_option maxRecDepth 100000 in
set_option maxHeartbeats 4000000 in
theorem twoof_walk (A : Option Addr) (n cap : Nat) (l : List Tp) (a b : ByteArray) (w : World) (hn : l.length = n) (hn2 : n ≤ 1000) (hS : TL w A l) (ha : a.size ≤ 1000) (hb : b.size ≤ 1000) (r : Int) (hr : Hid (askE l a b = r)) :
    Calls Tryd.prog 24 #[.slice A n cap, .string a, .string b] w fun e w' =>
      ∃ (F i j : Nat), (r ≠ 0 ∧ e = .returned (.tuple #[.pointer none, .int .i64 0, .int .i64 0, .int .i64 r]) ∨
        r = 0 ∧ e = .returned (.tuple #[.pointer (some ⟨F, 0, none⟩), .int .i64 i, .int .i64 j, .int .i64 0]) ∧ forestE l = 0 ∧ lk l a = some i ∧ lk l b = some j ∧ FM w' F A n cap l) ∧ Below w.heap.size w w' := by
  obtain ⟨r1, hr1⟩ : ∃ r1, forestE l = r1 := ⟨_, rfl⟩
  have HR1 := Lib.hid hr1
  have HFW := Lib.hid (forest_walk A n cap l w hn hn2 hS r1 HR1)
  clear hn hS
  by_cases h1 : r1 ≠ 0
  · have HE := Lib.hid (show r1 = r by have := hr.out; unfold askE at this; rw [hr1, if_pos h1] at this; exact this)
    have hbb : (r1 != 0) = true := by rw [bne_iff_ne]; exact h1
    have H1 := Lib.hid h1
    clear hr1 h1
    go_enter Tryd.func24, Tryd.ntmps24
    go_wp2_with fail
    refine (HFW.out).mono ?_; rintro e w1 ⟨F, hor, hb1⟩
    rcases hor with ⟨_, rfl⟩ | ⟨h0, _⟩
    · go_wp2_with fail
      go_returns
      exact ⟨0, 0, 0, Or.inl ⟨by rw [← HE.out]; exact H1.out, by rw [HE.out]; try rfl⟩, hb1⟩
    · exact absurd h0 H1.out
  obtain rfl : r1 = 0 := by simpa using h1
  have HT := Lib.hid (show (twoE l a b).2.2 = r by have := hr.out; unfold askE at this; rw [hr1] at this; simpa using this)
  obtain ⟨t, ht⟩ : ∃ t, twoE l a b = t := ⟨_, rfl⟩
  have HTT := Lib.hid ht
  have HF0 := Lib.hid hr1
  by_cases h2 : t.2.2 ≠ 0
  · have hno := twoE_no (l := l) (a := a) (b := b) (by rw [ht]; exact h2)
    rw [ht] at hno
    subst hno
    have HE := Lib.hid (show r = 8 by rw [← HT.out, ht])
    clear hr1 h1 ht h2
    go_enter Tryd.func24, Tryd.ntmps24
    go_wp2_with fail
    refine (HFW.out).mono ?_; rintro e w1 ⟨F, hor, hb1⟩
    rcases hor with ⟨h0, _⟩ | ⟨_, rfl, hF, hFM⟩
    · exact absurd rfl h0
    obtain ⟨M, g, D, cd, k1, k2, k3, k4⟩ := hFM
    have c1 := k1.cell 1 _ rfl
    have HTW := Lib.hid (two_walk M l a b w1 k2 ha hb (0, 0, 8) HTT)
    clear k1 k2 k3 k4
    go_wp2_with fail
    refine (HTW.out).mono ?_; rintro e w2 ⟨rfl, rfl⟩
    go_wp2_with fail
    go_returns
    exact ⟨0, 0, 0, Or.inl ⟨by rw [HE.out]; decide, by rw [HE.out]; try rfl⟩, hb1⟩
  · obtain ⟨i, j, hi, hj, hij⟩ := twoE_ok (l := l) (a := a) (b := b) (by rw [ht]; simpa using h2)
    rw [ht] at hij
    subst hij
    have HE := Lib.hid (show r = 0 by rw [← HT.out, ht])
    have HI := Lib.hid hi
    have HJ := Lib.hid hj
    clear hr1 h1 ht h2 hi hj
    go_enter Tryd.func24, Tryd.ntmps24
    go_wp2_with fail
    refine (HFW.out).mono ?_; rintro e w1 ⟨F, hor, hb1⟩
    rcases hor with ⟨h0, _⟩ | ⟨_, rfl, hF, hFM⟩
    · exact absurd rfl h0
    have HFM := Lib.hid hFM
    obtain ⟨M, g, D, cd, k1, k2, k3, k4⟩ := hFM
    have c1 := k1.cell 1 _ rfl
    have HTW := Lib.hid (two_walk M l a b w1 k2 ha hb (i, j, 0) HTT)
    clear k1 k2 k3 k4
    go_wp2_with fail
    refine (HTW.out).mono ?_; rintro e w2 ⟨rfl, rfl⟩
    go_wp2_with fail
    go_returns
    exact ⟨F, i, j, Or.inr ⟨HE.out, rfl, HF0.out, HI.out, HJ.out, HFM.out⟩, hb1⟩
end Go.Proofs.YtnjigaklkalebaaDoor.For
