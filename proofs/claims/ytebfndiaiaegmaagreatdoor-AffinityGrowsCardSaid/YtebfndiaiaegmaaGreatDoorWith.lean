/-
  withSkills AND withTopics (package topic): a forest behind its errors, those of skills, and those of topics that are wanted.
-/
import Derived.Test.YtebfndiaiaegmaaGreatDoorSkills
namespace Go.Proofs.YtebfndiaiaegmaaGreatDoor.For
open Go.ChangeShapes Go.WideShapes Go.ChangeAt Go.RowKit Stm Key
set_option linter.unusedVariables false

def withE (l : List Tp) (s : List Sk) : Int := if forestE l ≠ 0 then forestE l else skE l ⟨#[]⟩ s
/-- What is wrong with wanted topics behind a topic. -/
def waE (l : List Tp) : ByteArray → List ByteArray → Int
  | _, [] => 0
  | last, x :: t => if (lk l x).isSome = false then 8 else if leB x last = true then 7 else waE l x t
def wantE (l : List Tp) (s : List Sk) (ts : List ByteArray) : Int := if withE l s ≠ 0 then withE l s else waE l ⟨#[]⟩ ts
def FRet (r : Int) (A : Option Addr) (n cap : Nat) (l : List Tp) (w : World) (e : Ending) (w' : World) : Prop := ∃ F : Nat,
  (r ≠ 0 ∧ e = .returned (.tuple #[.pointer none, .int .i64 r]) ∨ r = 0 ∧ e = .returned (.tuple #[.pointer (some ⟨F, 0, none⟩), .int .i64 0]) ∧ w.heap.size ≤ F ∧ FM w' F A n cap l) ∧ Below w.heap.size w w'

set_option maxRecDepth 100000 in
set_option maxHeartbeats 4000000 in
theorem withskills_walk (A : Option Addr) (n cap : Nat) (l : List Tp) (A2 : Option Addr) (n2 c2 : Nat) (s : List Sk) (w : World) (hn : l.length = n) (hn2 : n ≤ 1000) (hS : TL w A l) (hs : KL w A2 s) (hk : s.length = n2) (h100 : n2 ≤ 100) (r : Int) (hr : Hid (withE l s = r)) :
    Calls Tryz.prog 43 #[.slice A n cap, .slice A2 n2 c2] w (FRet r A n cap l w) := by
  obtain ⟨r1, hr1⟩ : ∃ r1, forestE l = r1 := ⟨_, rfl⟩
  have HR1 := Lib.hid hr1
  have HFW := Lib.hid (forest_walk A n cap l w hn hn2 hS r1 HR1)
  have HS := Lib.hid hs
  have HK := Lib.hid hk
  clear hn hS hs hk
  by_cases h1 : r1 ≠ 0
  · have HE := Lib.hid (show r1 = r by have := hr.out; unfold withE at this; rw [hr1, if_pos h1] at this; exact this)
    have hbb : (r1 != 0) = true := by rw [bne_iff_ne]; exact h1
    have H1 := Lib.hid h1
    clear hr1 h1
    go_enter Tryz.func43, Tryz.ntmps43
    go_wp2_with fail
    refine (HFW.out).mono ?_; rintro e w1 ⟨F, hor, hb1⟩
    rcases hor with ⟨_, rfl⟩ | ⟨h0, _⟩
    · go_wp2_with fail
      go_returns
      exact ⟨0, Or.inl ⟨by rw [← HE.out]; exact H1.out, by rw [HE.out]; try rfl⟩, hb1⟩
    · exact absurd h0 H1.out
  obtain rfl : r1 = 0 := by simpa using h1
  have HT := Lib.hid (show skE l ⟨#[]⟩ s = r by have := hr.out; unfold withE at this; rw [hr1] at this; simpa using this)
  clear hr h1 hr1
  by_cases h2 : r ≠ 0
  · have hbb : (r != 0) = true := by rw [bne_iff_ne]; exact h2
    have H2 := Lib.hid h2
    clear h2
    go_enter Tryz.func43, Tryz.ntmps43
    go_wp2_with fail
    refine (HFW.out).mono ?_; rintro e w1 ⟨F, hor, hb1⟩
    rcases hor with ⟨h0, _⟩ | ⟨_, rfl, hF, hFM⟩
    · exact absurd rfl h0
    have HCK := Lib.hid (checkskills_walk F A n cap l A2 n2 c2 s w1 hFM (HS.out.below hb1) HK.out h100 r HT)
    clear hFM
    go_wp2_with fail
    refine (HCK.out).mono ?_; rintro e w2 ⟨rfl, hb2⟩
    go_wp2_with fail
    go_returns
    exact ⟨0, Or.inl ⟨H2.out, rfl⟩, hb1.trans (hb2.mono hb1.size)⟩
  · obtain rfl : r = 0 := by simpa using h2
    clear h2
    go_enter Tryz.func43, Tryz.ntmps43
    go_wp2_with fail
    refine (HFW.out).mono ?_; rintro e w1 ⟨F, hor, hb1⟩
    rcases hor with ⟨h0, _⟩ | ⟨_, rfl, hF, hFM⟩
    · exact absurd rfl h0
    have HFM := Lib.hid hFM
    have HF0 := Lib.hid hF
    have HCK := Lib.hid (checkskills_walk F A n cap l A2 n2 c2 s w1 hFM (HS.out.below hb1) HK.out h100 0 HT)
    clear hFM hF
    go_wp2_with fail
    refine (HCK.out).mono ?_; rintro e w2 ⟨rfl, hb2⟩
    go_wp2_with fail
    go_returns
    exact ⟨F, Or.inr ⟨rfl, rfl, HF0.out, HFM.out.below hb2⟩, hb1.trans (hb2.mono hb1.size)⟩

set_option maxRecDepth 100000 in
set_option maxHeartbeats 8000000 in
theorem withtopics_walk (A : Option Addr) (n cap : Nat) (l : List Tp) (A2 : Option Addr) (n2 c2 : Nat) (s : List Sk) (A3 : Option Addr) (n3 c3 : Nat) (ts : List ByteArray) (w : World) (hn : l.length = n) (hn2 : n ≤ 1000) (hS : TL w A l) (hs : KL w A2 s) (hk : s.length = n2) (h100 : n2 ≤ 100)
    (ht : SL w A3 ts) (hkt : ts.length = n3) (h8 : n3 ≤ 8) (r : Int) (hr : Hid (wantE l s ts = r)) :
    Calls Tryz.prog 29 #[.slice A n cap, .slice A2 n2 c2, .slice A3 n3 c3] w (FRet r A n cap l w) := by
  obtain ⟨r1, hr1⟩ : ∃ r1, withE l s = r1 := ⟨_, rfl⟩
  have HR1 := Lib.hid hr1
  have HFW := Lib.hid (withskills_walk A n cap l A2 n2 c2 s w hn hn2 hS hs hk h100 r1 HR1)
  have HTS := Lib.hid ht
  have HK := Lib.hid hkt
  have hbig : ¬ ((n3 : Int) > 8) := by omega
  clear hn hS hs hk ht hkt
  by_cases h1 : r1 ≠ 0
  · have HE := Lib.hid (show r1 = r by have := hr.out; unfold wantE at this; rw [hr1, if_pos h1] at this; exact this)
    have hbb : (r1 != 0) = true := by rw [bne_iff_ne]; exact h1
    have H1 := Lib.hid h1
    clear hr1 h1
    go_enter Tryz.func29, Tryz.ntmps29
    go_wp2_with fail
    refine (HFW.out).mono ?_; rintro e w1 ⟨F, hor, hb1⟩
    rcases hor with ⟨_, rfl⟩ | ⟨h0, _⟩
    · go_wp2_with fail
      go_returns
      exact ⟨0, Or.inl ⟨by rw [← HE.out]; exact H1.out, by rw [HE.out]; try rfl⟩, hb1⟩
    · exact absurd h0 H1.out
  obtain rfl : r1 = 0 := by simpa using h1
  have HT := Lib.hid (show waE l ⟨#[]⟩ ts = r by have := hr.out; unfold wantE at this; rw [hr1] at this; simpa using this)
  clear hr h1 hr1
  go_enter Tryz.func29, Tryz.ntmps29
  go_wp2_with fail
  refine (HFW.out).mono ?_; rintro e w1 ⟨F, hor, hb1⟩
  rcases hor with ⟨h0, _⟩ | ⟨_, rfl, hF, hFM⟩
  · exact absurd rfl h0
  have HFM := Lib.hid hFM
  have HF0 := Lib.hid hF
  have HB1 := Lib.hid hb1
  have T1 := Lib.hid (HTS.out.below hb1)
  clear hFM hF hb1 HTS
  go_wp2_with fail
  go_loopw [10, 27] (fun la i wr => ∃ (k : Nat) (last : ByteArray), k ≤ n3 ∧ i = .int .i64 k ∧ la = .string last ∧ Hid (waE l last (ts.drop k) = r) ∧ wr = w1) (fun _ i _ => n3 - (intOf i).toNat)
  case atStart => exact ⟨0, ⟨#[]⟩, by omega, rfl, rfl, HT, rfl⟩
  case round =>
    obtain ⟨k, last, hk, rfl, rfl, HQ, rfl⟩ := hrel
    clear HT hbig
    by_cases hlt : k < n3
    · have hkl : k < ts.length := by rw [HK.out]; exact hlt
      obtain ⟨g, hA, hgl, hc⟩ := T1.out.2 (by omega)
      subst hA
      have c0 := hc k hkl
      have hx := T1.out.1 _ (List.getElem_mem hkl)
      have HE := Lib.hid (show (if (lk l ts[k]).isSome = false then 8 else if leB ts[k] last = true then 7 else waE l ts[k] (ts.drop (k + 1))) = r by rw [← HQ.out, drop_step ts k hkl]; rfl)
      generalize ts[k] = x at *
      obtain ⟨ph, hph⟩ : ∃ b, (lk l x).isSome = b := ⟨_, rfl⟩
      have HH := Lib.hid (has_walk F A n cap l x _ HFM.out hx ph (Lib.hid hph))
      rw [hph] at HE
      clear hc hph HQ
      have a0 : (0 : Int) ≤ (k : Int) := by omega
      have a1 : (k : Int) < (n3 : Int) := by omega
      go_wp2_with fail
      refine (HH.out).mono ?_; rintro e w5 ⟨rfl, rfl⟩
      cases ph
      · have HR : Hid ((8 : Int) = r) := Lib.hid (by have := HE.out; simpa using this)
        go_wp2_with fail
        go_returns
        exact ⟨0, Or.inl ⟨by rw [← HR.out]; decide, (by rw [← HR.out]; try rfl)⟩, HB1.out⟩
      · unfold leB at HE
        cases h7 : Op.bytesLess x.toList last.toList <;> cases h8 : (x.toList == last.toList)
        all_goals
          rw [h7, h8] at HE
          have hl := HE.out
          simp only [Bool.or_false, Bool.or_true, Bool.false_eq_true, Bool.true_eq_false, if_true, if_false] at hl
          have HFF := Lib.hid hl
          clear hl HE
          go_wp2_with fail
          first
            | (go_returns
               exact ⟨0, Or.inl ⟨by rw [← HFF.out]; decide, (by rw [← HFF.out]; try rfl)⟩, HB1.out⟩)
            | (go_roundw
               case rel => exact ⟨k + 1, x, by omega, by go_num, rfl, HFF, by first | rfl | trivial⟩
               case measure => simp [intOf]; omega)
    · have hkn : k = n3 := by omega
      subst hkn
      have HR : Hid ((0 : Int) = r) := Lib.hid (by have := HQ.out; rw [List.drop_eq_nil_of_le (by rw [HK.out]; exact Nat.le_refl _)] at this; exact this)
      go_wp2_with fail
      go_returns
      exact ⟨F, Or.inr ⟨HR.out.symm, rfl, HF0.out, HFM.out⟩, HB1.out⟩
end Go.Proofs.YtebfndiaiaegmaaGreatDoor.For
