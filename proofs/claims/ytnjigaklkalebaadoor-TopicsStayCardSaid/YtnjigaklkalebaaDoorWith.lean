/-
  withSkills AND withTopics (package topic): a forest behind its errors, those of skills, and those of topics that are wanted.
-/
import Derived.Test.YtnjigaklkalebaaDoorSkills
namespace Go.Proofs.YtnjigaklkalebaaDoor.For
open Go.ChangeShapes Go.WideShapes Go.ChangeAt Go.RowKit Stm Key
set_option linter.unusedVariables false

def withE (l : List Tp) (s : List Sk) : Int := if forestE l ≠ 0 then forestE l else skE l ⟨#[]⟩ s
/-- What is wrong with wanted topics behind a topic. -/
def waE (l : List Tp) : ByteArray → List ByteArray → Int
  | _, [] => 0
  | last, x :: t => if (lk l x).isSome = false then 8 else if leB x last = true then 7 else waE l x t
def wantE (l : List Tp) (s : List Sk) (ts : List ByteArray) : Int := if withE l s ≠ 0 then withE l s else waE l ⟨#[]⟩ ts
def FRet (r : Int) (A : Option Addr) (n cap : Nat) (l : List Tp) (w : World) (e : Ending) (w' : World) : Prop := ∃ F : Nat,
  (r ≠ 0 ∧ e = .returned (.tuple #[.pointer none, .int .i64 r]) ∨ r = 0 ∧ e = .returned (.tuple #[.pointer (some ⟨F, 0, none⟩), .int .i64 0]) ∧ w.heap.size ≤ F ∧ FM w' F A n cap l) ∧ Below w.heap.size w w'

set_option maxRecDepth 100000 in
set_option maxHeartbeats 4000000 in
theorem withskills_walk (A : Option Addr) (n cap : Nat) (l : List Tp) (A2 : Option Addr) (n2 c2 : Nat) (s : List Sk) (w : World) (hn : l.length = n) (hn2 : n ≤ 1000) (hS : TL w A l) (hs : KL w A2 s) (hk : s.length = n2) (h100 : n2 ≤ 100) (r : Int) (hr : Hid (withE l s = r)) :
    Calls Tryd.prog 21 #[.slice A n cap, .slice A2 n2 c2] w (FRet r A n cap l w) := by
  obtain ⟨r1, hr1⟩ : ∃ r1, forestE l = r1 := ⟨_, rfl⟩
  have HR1 := Lib.hid hr1
  have HFW := Lib.hid (forest_walk A n cap l w hn hn2 hS r1 HR1)
  have HS := Lib.hid hs
  have HK := Lib.hid hk
  clear hn hS hs hk
  by_cases h1 : r1 ≠ 0
  · have HE := Lib.hid (show r1 = r by have := hr.out; unfold withE at this; rw [hr1, if_pos h1] at this; exact this)
    have hbb : (r1 != 0) = true := by rw [bne_iff_ne]; exact h1
    have H1 := Lib.hid h1
    clear hr1 h1
    go_enter Tryd.func21, Tryd.ntmps21
    go_wp2_with fail
    refine (HFW.out).mono ?_; rintro e w1 ⟨F, hor, hb1⟩
    rcases hor with ⟨_, rfl⟩ | ⟨h0, _⟩
    · go_wp2_with fail
      go_returns
      exact ⟨0, Or.inl ⟨by rw [← HE.out]; exact H1.out, by rw [HE.out]; try rfl⟩, hb1⟩
    · exact absurd h0 H1.out
  obtain rfl : r1 = 0 := by simpa using h1
  have HT := Lib.hid (show skE l ⟨#[]⟩ s = r by have := hr.out; unfold withE at this; rw [hr1] at this; simpa using this)
  clear hr h1 hr1
  by_cases h2 : r ≠ 0
  · have hbb : (r != 0) = true := by rw [bne_iff_ne]; exact h2
    have H2 := Lib.hid h2
    clear h2
    go_enter Tryd.func21, Tryd.ntmps21
    go_wp2_with fail
    refine (HFW.out).mono ?_; rintro e w1 ⟨F, hor, hb1⟩
    rcases hor with ⟨h0, _⟩ | ⟨_, rfl, hF, hFM⟩
    · exact absurd rfl h0
    have HCK := Lib.hid (checkskills_walk F A n cap l A2 n2 c2 s w1 hFM (HS.out.below hb1) HK.out h100 r HT)
    clear hFM
    go_wp2_with fail
    refine (HCK.out).mono ?_; rintro e w2 ⟨rfl, hb2⟩
    go_wp2_with fail
    go_returns
    exact ⟨0, Or.inl ⟨H2.out, rfl⟩, hb1.trans (hb2.mono hb1.size)⟩
  · obtain rfl : r = 0 := by simpa using h2
    clear h2
    go_enter Tryd.func21, Tryd.ntmps21
    go_wp2_with fail
    refine (HFW.out).mono ?_; rintro e w1 ⟨F, hor, hb1⟩
    rcases hor with ⟨h0, _⟩ | ⟨_, rfl, hF, hFM⟩
    · exact absurd rfl h0
    have HFM := Lib.hid hFM
    have HF0 := Lib.hid hF
    have HCK := Lib.hid (checkskills_walk F A n cap l A2 n2 c2 s w1 hFM (HS.out.below hb1) HK.out h100 0 HT)
    clear hFM hF
    go_wp2_with fail
    refine (HCK.out).mono ?_; rintro e w2 ⟨rfl, hb2⟩
    go_wp2_with fail
    go_returns
    exact ⟨F, Or.inr ⟨rfl, rfl, HF0.out, HFM.out.below hb2⟩, hb1.trans (hb2.mono hb1.size)⟩

end Go.Proofs.YtnjigaklkalebaaDoor.For
