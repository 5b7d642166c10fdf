/-
  THE CHECK OF SKILLS (package topic): has, isPercent, checkSkills.
-/
import Derived.Test.YtnjigaklkalebaaDoorWantGen
namespace Go.Proofs.YtnjigaklkalebaaDoor.For
open Go.ChangeShapes Go.WideShapes Go.ChangeAt Go.RowKit Stm Key
set_option linter.unusedVariables false

def pct (n : Int) : Bool := decide (1 ≤ n) && decide (n ≤ 100)
/-- What is wrong with skills behind a topic. -/
def skE (l : List Tp) : ByteArray → List Sk → Int
  | _, [] => 0
  | last, x :: t => if (lk l x.t).isSome = false then 8 else if leB x.t last = true then 7 else if pct x.n = false then 1 else skE l x.t t

theorem has_walk (F : Nat) (A : Option Addr) (n cap : Nat) (l : List Tp) (a : ByteArray) (w : World) (hF : FM w F A n cap l) (ha : a.size ≤ 1000) (r : Bool) (hr : Hid ((lk l a).isSome = r)) :
    Calls Tryd.prog 51 #[.pointer (some ⟨F, 0, none⟩), .string a] w fun e w' => e = .returned (.bool r) ∧ w' = w := by
  obtain ⟨M, g, D, cd, k1, k2, k3, k4⟩ := hF
  have c1 : w.cell? ⟨F, 1, none⟩ = some (.map (some M)) := k1.cell 1 _ rfl
  have HN := Lib.hid (show w.ownsMap Tryd.prog 9 (plainElem Tryd.prog 3) M l.length (numD l l.length) from k2)
  have HA := Lib.hid (show keyOf Tryd.prog 9 (.string a) = some (.string a.data.toList) from Go.WideMaps.keyOf_string_mk Tryd.underlying9 (by unfold maxLen; omega))
  have LA := Lib.hid (look_any l a)
  rw [hr.out] at LA
  clear k1 k2 k3 k4 hr
  generalize numD l l.length = D at *
  go_enter Tryd.func51, Tryd.ntmps51
  cases r
  all_goals
    go_wp2_with (first
      | (at_lookup; refine wpList_lookup_own_ok_int _ rfl _ _ 66 rfl 9 3 .i64 keyLaw Tryd.underlying66 Tryd.underlying3 (zeroI _) M l.length D rfl HN.out (.string a) _ rfl HA.out ?_; intro c hat hwc; obtain rfl := LA.out.2 c hat; rw [LA.out.1]; clear hat hwc))
    go_ret
    exact ⟨rfl, rfl⟩

theorem pct_walk (n : Int) (w : World) (h0 : 0 ≤ n) (h1 : n ≤ 101) : Calls Tryd.prog 22 #[.int .i64 n] w fun e w' => e = .returned (.bool (pct n)) ∧ w' = w := by
  have hp : pct n = (decide (1 ≤ n) && decide (n ≤ 100)) := rfl
  rw [hp]
  clear hp
  go_enter Tryd.func22, Tryd.ntmps22
  by_cases a1 : 1 ≤ n
  · have e1 : decide (n ≥ 1) = true := by simpa using a1
    by_cases a2 : n ≤ 100
    · have e2 : decide (n ≤ 100) = true := by simpa using a2
      go_wp2_with fail
      go_ret
      exact ⟨by simp [a1, a2], rfl⟩
    · have e2 : decide (n ≤ 100) = false := by simpa using a2
      go_wp2_with fail
      go_ret
      exact ⟨by simp, rfl⟩
  · have e1 : decide (n ≥ 1) = false := by simpa using a1
    go_wp2_with fail
    go_ret
    exact ⟨by simp, rfl⟩

set_option maxRecDepth 100000 in
set_option maxHeartbeats 8000000 in
theorem checkskills_walk (F : Nat) (A : Option Addr) (n cap : Nat) (l : List Tp) (A2 : Option Addr) (n2 c2 : Nat) (s : List Sk) (w : World) (hF : FM w F A n cap l) (hs : KL w A2 s) (hn2 : s.length = n2) (h100 : n2 ≤ 100) (r : Int) (hr : Hid (skE l ⟨#[]⟩ s = r)) :
    Calls Tryd.prog 36 #[.pointer (some ⟨F, 0, none⟩), .slice A2 n2 c2] w fun e w' => e = .returned (.int .i64 r) ∧ Below w.heap.size w w' := by
  have HF := Lib.hid hF
  have HS := Lib.hid hs
  have HL := Lib.hid hn2
  have hbig : ¬ ((n2 : Int) > 100) := by omega
  clear hF hs hn2
  go_enter Tryd.func36, Tryd.ntmps36
  go_wp2_with fail
  go_loopw [5, 13] (fun la i wr => ∃ (k : Nat) (last : ByteArray), k ≤ n2 ∧ i = .int .i64 k ∧ la = .string last ∧ Hid (skE l last (s.drop k) = r) ∧ Hid (Below w.heap.size w wr)) (fun _ i _ => n2 - (intOf i).toNat)
  case atStart => exact ⟨0, ⟨#[]⟩, by omega, rfl, rfl, hr, Lib.hid (Below.refl _ _)⟩
  case round =>
    obtain ⟨k, last, hk, rfl, rfl, HQ, HB⟩ := hrel
    clear hr hbig
    have hz := HB.out.size
    by_cases hlt : k < n2
    · have hkl : k < s.length := by rw [HL.out]; exact hlt
      obtain ⟨g, hA, hgl, hc⟩ := (HS.out.below HB.out).2 (by omega)
      subst hA
      have c0 := (hc k hkl).1
      have c1 := (hc k hkl).2
      have hx := HS.out.1 _ (List.getElem_mem hkl)
      have HE := Lib.hid (show (if (lk l s[k].t).isSome = false then 8 else if leB s[k].t last = true then 7 else if pct s[k].n = false then 1 else skE l s[k].t (s.drop (k + 1))) = r by rw [← HQ.out, drop_step s k hkl]; rfl)
      generalize s[k] = x at *
      obtain ⟨h1, h2, h3⟩ := hx
      have B1 := Lib.hid (HB.out.alloc hz (.cells #[.string x.t, .int .i64 x.n] 36))
      have F1 := Lib.hid (HF.out.below B1.out)
      obtain ⟨ph, hph⟩ : ∃ b, (lk l x.t).isSome = b := ⟨_, rfl⟩
      have HH := Lib.hid (has_walk F A n cap l x.t _ F1.out h1 ph (Lib.hid hph))
      obtain ⟨pp, hpp⟩ : ∃ b, pct x.n = b := ⟨_, rfl⟩
      have HP := Lib.hid (fun W => pct_walk x.n W h2 h3)
      rw [hpp] at HP
      rw [hph, hpp] at HE
      clear hc hph hpp HQ HB
      have a0 : (0 : Int) ≤ (k : Int) := by omega
      have a1 : (k : Int) < (n2 : Int) := by omega
      go_wp2_with fail
      refine (HH.out).mono ?_; rintro e w5 ⟨rfl, rfl⟩
      cases ph
      · have HR : Hid ((8 : Int) = r) := Lib.hid (by have := HE.out; simpa using this)
        go_wp2_with fail
        go_ret
        exact ⟨(by rw [← HR.out]; try rfl), B1.out⟩
      · unfold leB at HE
        cases h7 : Op.bytesLess x.t.toList last.toList <;> cases h8 : (x.t.toList == last.toList)
        all_goals
          rw [h7, h8] at HE
          have hl := HE.out
          simp only [Bool.or_false, Bool.or_true, Bool.false_eq_true, Bool.true_eq_false, if_true, if_false] at hl
          have HFF := Lib.hid hl
          clear hl HE
          first
            | (go_wp2_with fail
               go_ret
               exact ⟨(by rw [← HFF.out]; try rfl), B1.out⟩)
            | (go_wp2_with fail
               refine (HP.out _).mono ?_; rintro e w6 ⟨rfl, rfl⟩
               cases pp
               · have HR : Hid ((1 : Int) = r) := Lib.hid (by have := HFF.out; simpa using this)
                 go_wp2_with fail
                 go_ret
                 exact ⟨(by rw [← HR.out]; try rfl), B1.out⟩
               · have HR : Hid (skE l x.t (s.drop (k + 1)) = r) := Lib.hid (by have := HFF.out; simpa using this)
                 go_wp2_with fail
                 go_roundw
                 case rel => exact ⟨k + 1, x.t, by omega, by go_num, rfl, HR, B1⟩
                 case measure => simp [intOf]; omega)
    · have hkn : k = n2 := by omega
      subst hkn
      have HR : Hid ((0 : Int) = r) := Lib.hid (by have := HQ.out; rw [List.drop_eq_nil_of_le (by rw [HL.out]; exact Nat.le_refl _)] at this; exact this)
      go_wp2_with fail
      go_ret
      exact ⟨(by rw [← HR.out]; try rfl), HB.out⟩
end Go.Proofs.YtnjigaklkalebaaDoor.For
