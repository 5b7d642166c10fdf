/-
  THE CONTRACTS OF PLAIN STRINGS: syntax.Plain, and the reference's PlainOf: one function of the string's bytes.
-/
import Derived.Test.YtjlbohbkhfhkpaaGreatDoorGTexts
import Derived.Test.YtjlbohbkhfhkpaaGreatDoorGRefTop
import Derived.Shelf.Strings.Search3
import Derived.Shelf.Strings.Prefix
namespace Go.Proofs.YtjlbohbkhfhkpaaGreatDoor.Key
open Go.ChangeShapes Go.WideShapes Go.ChangeAt Go.RowKit
set_option linter.unusedVariables false

def plainL (l : List UInt8) : Bool := formL false l && !(Lib.hasPrefix l [32] || Lib.hasSuffix l [32]) && !Lib.contains l [32, 32]

theorem dropWhile_le {α : Type} (p : α → Bool) (l : List α) : (l.dropWhile p).length ≤ l.length := by
  induction l with
  | nil => simp
  | cons a l ih => rw [List.dropWhile_cons]; split <;> simp <;> omega
theorem trim_blank (l : List UInt8) : (Lib.trimS l [32] == l) = !(Lib.hasPrefix l [32] || Lib.hasSuffix l [32]) := by
  have hc : ∀ b : UInt8, ([32] : List UInt8).contains b = (b == 32) := fun b => by simp [List.contains, List.elem]; cases (b == 32) <;> rfl
  have hsuf : Lib.hasSuffix l [32] = (match l.reverse with | [] => false | b :: _ => (32 == b)) := by
    unfold Lib.hasSuffix List.isSuffixOf
    cases l.reverse with
    | nil => rfl
    | cons b t => simp [List.isPrefixOf]
  have hpre : Lib.hasPrefix l [32] = (match l with | [] => false | b :: _ => (32 == b)) := by
    unfold Lib.hasPrefix
    cases l with
    | nil => rfl
    | cons b t => simp [List.isPrefixOf]
  have hlr : l.reverse.length = l.length := List.length_reverse
  unfold Lib.trimS Lib.trimLeftS Lib.trimRightS
  rw [hsuf, hpre]
  cases hr : l.reverse with
  | nil =>
    have : l = [] := by simpa using hr
    subst this
    rfl
  | cons b t =>
    rw [hr] at hlr
    by_cases hb : b = 32
    · subst hb
      have h1 : ([32] : List UInt8).contains 32 = true := rfl
      rw [List.dropWhile_cons_of_pos h1]
      have h2 := dropWhile_le (([32] : List UInt8).contains ·) ((t.dropWhile (([32] : List UInt8).contains ·)).reverse)
      have h3 := dropWhile_le (([32] : List UInt8).contains ·) t
      have h4 : (((t.dropWhile (([32] : List UInt8).contains ·)).reverse).dropWhile (([32] : List UInt8).contains ·) == l) = false := by
        rw [beq_eq_false_iff_ne]
        intro e
        have := congrArg List.length e
        simp only [List.length_reverse, List.length_cons] at this h2 hlr
        omega
      rw [h4]
      cases l <;> simp
    · have h1 : ([32] : List UInt8).contains b = false := by rw [hc]; simpa using hb
      rw [List.dropWhile_cons_of_neg (by rw [h1]; simp)]
      have h2 : (b :: t).reverse = l := by rw [← hr, List.reverse_reverse]
      rw [h2]
      cases l with
      | nil => simp at hr
      | cons a s =>
        by_cases ha : a = 32
        · subst ha
          have h3 : ([32] : List UInt8).contains 32 = true := rfl
          rw [List.dropWhile_cons_of_pos h3]
          have h4 := dropWhile_le (([32] : List UInt8).contains ·) s
          have h5 : (s.dropWhile (([32] : List UInt8).contains ·) == 32 :: s) = false := by
            rw [beq_eq_false_iff_ne]
            intro e
            have := congrArg List.length e
            simp only [List.length_cons] at this
            omega
          rw [h5]; simp
        · have h3 : ([32] : List UInt8).contains a = false := by rw [hc]; simpa using ha
          rw [List.dropWhile_cons_of_neg (by rw [h3]; simp)]
          have e1 : ((32 : UInt8) == b) = false := by rw [beq_eq_false_iff_ne]; exact fun e => hb e.symm
          have e2 : ((32 : UInt8) == a) = false := by rw [beq_eq_false_iff_ne]; exact fun e => ha e.symm
          simp [e1, e2]

theorem contains_any (s p : ByteArray) (w : World) (hs : s.size ≤ 1000000) (hT : Tabs w) :
    Calls Tryz.prog 101 #[.string s, .string p] w fun e w' => e = .returned (.bool (Lib.contains s.data.toList p.data.toList)) ∧ w' = w := by
  obtain ⟨m, hm⟩ := hT.2
  exact Any.strings_Contains Tryz.lays144 s p m w (by omega) hm

set_option maxHeartbeats 2000000 in
theorem plain_walk (s : ByteArray) (w : World) (hs : s.size ≤ 1000000) (hg : gTop ≤ w.heap.size) (hT : Tabs w) (r : Bool) (hr : Hid (plainL s.data.toList = r)) :
    Calls Tryz.prog 76 #[.string s] w fun e w' => e = .returned (.bool r) ∧ Below w.heap.size w w' := by
  have HV := Lib.hid (valid_any s w (by omega) hT)
  have HF : Hid (Calls Tryz.prog 99 #[.string s, .string ⟨#[32]⟩] w fun e w' => e = .returned (.bool (Lib.hasSuffix s.data.toList [32])) ∧ w' = w) := Lib.hid (suffix_any s ⟨#[32]⟩ w (by omega))
  have HP : Hid (Calls Tryz.prog 69 #[.string s, .string ⟨#[32]⟩] w fun e w' => e = .returned (.bool (Lib.hasPrefix s.data.toList [32])) ∧ w' = w) := Lib.hid (Any.strings_HasPrefix Tryz.lays99 s ⟨#[32]⟩ w)
  have HC : Hid (∀ W, Below w.heap.size w W → Calls Tryz.prog 101 #[.string s, .string ⟨#[32, 32]⟩] W fun e w' => e = .returned (.bool (Lib.contains s.data.toList [32, 32])) ∧ w' = W) := Lib.hid fun W hW => contains_any s ⟨#[32, 32]⟩ W hs (hT.below (hW.mono hg))
  clear hT
  go_enter Tryz.func76, Tryz.ntmps76
  go_wp2_with fail
  go_loop [7] (fun i => ∃ k : Nat, k ≤ s.size ∧ i = .int .i64 k ∧ Hid (okL false (s.data.toList.take k) = true)) (fun i => s.size - (intOf i).toNat)
  case atStart => exact ⟨0, Nat.zero_le _, rfl, Lib.hid rfl⟩
  case round =>
    obtain ⟨k, hk, rfl, HK⟩ := hrel
    by_cases hlt : k < s.size
    · have hbk := s[k].toNat_lt
      have HN : Hid (okI false s[k].toNat = false → plainL s.data.toList = false) := Lib.hid fun h => by
        have : okL false s.data.toList = false := all_no _ s k hlt h
        unfold plainL formL; rw [this]; rfl
      have HY : Hid (okI false s[k].toNat = true → okL false (s.data.toList.take (k + 1)) = true) := Lib.hid fun h => by
        have := HK.out; unfold okL at this ⊢; rw [all_snoc _ s k hlt, this, h]; rfl
      have hq : okI false s[k].toNat = !(ctlI s[k].toNat) := by
        generalize (s[k].toNat : Int) = c
        unfold okI ctlI; by_cases a : c < 32 <;> by_cases b : c = 127 <;> simp [a, b]
      cases h1 : ctlI s[k].toNat
      all_goals
        rw [h1] at hq
        have HQ := Lib.hid hq; clear hq
        have H1 := Lib.hid h1; clear h1
        go_wp2_with (go_at_call 98; refine (control_any _ _ (by omega) (by omega)).mono ?_; rintro e w' ⟨rfl, rfl⟩; rw [H1.out])
        first
          | (go_round
             case rel => exact ⟨k + 1, by omega, by go_num, Lib.hid (HY.out HQ.out)⟩
             case measure => simp [intOf]; omega)
          | (go_ret; exact ⟨ret_bool (by rw [← hr.out, HN.out HQ.out]), Below.refl _ _⟩)
    · have hok := okL_end false s k hlt HK.out
      have hres : plainL s.data.toList = (Lib.validD s.data.toList && !(Lib.hasPrefix s.data.toList [32] || Lib.hasSuffix s.data.toList [32]) && !Lib.contains s.data.toList [32, 32]) := by unfold plainL formL; rw [hok]; rfl
      have HR := Lib.hid (hres.symm.trans hr.out)
      clear hok hres hr HK
      generalize Lib.validD s.data.toList = v at HV HR
      generalize Lib.hasPrefix s.data.toList [32] = p1 at HP HR
      generalize Lib.hasSuffix s.data.toList [32] = p2 at HF HR
      generalize Lib.contains s.data.toList [32, 32] = p3 at HC HR
      cases p1 <;> cases p2 <;> cases v <;> cases p3
      all_goals
        go_wp2_with (first
          | (go_at_call 69; with_reducible refine (HP.out).mono ?_; rintro e w1 ⟨rfl, rfl⟩)
          | (go_at_call 99; with_reducible refine (HF.out).mono ?_; rintro e w1 ⟨rfl, rfl⟩)
          | (go_at_call 100; with_reducible refine (HV.out).mono ?_; rintro e w1 ⟨rfl, hB⟩)
          | (go_at_call 101; with_reducible refine (HC.out _ hB).mono ?_; rintro e w2 ⟨rfl, rfl⟩))
        go_ret; exact ⟨ret_bool (by rw [← HR.out]; rfl), hB⟩
theorem plain_any (s : ByteArray) (w : World) (hs : s.size ≤ 1000000) (hg : gTop ≤ w.heap.size) (hT : Tabs w) :
    Calls Tryz.prog 76 #[.string s] w fun e w' => e = .returned (.bool (plainL s.data.toList)) ∧ Below w.heap.size w w' := plain_walk s w hs hg hT _ (Lib.hid rfl)

set_option maxHeartbeats 2000000 in
theorem plainOf_walk (s : ByteArray) (w : World) (hs : s.size ≤ 1000000) (hg : gTop ≤ w.heap.size) (hT : Tabs w) (r : Bool) (hr : Hid (plainL s.data.toList = r)) :
    Calls Tryz.prog 80 #[.string s] w fun e w' => e = .returned (.bool r) ∧ Below w.heap.size w w' := by
  have HW := Lib.hid (formed_any s false w (by omega) hg hT)
  have HT : Hid (∀ W, Calls Tryz.prog 74 #[.string s, .string ⟨#[32]⟩] W fun e w' => e = .returned (.string ⟨(Lib.trimS s.data.toList [32]).toArray⟩) ∧ Below W.heap.size W w') := Lib.hid fun W => Any.strings_Trim_laid Tryz.lays160 (by kernel_rfl) s ⟨#[32]⟩ W (by omega) (by decide) (ascii_of_all (by decide))
  have HC : Hid (∀ W, Below w.heap.size w W → Calls Tryz.prog 101 #[.string s, .string ⟨#[32, 32]⟩] W fun e w' => e = .returned (.bool (Lib.contains s.data.toList [32, 32])) ∧ w' = W) := Lib.hid fun W hW => contains_any s ⟨#[32, 32]⟩ W hs (hT.below (hW.mono hg))
  have heq : ((⟨(Lib.trimS s.data.toList [32]).toArray⟩ : ByteArray).toList == s.toList) = !(Lib.hasPrefix s.data.toList [32] || Lib.hasSuffix s.data.toList [32]) := by
    rw [Lib.toList_data, Lib.toList_data]; exact trim_blank _
  unfold plainL at hr
  rw [← heq] at hr
  clear heq hT
  generalize (⟨(Lib.trimS s.data.toList [32]).toArray⟩ : ByteArray) = tr at HT hr
  generalize formL false s.data.toList = v at HW hr
  generalize Lib.contains s.data.toList [32, 32] = p3 at HC hr
  cases hq : (tr.toList == s.toList)
  all_goals
    rw [hq] at hr
    cases v <;> cases p3
    all_goals
      go_enter Tryz.func80, Tryz.ntmps80
      go_wp2_with fail
      refine (HW.out).mono ?_; rintro e w1 ⟨rfl, hB⟩
      have HB := Lib.hid hB; clear hB
      go_wp2_with (first
        | (go_at_call 74; with_reducible refine (HT.out _).mono ?_; rintro e w2 ⟨rfl, hB⟩; have HB2 := Lib.hid (HB.out.trans (hB.mono HB.out.size)); clear hB)
        | (go_at_call 101; with_reducible refine (HC.out _ HB2.out).mono ?_; rintro e w3 ⟨rfl, rfl⟩))
      go_ret; exact ⟨ret_bool (by rw [← hr.out]; rfl), by first | exact HB2.out | exact HB.out⟩
theorem plainOf_any (s : ByteArray) (w : World) (hs : s.size ≤ 1000000) (hg : gTop ≤ w.heap.size) (hT : Tabs w) :
    Calls Tryz.prog 80 #[.string s] w fun e w' => e = .returned (.bool (plainL s.data.toList)) ∧ Below w.heap.size w w' := plainOf_walk s w hs hg hT _ (Lib.hid rfl)
end Go.Proofs.YtjlbohbkhfhkpaaGreatDoor.Key
