/-
  WHERE A QUESTION IS: IndexFunc and ContainsFunc over questions, with the closures of newSheet and of the reference's questionAt; index.Of.
-/
import Derived.Test.YthglfcfnejjpjaaGreatDoorSheetP
namespace Go.Proofs.YthglfcfnejjpjaaGreatDoor.Rev
open Go.ChangeShapes Go.WideShapes Go.ChangeAt Go.RowKit Stm Key
set_option linter.unusedVariables false

/-- What IndexFunc finds. -/
def IdxRet (l : List Qs) (k : ByteArray) (w : World) (e : Ending) (w' : World) : Prop := ∃ r : Int, e = .returned (.int .i64 r) ∧ ((∃ (i : Nat) (h : i < l.length), r = i ∧ eqS l[i].k k = true ∧ hasK (l.take i) k = false) ∨ (r = -1 ∧ hasK l k = false)) ∧ Below w.heap.size w w'
/-- A closure that asks whether a question has a key, which it holds by its address. -/
def FnK (F C : Nat) (k : ByteArray) (w : World) : Prop := ∀ W, Below w.heap.size w W → ∀ (q : Qs) (v : Value), Calls Tryz.prog F #[.agg #[.string q.k, .int .i64 q.d, .int .i64 q.m, v, .bool q.nd, .bool q.sc], .pointer (some ⟨C, 0, none⟩)] W fun e w' => e = .returned (.bool (eqS q.k k)) ∧ Below W.heap.size W w'

theorem fn39 (C : Nat) (k : ByteArray) (w : World) (hC : w.cell? ⟨C, 0, none⟩ = some (.string k)) (hlt : C < w.heap.size) : FnK 39 C k w := fun W hW q v => by
  have hc := (hW.cell (p := ⟨C, 0, none⟩) hlt).trans hC
  have hCW : C < W.heap.size := Nat.lt_of_lt_of_le hlt hW.size
  obtain ⟨b, hb⟩ : ∃ b, eqS q.k k = b := ⟨_, rfl⟩
  rw [hb]
  unfold eqS at hb
  have HB := Lib.hid ((Below.refl W.heap.size W).alloc (Nat.le_refl _) (.cells #[.string q.k, .int .i64 q.d, .int .i64 q.m, v, .bool q.nd, .bool q.sc] 45))
  clear hC hlt hW
  go_enter Tryz.func39, Tryz.ntmps39
  cases b
  all_goals
    go_wp2_with fail
    go_ret
    exact ⟨rfl, HB.out⟩
theorem fn49 (C : Nat) (k : ByteArray) (w : World) (hC : w.cell? ⟨C, 0, none⟩ = some (.string k)) (hlt : C < w.heap.size) : FnK 49 C k w := fun W hW q v => by
  have hc := (hW.cell (p := ⟨C, 0, none⟩) hlt).trans hC
  have hCW : C < W.heap.size := Nat.lt_of_lt_of_le hlt hW.size
  obtain ⟨b, hb⟩ : ∃ b, eqS q.k k = b := ⟨_, rfl⟩
  rw [hb]
  unfold eqS at hb
  have HB := Lib.hid ((Below.refl W.heap.size W).alloc (Nat.le_refl _) (.cells #[.string q.k, .int .i64 q.d, .int .i64 q.m, v, .bool q.nd, .bool q.sc] 45))
  clear hC hlt hW
  go_enter Tryz.func49, Tryz.ntmps49
  cases b
  all_goals
    go_wp2_with fail
    go_ret
    exact ⟨rfl, HB.out⟩

set_option maxRecDepth 100000 in
set_option maxHeartbeats 4000000 in
theorem indexq39 (C B : Nat) (k : ByteArray) (A : Option Addr) (n c : Nat) (l : List Qs) (w : World) (hF : FnK 39 C k w) (hq : QL B w A l) (hn : l.length = n) (h8 : n ≤ 1000) :
    Calls Tryz.prog 48 #[.slice A n c, .func (.func 39) #[] #[.pointer (some ⟨C, 0, none⟩)]] w (IdxRet l k w) := by
  have HF := Lib.hid hF
  have HT : Hid (∀ W, Below w.heap.size w W → QL B W A l) := Lib.hid fun W hW => hq.below hW
  have HK := Lib.hid hn
  clear hF hq hn
  go_enter Tryz.func48, Tryz.ntmps48
  go_wp2_with fail
  go_loopw [8] (fun i wr => ∃ j : Nat, j ≤ n ∧ i = .int .i64 j ∧ Hid (hasK (l.take j) k = false) ∧ Hid (Below w.heap.size w wr)) (fun i _ => n - (intOf i).toNat)
  case atStart => exact ⟨0, Nat.zero_le _, rfl, Lib.hid rfl, Lib.hid (Below.refl _ _)⟩
  case round =>
    obtain ⟨j, hj, rfl, HM, HB⟩ := hrel
    by_cases hlt : j < n
    · have hkl : j < l.length := by rw [HK.out]; exact hlt
      obtain ⟨g, hA, hgl, _, hc⟩ := (HT.out _ HB.out).2 (by omega)
      subst hA
      obtain ⟨c0, c1, c2, ⟨v, c3, hol⟩, c4, c5⟩ := hc j hkl
      have HNX : Hid (hasK (l.take (j + 1)) k = (hasK (l.take j) k || eqS l[j].k k)) := Lib.hid (by rw [take_snoc' l j hkl, hasK_snoc])
      have HHIT : Hid (eqS l[j].k k = true → ∃ (i : Nat) (h : i < l.length), (j : Int) = i ∧ eqS l[i].k k = true ∧ hasK (l.take i) k = false) := Lib.hid fun h => ⟨j, hkl, rfl, h, HM.out⟩
      obtain ⟨Ao, co, hv, _⟩ := hol
      generalize l[j] = x at *
      subst hv
      have HW := Lib.hid (fun W hW => HF.out W hW x (.slice Ao x.o.length co))
      obtain ⟨b, hb⟩ : ∃ b, eqS x.k k = b := ⟨_, rfl⟩
      rw [hb] at HNX HHIT HW
      have a0 : (0 : Int) ≤ (j : Int) := by omega
      have a1 : (j : Int) < (n : Int) := by omega
      clear hc hb
      go_wp2_with fail
      refine (HW.out _ (by first | exact HB.out | exact HB.out.drew)).mono ?_; rintro e w1 ⟨rfl, hb1⟩
      have HB1 : Hid (Below w.heap.size w w1) := Lib.hid (by first | exact HB.out.trans (hb1.mono HB.out.size) | exact HB.out.drew.trans (hb1.mono HB.out.size))
      clear hb1
      cases b
      · have HM2 : Hid (hasK (l.take (j + 1)) k = false) := Lib.hid (by rw [HNX.out, HM.out]; rfl)
        go_wp2_with fail
        go_round
        case rel => exact ⟨j + 1, by omega, by go_num, HM2, HB1⟩
        case measure => simp [intOf]; omega
      · have HE := Lib.hid (HHIT.out rfl)
        go_wp2_with fail
        go_ret
        exact ⟨_, rfl, Or.inl HE.out, HB1.out⟩
    · have hkn : j = n := by omega
      subst hkn
      have HE : Hid (hasK l k = false) := Lib.hid (by have := HM.out; rwa [List.take_of_length_le (by rw [HK.out]; exact Nat.le_refl _)] at this)
      go_wp2_with fail
      go_ret
      exact ⟨_, rfl, Or.inr ⟨rfl, HE.out⟩, HB.out⟩
set_option maxRecDepth 100000 in
set_option maxHeartbeats 4000000 in
theorem indexq49 (C B : Nat) (k : ByteArray) (A : Option Addr) (n c : Nat) (l : List Qs) (w : World) (hF : FnK 49 C k w) (hq : QL B w A l) (hn : l.length = n) (h8 : n ≤ 1000) :
    Calls Tryz.prog 48 #[.slice A n c, .func (.func 49) #[] #[.pointer (some ⟨C, 0, none⟩)]] w (IdxRet l k w) := by
  have HF := Lib.hid hF
  have HT : Hid (∀ W, Below w.heap.size w W → QL B W A l) := Lib.hid fun W hW => hq.below hW
  have HK := Lib.hid hn
  clear hF hq hn
  go_enter Tryz.func48, Tryz.ntmps48
  go_wp2_with fail
  go_loopw [8] (fun i wr => ∃ j : Nat, j ≤ n ∧ i = .int .i64 j ∧ Hid (hasK (l.take j) k = false) ∧ Hid (Below w.heap.size w wr)) (fun i _ => n - (intOf i).toNat)
  case atStart => exact ⟨0, Nat.zero_le _, rfl, Lib.hid rfl, Lib.hid (Below.refl _ _)⟩
  case round =>
    obtain ⟨j, hj, rfl, HM, HB⟩ := hrel
    by_cases hlt : j < n
    · have hkl : j < l.length := by rw [HK.out]; exact hlt
      obtain ⟨g, hA, hgl, _, hc⟩ := (HT.out _ HB.out).2 (by omega)
      subst hA
      obtain ⟨c0, c1, c2, ⟨v, c3, hol⟩, c4, c5⟩ := hc j hkl
      have HNX : Hid (hasK (l.take (j + 1)) k = (hasK (l.take j) k || eqS l[j].k k)) := Lib.hid (by rw [take_snoc' l j hkl, hasK_snoc])
      have HHIT : Hid (eqS l[j].k k = true → ∃ (i : Nat) (h : i < l.length), (j : Int) = i ∧ eqS l[i].k k = true ∧ hasK (l.take i) k = false) := Lib.hid fun h => ⟨j, hkl, rfl, h, HM.out⟩
      obtain ⟨Ao, co, hv, _⟩ := hol
      generalize l[j] = x at *
      subst hv
      have HW := Lib.hid (fun W hW => HF.out W hW x (.slice Ao x.o.length co))
      obtain ⟨b, hb⟩ : ∃ b, eqS x.k k = b := ⟨_, rfl⟩
      rw [hb] at HNX HHIT HW
      have a0 : (0 : Int) ≤ (j : Int) := by omega
      have a1 : (j : Int) < (n : Int) := by omega
      clear hc hb
      go_wp2_with fail
      refine (HW.out _ (by first | exact HB.out | exact HB.out.drew)).mono ?_; rintro e w1 ⟨rfl, hb1⟩
      have HB1 : Hid (Below w.heap.size w w1) := Lib.hid (by first | exact HB.out.trans (hb1.mono HB.out.size) | exact HB.out.drew.trans (hb1.mono HB.out.size))
      clear hb1
      cases b
      · have HM2 : Hid (hasK (l.take (j + 1)) k = false) := Lib.hid (by rw [HNX.out, HM.out]; rfl)
        go_wp2_with fail
        go_round
        case rel => exact ⟨j + 1, by omega, by go_num, HM2, HB1⟩
        case measure => simp [intOf]; omega
      · have HE := Lib.hid (HHIT.out rfl)
        go_wp2_with fail
        go_ret
        exact ⟨_, rfl, Or.inl HE.out, HB1.out⟩
    · have hkn : j = n := by omega
      subst hkn
      have HE : Hid (hasK l k = false) := Lib.hid (by have := HM.out; rwa [List.take_of_length_le (by rw [HK.out]; exact Nat.le_refl _)] at this)
      go_wp2_with fail
      go_ret
      exact ⟨_, rfl, Or.inr ⟨rfl, HE.out⟩, HB.out⟩
theorem hasK_hit {l : List Qs} {k : ByteArray} {i : Nat} (h : i < l.length) (he : eqS l[i].k k = true) : hasK l k = true := List.any_eq_true.2 ⟨l[i], List.getElem_mem h, he⟩
theorem ql_take {B : Nat} {w : World} {A : Option Addr} {l : List Qs} (h : QL B w A l) (k : Nat) : QL B w A (l.take k) :=
  ⟨fun x hx => h.1 x (List.mem_of_mem_take hx), fun h0 => by
    obtain ⟨b, hA, hlt, hne, hc⟩ := h.2 (by rw [List.length_take] at h0; omega)
    exact ⟨b, hA, hlt, hne, fun i hi => by
      have hi' : i < l.length := by rw [List.length_take] at hi; omega
      rw [List.getElem_take]; exact hc i hi'⟩⟩
theorem containsq_walk (C B : Nat) (k : ByteArray) (A : Option Addr) (n c : Nat) (l : List Qs) (w : World) (hC : w.cell? ⟨C, 0, none⟩ = some (.string k)) (hlt : C < w.heap.size) (hq : QL B w A l) (hn : l.length = n) (h8 : n ≤ 1000) (b : Bool) (hb : Hid (hasK l k = b)) :
    Calls Tryz.prog 38 #[.slice A n c, .func (.func 39) #[] #[.pointer (some ⟨C, 0, none⟩)]] w fun e w' => e = .returned (.bool b) ∧ Below w.heap.size w w' := by
  have H := Lib.hid (indexq39 C B k A n c l w (fn39 C k w hC hlt) hq hn h8)
  clear hC hq hn
  go_enter Tryz.func38, Tryz.ntmps38
  go_wp2_with fail
  refine (H.out).mono ?_; rintro e w1 ⟨r, rfl, hor, hB⟩
  have HB := Lib.hid hB
  clear hB
  rcases hor with ⟨i, hi, rfl, he, _⟩ | ⟨rfl, he⟩
  · have hb' := hb.out
    rw [hasK_hit hi he] at hb'
    subst hb'
    have hd : decide ((i : Int) ≥ 0) = true := by simp
    clear he
    go_wp2_with fail
    go_ret
    exact ⟨rfl, HB.out⟩
  · have hb' := hb.out
    rw [he] at hb'
    subst hb'
    clear he
    go_wp2_with fail
    go_ret
    exact ⟨rfl, HB.out⟩
theorem questionat_walk (B : Nat) (k : ByteArray) (A : Option Addr) (n c : Nat) (l : List Qs) (w : World) (hq : QL B w A l) (hn : l.length = n) (h8 : n ≤ 1000) :
    Calls Tryz.prog 28 #[.slice A n c, .string k] w (IdxRet l k w) := by
  have hb0 : Below w.heap.size w (w.alloc (.cells #[.string k] 9)) := (Below.refl _ _).alloc (Nat.le_refl _) _
  have H := Lib.hid (indexq49 w.heap.size B k A n c l (w.alloc (.cells #[.string k] 9)) (fn49 w.heap.size k _ ((Blk.new w 9 #[.string k]).cell 0 _ rfl) (by simp)) (hq.below hb0) hn h8)
  have HB := Lib.hid hb0
  clear hq hn hb0
  go_enter Tryz.func28, Tryz.ntmps28
  go_wp2_with fail
  refine (H.out).mono ?_; rintro e w1 ⟨r, rfl, hor, hB⟩
  have HOR := Lib.hid hor
  have HB1 := Lib.hid (HB.out.trans (hB.mono HB.out.size))
  clear hB hor
  go_wp2_with fail
  go_ret
  exact ⟨r, rfl, HOR.out, HB1.out⟩
end Go.Proofs.YthglfcfnejjpjaaGreatDoor.Rev
