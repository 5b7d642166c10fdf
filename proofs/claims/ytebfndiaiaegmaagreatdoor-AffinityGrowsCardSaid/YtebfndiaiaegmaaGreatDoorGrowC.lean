/-
  THE LAW's CLOSURE: whether one of some skills is of a topic.
-/
import Derived.Test.YtebfndiaiaegmaaGreatDoorGrowS
namespace Go.Proofs.YtebfndiaiaegmaaGreatDoor.For
open Go.ChangeShapes Go.WideShapes Go.ChangeAt Go.RowKit Stm Key
set_option linter.unusedVariables false

def hasT (s : List Sk) (k : ByteArray) : Bool := s.any fun x => x.t.toList == k.toList
theorem hasT_next {s : List Sk} {t : ByteArray} {k : Nat} (h : k < s.length) : hasT (s.take (k + 1)) t = (hasT (s.take k) t || s[k].t.toList == t.toList) := by
  unfold hasT; rw [take_next _ _ h, List.any_append]; simp
theorem hasT_hit {s : List Sk} {t : ByteArray} {k : Nat} (h : k < s.length) (hm : (s[k].t.toList == t.toList) = true) : hasT s t = true := List.any_eq_true.2 ⟨s[k], List.getElem_mem h, hm⟩
theorem hasT_no {s : List Sk} {t : ByteArray} (h : hasT s t = false) : ∀ y ∈ s, y.t.data.toList ≠ t.data.toList := fun y hy e => by
  have : hasT s t = true := List.any_eq_true.2 ⟨y, hy, by rw [Lib.toList_data, Lib.toList_data, e]; simp⟩
  rw [this] at h; cases h
theorem knownfn_walk (C : Nat) (x : Sk) (k : ByteArray) (w : World) (hC : w.cell? ⟨C, 0, none⟩ = some (.string k)) (hlt : C < w.heap.size) (r : Bool) (hr : Hid ((x.t.toList == k.toList) = r)) :
    Calls Tryz.prog 14 #[.agg #[.string x.t, .int .i64 x.n], .pointer (some ⟨C, 0, none⟩)] w fun e w' => e = .returned (.bool r) ∧ Below w.heap.size w w' := by
  have HR := hr.out
  have HB := Lib.hid ((Below.refl w.heap.size w).alloc (Nat.le_refl _) (.cells #[.string x.t, .int .i64 x.n] 50))
  go_enter Tryz.func14, Tryz.ntmps14
  cases r
  all_goals
    go_wp2_with fail
    go_ret
    exact ⟨rfl, HB.out⟩
def IkRet (b : Bool) (w : World) (e : Ending) (w' : World) : Prop := ∃ r : Int, e = .returned (.int .i64 r) ∧ ((b = true ∧ 0 ≤ r) ∨ (b = false ∧ r = -1)) ∧ Below w.heap.size w w'

set_option maxRecDepth 100000 in
set_option maxHeartbeats 4000000 in
theorem indexk_walk (C : Nat) (k : ByteArray) (A3 : Option Addr) (n3 c3 : Nat) (s : List Sk) (w : World) (hC : w.cell? ⟨C, 0, none⟩ = some (.string k)) (hlt : C < w.heap.size) (hs : KL w A3 s) (hkt : s.length = n3) (h8 : n3 ≤ 1000) :
    Calls Tryz.prog 34 #[.slice A3 n3 c3, .func (.func 14) #[] #[.pointer (some ⟨C, 0, none⟩)]] w (IkRet (hasT s k) w) := by
  have HC : Hid (∀ W, Below w.heap.size w W → W.cell? ⟨C, 0, none⟩ = some (.string k) ∧ C < W.heap.size) := Lib.hid fun W hW => ⟨(hW.cell (p := ⟨C, 0, none⟩) hlt).trans hC, Nat.lt_of_lt_of_le hlt hW.size⟩
  have HT : Hid (∀ W, Below w.heap.size w W → KL W A3 s) := Lib.hid fun W hW => hs.below hW
  have HK := Lib.hid hkt
  clear hC hs hkt hlt
  go_enter Tryz.func34, Tryz.ntmps34
  go_wp2_with fail
  go_loopw [8] (fun i wr => ∃ j : Nat, j ≤ n3 ∧ i = .int .i64 j ∧ Hid (hasT (s.take j) k = false) ∧ Hid (Below w.heap.size w wr)) (fun i _ => n3 - (intOf i).toNat)
  case atStart => exact ⟨0, Nat.zero_le _, rfl, Lib.hid rfl, Lib.hid (Below.refl _ _)⟩
  case round =>
    obtain ⟨j, hj, rfl, HM, HB⟩ := hrel
    by_cases hlt : j < n3
    · have hkl : j < s.length := by rw [HK.out]; exact hlt
      obtain ⟨g, hA, hgl, hc⟩ := (HT.out _ HB.out).2 (by omega)
      subst hA
      obtain ⟨c0, c1⟩ := hc j hkl
      have HNX := Lib.hid (hasT_next (t := k) hkl)
      have HHIT := Lib.hid (hasT_hit (t := k) hkl)
      generalize s[j] = x at *
      obtain ⟨b, hb⟩ : ∃ b, (x.t.toList == k.toList) = b := ⟨_, rfl⟩
      have HW := Lib.hid (fun W hW => knownfn_walk C x k W (HC.out W hW).1 (HC.out W hW).2 b (Lib.hid hb))
      rw [hb] at HNX HHIT
      have a0 : (0 : Int) ≤ (j : Int) := by omega
      have a1 : (j : Int) < (n3 : Int) := by omega
      clear hc hb
      go_wp2_with fail
      refine (HW.out _ (by first | exact HB.out | exact HB.out.drew)).mono ?_; rintro e w1 ⟨rfl, hb1⟩
      have HB1 : Hid (Below w.heap.size w w1) := Lib.hid (by first | exact HB.out.trans (hb1.mono HB.out.size) | exact HB.out.drew.trans (hb1.mono HB.out.size))
      clear hb1
      cases b
      · have HM2 : Hid (hasT (s.take (j + 1)) k = false) := Lib.hid (by rw [HNX.out, HM.out]; rfl)
        go_wp2_with fail
        go_round
        case rel => exact ⟨j + 1, by omega, by go_num, HM2, HB1⟩
        case measure => simp [intOf]; omega
      · have HE := Lib.hid (HHIT.out rfl)
        go_wp2_with fail
        go_ret
        exact ⟨_, rfl, Or.inl ⟨HE.out, a0⟩, HB1.out⟩
    · have hkn : j = n3 := by omega
      subst hkn
      have HE : Hid (hasT s k = false) := Lib.hid (by have := HM.out; rwa [List.take_of_length_le (by rw [HK.out]; exact Nat.le_refl _)] at this)
      go_wp2_with fail
      go_ret
      exact ⟨_, rfl, Or.inr ⟨HE.out, rfl⟩, HB.out⟩
theorem containsk_walk (C : Nat) (k : ByteArray) (A3 : Option Addr) (n3 c3 : Nat) (s : List Sk) (w : World) (hC : w.cell? ⟨C, 0, none⟩ = some (.string k)) (hlt : C < w.heap.size) (hs : KL w A3 s) (hkt : s.length = n3) (h8 : n3 ≤ 1000) (b : Bool) (hb : Hid (hasT s k = b)) :
    Calls Tryz.prog 13 #[.slice A3 n3 c3, .func (.func 14) #[] #[.pointer (some ⟨C, 0, none⟩)]] w fun e w' => e = .returned (.bool b) ∧ Below w.heap.size w w' := by
  have H := Lib.hid (indexk_walk C k A3 n3 c3 s w hC hlt hs hkt h8)
  rw [hb.out] at H
  clear hC hs hkt hb
  go_enter Tryz.func13, Tryz.ntmps13
  go_wp2_with fail
  refine (H.out).mono ?_; rintro e w1 ⟨r, rfl, hor, hB⟩
  have HB := Lib.hid hB
  clear hB
  rcases hor with ⟨hb, h0⟩ | ⟨hb, rfl⟩
  · have hd : decide (r ≥ 0) = true := by simpa using h0
    subst hb
    clear h0
    go_wp2_with fail
    go_ret
    exact ⟨rfl, HB.out⟩
  · subst hb
    go_wp2_with fail
    go_ret
    exact ⟨rfl, HB.out⟩
end Go.Proofs.YtebfndiaiaegmaaGreatDoor.For
