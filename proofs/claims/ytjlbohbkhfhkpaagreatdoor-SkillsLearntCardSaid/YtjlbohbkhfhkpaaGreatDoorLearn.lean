/-
  WHAT SOMEBODY LEARNS OF PAPERS (package topic): hasAll, Learn.
-/
import Derived.Test.YtjlbohbkhfhkpaaGreatDoorSpread
import Derived.Test.YtjlbohbkhfhkpaaGreatDoorPapersAny
import Derived.Maps.OwnOps
import Derived.Deep.RegionLaw
import Derived.Deep.AppendLies
import Derived.Deep.DrawnRows
namespace Go.Proofs.YtjlbohbkhfhkpaaGreatDoor.For
open Go.ChangeShapes Go.WideShapes Go.ChangeAt Go.RowKit Stm Key
set_option linter.unusedVariables false
attribute [local go_sem ↓] Go.wp_at_zero Go.wp_at_succ

def misTop (l : List Tp) (ts : List ByteArray) : Bool := ts.any fun x => (lk l x).isNone
theorem misTop_next {l : List Tp} {ts : List ByteArray} {k : Nat} (h : k < ts.length) : misTop l (ts.take (k + 1)) = (misTop l (ts.take k) || (lk l ts[k]).isNone) := by
  unfold misTop; rw [take_next _ _ h, List.any_append]; simp
theorem misTop_hit {l : List Tp} {ts : List ByteArray} {k : Nat} (h : k < ts.length) (hm : (lk l ts[k]).isNone = true) : misTop l ts = true := List.any_eq_true.2 ⟨ts[k], List.getElem_mem h, hm⟩

theorem hasfn_walk (F C n cap : Nat) (A : Option Addr) (l : List Tp) (a : ByteArray) (w : World) (hF : FM w F A n cap l) (hC : w.cell? ⟨C, 0, none⟩ = some (.pointer (some ⟨F, 0, none⟩))) (ha : a.size ≤ 1000) (r : Bool) (hr : Hid ((lk l a).isNone = r)) :
    Calls Tryz.prog 59 #[.string a, .pointer (some ⟨C, 0, none⟩)] w fun e w' => e = .returned (.bool r) ∧ w' = w := by
  have H := Lib.hid (has_walk F A n cap l a w hF ha (!r) (Lib.hid (by rw [← hr.out]; cases lk l a <;> rfl)))
  clear hF hr
  go_enter Tryz.func59, Tryz.ntmps59
  cases r
  all_goals
    go_wp2_with fail
    refine (H.out).mono ?_; rintro e w1 ⟨rfl, rfl⟩
    go_wp2_with fail
    go_ret
    exact ⟨rfl, rfl⟩
def IxRet (b : Bool) (w : World) (e : Ending) (w' : World) : Prop := ∃ r : Int, e = .returned (.int .i64 r) ∧ ((b = true ∧ 0 ≤ r) ∨ (b = false ∧ r = -1)) ∧ w' = w

set_option maxRecDepth 100000 in
set_option maxHeartbeats 4000000 in
theorem indexfn_walk (F C n cap : Nat) (A : Option Addr) (l : List Tp) (A3 : Option Addr) (n3 c3 : Nat) (ts : List ByteArray) (w : World) (hF : FM w F A n cap l) (hC : w.cell? ⟨C, 0, none⟩ = some (.pointer (some ⟨F, 0, none⟩))) (ht : SL w A3 ts) (hkt : ts.length = n3) (h8 : n3 ≤ 1000) :
    Calls Tryz.prog 79 #[.slice A3 n3 c3, .func (.func 59) #[] #[.pointer (some ⟨C, 0, none⟩)]] w (IxRet (misTop l ts) w) := by
  have HF := Lib.hid hF
  have HC := Lib.hid hC
  have HT := Lib.hid ht
  have HK := Lib.hid hkt
  clear hF hC ht hkt
  go_enter Tryz.func79, Tryz.ntmps79
  go_wp2_with fail
  go_loop [8] (fun i => ∃ k : Nat, k ≤ n3 ∧ i = .int .i64 k ∧ Hid (misTop l (ts.take k) = false)) (fun i => n3 - (intOf i).toNat)
  case atStart => exact ⟨0, Nat.zero_le _, rfl, Lib.hid rfl⟩
  case round =>
    obtain ⟨k, hk, rfl, HM⟩ := hrel
    by_cases hlt : k < n3
    · have hkl : k < ts.length := by rw [HK.out]; exact hlt
      obtain ⟨g, hA, hgl, hc⟩ := HT.out.2 (by omega)
      subst hA
      have c0 := hc k hkl
      have hx := HT.out.1 _ (List.getElem_mem hkl)
      have HNX := Lib.hid (misTop_next (l := l) hkl)
      have HHIT := Lib.hid (misTop_hit (l := l) hkl)
      generalize ts[k] = x at *
      obtain ⟨b, hb⟩ : ∃ b, (lk l x).isNone = b := ⟨_, rfl⟩
      have HW := Lib.hid (hasfn_walk F C n cap A l x w HF.out HC.out hx b (Lib.hid hb))
      rw [hb] at HNX HHIT
      have a0 : (0 : Int) ≤ (k : Int) := by omega
      have a1 : (k : Int) < (n3 : Int) := by omega
      clear hc hb
      go_wp2_with fail
      refine (HW.out).mono ?_; rintro e w1 ⟨rfl, rfl⟩
      cases b
      · have HM2 : Hid (misTop l (ts.take (k + 1)) = false) := Lib.hid (by rw [HNX.out, HM.out]; rfl)
        go_wp2_with fail
        go_round
        case rel => exact ⟨k + 1, by omega, by go_num, HM2⟩
        case measure => simp [intOf]; omega
      · have HE := Lib.hid (HHIT.out rfl)
        go_wp2_with fail
        go_ret
        exact ⟨_, rfl, Or.inl ⟨HE.out, a0⟩, rfl⟩
    · have hkn : k = n3 := by omega
      subst hkn
      have HE : Hid (misTop l ts = false) := Lib.hid (by have := HM.out; rwa [List.take_of_length_le (by rw [HK.out]; exact Nat.le_refl _)] at this)
      go_wp2_with fail
      go_ret
      exact ⟨_, rfl, Or.inr ⟨HE.out, rfl⟩, rfl⟩
theorem containsfn_walk (F C n cap : Nat) (A : Option Addr) (l : List Tp) (A3 : Option Addr) (n3 c3 : Nat) (ts : List ByteArray) (w : World) (hF : FM w F A n cap l) (hC : w.cell? ⟨C, 0, none⟩ = some (.pointer (some ⟨F, 0, none⟩))) (ht : SL w A3 ts) (hkt : ts.length = n3) (h8 : n3 ≤ 1000) :
    Calls Tryz.prog 58 #[.slice A3 n3 c3, .func (.func 59) #[] #[.pointer (some ⟨C, 0, none⟩)]] w fun e w' => e = .returned (.bool (misTop l ts)) ∧ w' = w := by
  have H := Lib.hid (indexfn_walk F C n cap A l A3 n3 c3 ts w hF hC ht hkt h8)
  clear hF hC ht hkt
  go_enter Tryz.func58, Tryz.ntmps58
  go_wp2_with fail
  refine (H.out).mono ?_; rintro e w1 ⟨r, rfl, hor, rfl⟩
  rcases hor with ⟨hb, h0⟩ | ⟨hb, rfl⟩
  · have hd : decide (r ≥ 0) = true := by simpa using h0
    have HB := Lib.hid hb
    clear hb h0
    go_wp2_with fail
    go_ret
    exact ⟨by rw [HB.out]; try rfl, rfl⟩
  · have HB := Lib.hid hb
    clear hb
    go_wp2_with fail
    go_ret
    exact ⟨by rw [HB.out]; try rfl, rfl⟩
theorem hasall_walk (F n cap : Nat) (A : Option Addr) (l : List Tp) (A3 : Option Addr) (n3 c3 : Nat) (ts : List ByteArray) (w : World) (hF : FM w F A n cap l) (ht : SL w A3 ts) (hkt : ts.length = n3) (h8 : n3 ≤ 1000) (b : Bool) (hb : Hid (misTop l ts = b)) :
    Calls Tryz.prog 36 #[.pointer (some ⟨F, 0, none⟩), .slice A3 n3 c3] w fun e w' => e = .returned (.bool (!b)) ∧ Below w.heap.size w w' := by
  have b0 : Below w.heap.size w (w.alloc (.cells #[.pointer (some ⟨F, 0, none⟩)] 63)) := (Below.refl _ _).alloc (Nat.le_refl _) _
  have H := Lib.hid (containsfn_walk F w.heap.size n cap A l A3 n3 c3 ts _ (hF.below b0) ((Blk.new w 63 #[.pointer (some ⟨F, 0, none⟩)]).cell 0 _ rfl) (ht.below b0) hkt h8)
  rw [hb.out] at H
  have B0 := Lib.hid b0
  clear hF ht hkt hb b0
  go_enter Tryz.func36, Tryz.ntmps36
  cases b
  all_goals
    go_wp2_with fail
    refine (H.out).mono ?_; rintro e w1 ⟨rfl, rfl⟩
    go_wp2_with fail
    go_ret
    exact ⟨rfl, B0.out⟩
end Go.Proofs.YtjlbohbkhfhkpaaGreatDoor.For
