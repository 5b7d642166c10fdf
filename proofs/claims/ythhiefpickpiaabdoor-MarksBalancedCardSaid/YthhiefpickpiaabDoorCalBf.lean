/-
  MARKS: the reference's floored; maps of strings to numbers, as functions.
-/
import Derived.Test.YthhiefpickpiaabDoorCalBv
import Derived.Test.YthhiefpickpiaabDoorCalP
import Derived.Test.YthhiefpickpiaabDoorCalF
namespace Go.Proofs.YthhiefpickpiaabDoor.Cal
open Go.ChangeShapes Go.WideShapes Go.ChangeAt Go.RowKit Stm Key
open Go.Maps (Keyed string_keyed)
set_option linter.unusedVariables false

set_option maxHeartbeats 1000000 in
theorem floored_walk (a b : Int) (w : World) (hb : 1 ≤ b) (hb2 : b ≤ 1000) (h1 : -9000000000000 ≤ a) (h2 : a ≤ 9000000000000) :
    Calls Tryd.prog 20 #[.int .i64 a, .int .i64 b] w fun e w' => e = .returned (.int .i64 (a / b)) ∧ w' = w := by
  obtain ⟨q1, q2, q3, q4⟩ := tdiv_bd (show 0 < b by omega) h1 h2
  have HF := Lib.hid (floor_eq a b (by omega))
  have hb0 : b ≠ 0 := by omega
  have hlo : a / b * b ≤ a := Int.ediv_mul_le a hb0
  have hhi : a < a / b * b + b := by
    have h := Int.lt_ediv_add_one_mul_self a (show 0 < b by omega)
    rw [Int.add_mul] at h; omega
  have hq1 : a / b ≤ a.tdiv b := by rw [HF.out]; split <;> omega
  have hq2 : a.tdiv b ≤ a / b + 1 := by rw [HF.out]; split <;> omega
  obtain ⟨q, hq⟩ : ∃ q, a / b = q := ⟨_, rfl⟩
  rw [hq] at hlo hhi hq1 hq2 ⊢
  clear hq HF
  go_enter Tryd.func20, Tryd.ntmps20
  go_wp2_with fail
  go_loop [5] (fun v => ∃ z : Int, q ≤ z ∧ z ≤ q + 1 ∧ v = .int .i64 z) (fun v => (intOf v - q).toNat)
  case atStart => exact ⟨_, hq1, hq2, rfl⟩
  case round =>
    clear q1 q2 q3 q4 hq1 hq2
    obtain ⟨z, hz1, hz2, rfl⟩ := hrel
    have hzb : q * b ≤ z * b ∧ z * b ≤ q * b + b := by
      rcases (show z = q ∨ z = q + 1 by omega) with rfl | rfl
      · omega
      · rw [Int.add_mul]; omega
    obtain ⟨p1, p2⟩ := hzb
    have p3 : -9000000001000 ≤ z * b := by omega
    have p4 : z * b ≤ 9000000001000 := by omega
    have p5 : -9000000001000 ≤ z := by
      rcases Int.le_total 0 z with h | h
      · omega
      · have := Int.mul_le_mul_of_nonneg_left (show (1 : Int) ≤ b by omega) (show 0 ≤ -z by omega)
        rw [Int.neg_mul, Int.neg_mul] at this; omega
    have p6 : z ≤ 9000000001000 := by
      rcases Int.le_total 0 z with h | h
      · have := Int.mul_le_mul_of_nonneg_left (show (1 : Int) ≤ b by omega) h; omega
      · omega
    by_cases hlt : a < z * b
    · have hz : q < z := by
        rcases (show z = q ∨ q < z by omega) with rfl | h
        · omega
        · exact h
      clear p1 p2 hlo hhi
      go_wp2_with fail
      go_round
      case rel => exact ⟨z - 1, by omega, by omega, rfl⟩
      case measure => simp [intOf]; omega
    · have hz : q = z := by
        rcases (show q = z ∨ z = q + 1 by omega) with h | rfl
        · exact h
        · rw [Int.add_mul] at hlt; omega
      have HZ := Lib.hid hz
      clear p1 p2 hlo hhi hz hz1 hz2
      go_wp2_with fail
      go_ret
      exact ⟨by rw [HZ.out]; try rfl, rfl⟩
/-- Block M holds a map whose values are f's; it has taken c stores. -/
def MF (w : World) (M c : Nat) (f : ByteArray → Int) : Prop := ∃ D : DataW Unit, w.ownsMap Tryd.prog 9 (plainElem Tryd.prog 3) M c D ∧ ∀ s : ByteArray, D.atKey (.string s.data.toList) (.lit (.int .i64 0)) = .lit (.int .i64 (f s))
theorem MF.below {w w' : World} {M c : Nat} {f : ByteArray → Int} (h : MF w M c f) (hb : Below w.heap.size w w') : MF w' M c f := by
  obtain ⟨D, h1, h2⟩ := h
  exact ⟨D, h1.kept (row := none) ⟨hb.os, hb.tape, hb.output, hb.size, fun k hk _ => hb.block k hk⟩ (by simp), h2⟩
theorem MF.gr {w w' : World} {M c : Nat} {f : ByteArray → Int} {row : Option Nat} (h : MF w M c f) (hb : w.grownBy w' row) (hne : some M ≠ row) : MF w' M c f := by
  obtain ⟨D, h1, h2⟩ := h
  exact ⟨D, h1.kept hb hne, h2⟩
theorem MF.lt {w : World} {M c : Nat} {f : ByteArray → Int} (h : MF w M c f) : M < w.heap.size := by
  obtain ⟨D, h1, _⟩ := h
  exact h1.lt
theorem mf_new (w : World) : MF (w.alloc (.map #[] 0)) w.heap.size 0 (fun _ => 0) := ⟨.map [], World.ownsMap_made _ _ _ _, fun _ => rfl⟩
/-- f with another value at s. -/
def updF (f : ByteArray → Int) (s : ByteArray) (y : Int) : ByteArray → Int := fun t => if eqB s t = true then y else f t
theorem mf_put {w w' : World} {M c : Nat} {f : ByteArray → Int} {D : DataW Unit} {s : ByteArray} {y : Int} (h : w.ownsMap Tryd.prog 9 (plainElem Tryd.prog 3) M c D) (hf : ∀ s : ByteArray, D.atKey (.string s.data.toList) (.lit (.int .i64 0)) = .lit (.int .i64 (f s)))
    (h2 : w'.ownsMap Tryd.prog 9 (plainElem Tryd.prog 3) M (c + 1) (D.put (.string s.data.toList) (.lit (.int .i64 y)))) : MF w' M (c + 1) (updF f s y) :=
  ⟨_, h2, fun t => by
    unfold updF
    cases hx : eqB s t with
    | true =>
      have hs : s = t := (eqB_iff _ _).1 hx
      subst hs
      rw [Maps.atKey_put_same (k := .string s.data.toList) h.isMap (show WideAt.IsKeyLit (.string _) from trivial), if_pos rfl]
    | false =>
      rw [Maps.atKey_put_other (key_ne hx), hf t]
      simp⟩
/-- A list of strings lies in another block than a map. -/
theorem sl_ne_map {w : World} {A : Option Addr} {ss : List ByteArray} {M c g : Nat} {f : ByteArray → Int} (hS : SL w A ss) (h0 : 0 < ss.length) (hM : MF w M c f) (hA : A = some ⟨g, 0, none⟩) : g ≠ M := by
  intro e
  obtain ⟨b, hb, _, hc⟩ := hS.2 h0
  obtain rfl : b = g := by rw [hA] at hb; exact (congrArg Addr.block (Option.some.inj hb)).symm
  obtain ⟨D, ⟨es, clock, hh, _⟩, _⟩ := hM
  have := hc 0 h0
  subst e
  simp [World.cell?, hh] at this
theorem rowP_pos {ks hs : List ByteArray} {l : List Mk} (hd : ks.Nodup) (hm : ∀ s ∈ ks, ∃ x ∈ l, x.p = s) {i : Nat} (hi : i < ks.length) : 1 ≤ (rowP ks hs l i).length := by
  obtain ⟨x, hx, e⟩ := hm _ (List.getElem_mem hi)
  unfold rowP
  rw [List.length_map]
  exact List.length_pos_of_mem (List.mem_filter.2 ⟨hx, by rw [e, idx_of hd hi]; simp⟩)
theorem rowH_pos {ks hs : List ByteArray} {l : List Mk} (hd : hs.Nodup) (hm : ∀ s ∈ hs, ∃ x ∈ l, x.h = s) {i : Nat} (hi : i < hs.length) : 1 ≤ (rowH ks hs l i).length := by
  obtain ⟨x, hx, e⟩ := hm _ (List.getElem_mem hi)
  unfold rowH
  rw [List.length_map]
  exact List.length_pos_of_mem (List.mem_filter.2 ⟨hx, by rw [e, idx_of hd hi]; simp⟩)
theorem idx_is {ks : List ByteArray} (hd : ks.Nodup) {s : ByteArray} (hs : s ∈ ks) {i : Nat} (hi : i < ks.length) : i = idx ks s ↔ eqB s ks[i] = true := by
  rw [eqB_iff]
  constructor
  · intro h
    obtain ⟨h1, e⟩ := idx_at hs
    subst h; exact e.symm
  · intro h; rw [h, idx_of hd hi]
end Go.Proofs.YthhiefpickpiaabDoor.Cal
