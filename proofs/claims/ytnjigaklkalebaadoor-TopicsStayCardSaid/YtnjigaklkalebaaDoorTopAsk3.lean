/-
  THE CONTRACTS OF near, Above, Below, Meet AND Near.
-/
import Derived.Test.YtnjigaklkalebaaDoorTopAsk2
namespace Go.Proofs.YtnjigaklkalebaaDoor.For
open Go.ChangeShapes Go.WideShapes Go.ChangeAt Go.RowKit Stm Key
set_option linter.unusedVariables false

def nearI (P : List Int) (a b : Nat) : Int := if MF P a b = -1 then 0 else 5040 * (((way P (MF P a b)).length : Nat) : Int) / ((((way P a).length : Nat) : Int) + (((way P b).length : Nat) : Int))

set_option maxRecDepth 100000 in
set_option maxHeartbeats 4000000 in
theorem near_walk (F n cap : Nat) (A : Option Addr) (l : List Tp) (a b : Nat) (w : World) (hn : l.length = n) (hn2 : n ≤ 1000) (hF : FM w F A n cap l) (hNL : NL (pars l)) (hdp : deeps (pars l) = false) (ha : a < n) (hb : b < n) (r : Int) (hr : Hid (nearI (pars l) a b = r)) :
    Calls Tryd.prog 37 #[.pointer (some ⟨F, 0, none⟩), .int .i64 a, .int .i64 b] w fun e w' => e = .returned (.int .i64 r) ∧ ∃ m, w' = w.drewN m := by
  have hpn : (pars l).length = n := by rw [pars_len]; exact hn
  obtain ⟨m, hm⟩ : ∃ m, MF (pars l) a b = m := ⟨_, rfl⟩
  have HMW := Lib.hid (meet_walk F n cap A l a b w hn hn2 hF hNL ha hb m (Lib.hid hm))
  have hmr := MF_range (b := b) (pars_good l) (a := a) (by omega) (by omega)
  rw [hm] at hmr
  have hr2 := hr.out
  unfold nearI at hr2
  rw [hm] at hr2
  by_cases hm1 : m = -1
  · subst hm1
    rw [if_pos rfl] at hr2
    have HR := Lib.hid hr2
    clear hr hr2 hm hmr hF hNL hdp hn hpn
    go_enter Tryd.func37, Tryd.ntmps37
    go_wp2_with fail
    refine (HMW.out).mono ?_; rintro e w1 ⟨rfl, q, rfl⟩
    go_wp2_with fail
    go_ret
    exact ⟨by rw [← HR.out]; try rfl, q, rfl⟩
  · rw [if_neg hm1] at hr2
    obtain ⟨c, rfl⟩ : ∃ c : Nat, m = c := ⟨m.toNat, by omega⟩
    have la := way_pos hNL (i := a) (by omega)
    have lb := way_pos hNL (i := b) (by omega)
    have lc := way_pos hNL (i := c) (by omega)
    have ua := deep_le hdp (i := a) (by omega)
    have ub := deep_le hdp (i := b) (by omega)
    have uc := deep_le hdp (i := c) (by omega)
    obtain ⟨M, g, D, cd, k1, k2, k3, k4⟩ := hF
    have x3 : w.cell? ⟨F, 3, none⟩ = some (.slice D n cd) := k1.cell 3 _ rfl
    obtain ⟨bd, hD, hbd, hcd⟩ := k4 (by rw [deps_len]; omega)
    have da := hcd a (by rw [deps_len]; omega)
    have db := hcd b (by rw [deps_len]; omega)
    have dc := hcd c (by rw [deps_len]; omega)
    rw [deps_get] at da db dc
    unfold depthI at da db dc
    generalize (way (pars l) (a : Nat)).length = p at *
    generalize (way (pars l) (b : Nat)).length = q at *
    generalize (way (pars l) (c : Nat)).length = s at *
    have HR := Lib.hid hr2
    have i0 : (0 : Int) ≤ (a : Int) := by omega
    have i1 : (a : Int) < (n : Int) := by omega
    have i2 : (0 : Int) ≤ (b : Int) := by omega
    have i3 : (b : Int) < (n : Int) := by omega
    have i4 : (0 : Int) ≤ (c : Int) := by omega
    have i5 : (c : Int) < (n : Int) := by omega
    have hcb : ((c : Int) == -1) = false := by rw [beq_eq_false_iff_ne]; omega
    have hz : ((p : Int) + (q : Int) == 0) = false := by rw [beq_eq_false_iff_ne]; omega
    have b1 : (0 : Int) ≤ (p : Int) + (q : Int) := by omega
    have b2 : (p : Int) + (q : Int) ≤ 10 := by omega
    have b3 : (0 : Int) ≤ 5040 * (s : Int) := by omega
    have b4 : 5040 * (s : Int) ≤ 25200 := by omega
    have b5 : 0 ≤ 5040 * (s : Int) / ((p : Int) + (q : Int)) := Int.ediv_nonneg b3 b1
    have b6 : 5040 * (s : Int) / ((p : Int) + (q : Int)) ≤ 25200 := Int.le_trans (Int.ediv_le_self _ b3) b4
    have e1 : wrap64 (5040 * (s : Int) / ((p : Int) + (q : Int))) = 5040 * (s : Int) / ((p : Int) + (q : Int)) := IntWalk.wrap64_in _ (by omega)
    subst hD
    clear hr hr2 hm hmr hNL hdp hn hpn k1 k2 k3 k4 hcd hbd hm1
    go_enter Tryd.func37, Tryd.ntmps37
    go_wp2_with fail
    refine (HMW.out).mono ?_; rintro e w1 ⟨rfl, z, rfl⟩
    go_wp2_with fail
    go_quiet (fail)
    go_wp2_with fail
    go_ret
    exact ⟨by rw [← HR.out]; try rfl, _, by first | rfl | rw [World.drewN_drewN]⟩

/-- What Near hands back: numerator, denominator. -/
def nearR (l : List Tp) (i j : Nat) : Int × Int := ((((nearI (pars l) i j).toNat / Nat.gcd (nearI (pars l) i j).toNat 2520 : Nat) : Int), ((2520 / Nat.gcd (nearI (pars l) i j).toNat 2520 : Nat) : Int))
theorem nearI_bd {P : List Int} (hN : NL P) (hG : Good P) (hd : deeps P = false) {a b : Nat} (ha : a < P.length) (hb : b < P.length) : 0 ≤ nearI P a b ∧ nearI P a b ≤ 25200 := by
  unfold nearI
  split
  · omega
  · rename_i hm
    have hmr := MF_range (b := b) hG (a := a) (by omega) (by omega)
    obtain ⟨c, hc⟩ : ∃ c : Nat, MF P a b = c := ⟨(MF P a b).toNat, by omega⟩
    rw [hc] at hmr ⊢
    have la := way_pos hN (i := a) ha
    have lb := way_pos hN (i := b) hb
    have uc := deep_le hd (i := c) (by omega)
    generalize (way P (a : Nat)).length = p at *
    generalize (way P (b : Nat)).length = q at *
    generalize (way P (c : Nat)).length = s at *
    exact ⟨Int.ediv_nonneg (by omega) (by omega), Int.le_trans (Int.ediv_le_self _ (by omega)) (by omega)⟩

/-- What Near hands back, as an ending. -/
def NearRet (l : List Tp) (a b : ByteArray) (r : Int) (w : World) (e : Ending) (w' : World) : Prop := ∃ (x y : Int), e = .returned (.tuple #[.agg #[.int .i64 x, .int .i64 y], .int .i64 r]) ∧
  (r ≠ 0 ∧ x = 0 ∧ y = 0 ∨ r = 0 ∧ ∃ i j : Nat, lk l a = some i ∧ lk l b = some j ∧ (x, y) = nearR l i j) ∧ Below w.heap.size w w'

/-- What Meet hands back. -/
def MeetRet (l : List Tp) (a b : ByteArray) (r : Int) (w : World) (e : Ending) (w' : World) : Prop := ∃ s : ByteArray, e = .returned (.tuple #[.string s, .int .i64 r]) ∧
  (r = 0 → ∃ i j : Nat, lk l a = some i ∧ lk l b = some j ∧ s = (if MF (pars l) i j = -1 then ⟨#[]⟩ else (l.getD (MF (pars l) i j).toNat ⟨⟨#[]⟩, ⟨#[]⟩⟩).k)) ∧ Below w.heap.size w w'

end Go.Proofs.YtnjigaklkalebaaDoor.For
