/-
  MARKS: marks.Sum, calibrate.differences, exact.divisor, exact.Lowest at any sign.
-/
import Derived.Test.YtmihbfmlnfhgcadGreatDoorCalM
import Derived.Test.YtmihbfmlnfhgcadGreatDoorBlk
import Derived.Handy
import Derived.RegionTactic
import Derived.IntWalk
namespace Go.Proofs.YtmihbfmlnfhgcadGreatDoor.Cal
open Go.ChangeShapes Go.WideShapes Go.ChangeAt Go.RowKit Stm Key
set_option linter.unusedVariables false

/-- A slice's cells are these scores. -/
def IL (w : World) (A : Option Addr) (l : List Int) : Prop :=
  (∀ x ∈ l, 0 ≤ x ∧ x ≤ 10) ∧ (0 < l.length → ∃ b, A = some ⟨b, 0, none⟩ ∧ b < w.heap.size ∧ ∀ (i : Nat) (h : i < l.length), w.cell? ⟨b, i, none⟩ = some (.int .i64 l[i]))
theorem IL.below {w w' : World} {A : Option Addr} {l : List Int} (h : IL w A l) (hb : Below w.heap.size w w') : IL w' A l :=
  ⟨h.1, fun h0 => by
    obtain ⟨b, hA, hlt, hc⟩ := h.2 h0
    exact ⟨b, hA, Nat.lt_of_lt_of_le hlt hb.size, fun i hi => (hb.cell (p := ⟨b, i, none⟩) hlt).trans (hc i hi)⟩⟩
def sumI (l : List Int) : Int := l.sum
def sqI (l : List Int) : Int := (l.map fun x => x * x).sum
theorem sumI_next {l : List Int} {k : Nat} (h : k < l.length) : sumI (l.take (k + 1)) = sumI (l.take k) + l[k] := by
  unfold sumI; rw [take_next l k h, List.sum_append]; simp
theorem sqI_next {l : List Int} {k : Nat} (h : k < l.length) : sqI (l.take (k + 1)) = sqI (l.take k) + l[k] * l[k] := by
  unfold sqI; rw [take_next l k h, List.map_append, List.sum_append]; simp
theorem sumI_bd : ∀ (l : List Int), (∀ x ∈ l, 0 ≤ x ∧ x ≤ 10) → 0 ≤ sumI l ∧ sumI l ≤ 10 * l.length
  | [], _ => by simp [sumI]
  | x :: t, h => by
    have ih := sumI_bd t (fun y hy => h y (List.mem_cons_of_mem _ hy))
    have hx := h x (List.mem_cons_self ..)
    unfold sumI at *
    rw [List.sum_cons, List.length_cons]
    omega
theorem sqI_bd : ∀ (l : List Int), (∀ x ∈ l, 0 ≤ x ∧ x ≤ 10) → 0 ≤ sqI l ∧ sqI l ≤ 100 * l.length
  | [], _ => by simp [sqI]
  | x :: t, h => by
    have ih := sqI_bd t (fun y hy => h y (List.mem_cons_of_mem _ hy))
    have hx := h x (List.mem_cons_self ..)
    have h1 : 0 ≤ x * x := Int.mul_nonneg hx.1 hx.1
    have h2 : x * x ≤ 10 * 10 := Int.mul_le_mul hx.2 hx.2 hx.1 (by omega)
    unfold sqI at *
    rw [List.map_cons, List.sum_cons, List.length_cons]
    omega
theorem take_mem {l : List Int} (h : ∀ x ∈ l, 0 ≤ x ∧ x ≤ 10) (k : Nat) : ∀ x ∈ l.take k, 0 ≤ x ∧ x ≤ 10 := fun x hx => h x (List.mem_of_mem_take hx)
set_option maxHeartbeats 1000000 in
theorem sum_walk (A : Option Addr) (n cap : Nat) (l : List Int) (w : World) (hn : l.length = n) (hn2 : n ≤ 1000) (hI : IL w A l) :
    Calls Tryz.prog 62 #[.slice A n cap] w fun e w' => e = .returned (.int .i64 (sumI l)) ∧ w' = w := by
  have HN := Lib.hid hn
  have HI := Lib.hid hI
  clear hn hI
  go_enter Tryz.func62, Tryz.ntmps62
  go_wp2_with fail
  go_loop [3, 8] (fun s i => ∃ (k : Nat) (t : Int), k ≤ n ∧ i = .int .i64 k ∧ s = .int .i64 t ∧ Hid (sumI (l.take k) = t)) (fun _ i => n - (intOf i).toNat)
  case atStart => exact ⟨0, 0, Nat.zero_le _, rfl, rfl, Lib.hid rfl⟩
  case round =>
    obtain ⟨k, t, hk, rfl, rfl, HT⟩ := hrel
    by_cases hlt : k < n
    · have hkl : k < l.length := by rw [HN.out]; exact hlt
      obtain ⟨b, hA, hbl, hc⟩ := HI.out.2 (by omega)
      subst hA
      have c0 := hc k hkl
      have hx := HI.out.1 _ (List.getElem_mem hkl)
      have hb := sumI_bd _ (take_mem HI.out.1 k)
      rw [HT.out, List.length_take] at hb
      have HNX := Lib.hid (show sumI (l.take (k + 1)) = t + l[k] by rw [sumI_next hkl, HT.out])
      obtain ⟨hx0, hx1⟩ := hx
      obtain ⟨hb0, hb1⟩ := hb
      have hb2 : t ≤ 10000 := by omega
      generalize l[k] = x at *
      have a0 : (0 : Int) ≤ (k : Int) := by omega
      have a1 : (k : Int) < (n : Int) := by omega
      clear hc hb1
      go_wp2_with fail
      go_round
      case rel => exact ⟨k + 1, t + x, by omega, by go_num, rfl, HNX⟩
      case measure => simp [intOf]; omega
    · have hkn : k = n := by omega
      subst hkn
      have HE := Lib.hid (show t = sumI l by rw [← HT.out, List.take_of_length_le (by rw [HN.out]; exact Nat.le_refl _)])
      go_wp2_with fail
      go_ret
      exact ⟨by rw [← HE.out]; try rfl, rfl⟩
/-- The sum over all pairs of the squares of differences. -/
def difI (l : List Int) : Int := 2 * ((l.length : Int) * sqI l - sumI l * sumI l)
/-! ### Fractions of any sign -/
theorem gcd_tmod (x y : Int) : Int.gcd y (x.tmod y) = Int.gcd x y := by
  have h := Int.mul_tdiv_add_tmod x y
  have e : x.tmod y = x - y * x.tdiv y := by omega
  rw [e, Int.gcd_comm x y]
  rw [Int.gcd_sub_mul_left_right]
set_option maxHeartbeats 1000000 in
theorem divisorZ_any (n d : Int) (w : World) (hn : -4611686018427387904 ≤ n) (hn2 : n ≤ 4611686018427387904) (hd : -4611686018427387904 ≤ d) (hd2 : d ≤ 4611686018427387904) :
    Calls Tryz.prog 88 #[.int .i64 n, .int .i64 d] w fun e w' => e = .returned (.int .i64 ((Int.gcd n d : Nat) : Int)) ∧ ∃ m, w' = w.drewN m := by
  go_enter Tryz.func88, Tryz.ntmps88
  go_wp2
  go_loopw [0, 1] (fun a b wr => ∃ (x y : Int) (m : Nat), a = .int .i64 x ∧ b = .int .i64 y ∧ Hid (wr = w.drewN m) ∧ Hid (Int.gcd x y = Int.gcd n d) ∧ -4611686018427387904 ≤ x ∧ x ≤ 4611686018427387904 ∧ -4611686018427387904 ≤ y ∧ y ≤ 4611686018427387904) (fun _ b _ => (intOf b).natAbs)
  case atStart => exact ⟨n, d, 0, rfl, rfl, Lib.hid rfl, Lib.hid rfl, hn, hn2, hd, hd2⟩
  case round =>
    obtain ⟨x, y, m, rfl, rfl, HW, HG, hx, hx2, hy, hy2⟩ := hrel
    obtain rfl := HW.out
    by_cases hy0 : y = 0
    · subst hy0
      have HE : Hid (max x (-x) = ((Int.gcd n d : Nat) : Int)) := Lib.hid (by rw [← HG.out, Int.gcd_zero_right]; omega)
      have hmx : max x (-x) = ((Int.gcd n d : Nat) : Int) := HE.out
      go_wp2
      all_goals
        go_ret
        exact ⟨by rw [← HE.out]; try rfl, m, rfl⟩
    · have hyb : (y != 0) = true := by simpa using hy0
      have HG2 : Hid (Int.gcd y (x.tmod y) = Int.gcd n d) := Lib.hid (by rw [gcd_tmod]; exact HG.out)
      have hm1 : (x.tmod y).natAbs < y.natAbs := by rw [Int.natAbs_tmod]; exact Nat.mod_lt _ (by omega)
      have hya : y.natAbs < 4611686018427387905 := by omega
      have hta : (x.tmod y).natAbs < 4611686018427387905 := Nat.lt_trans hm1 hya
      obtain ⟨q, hq⟩ : ∃ q, x.tmod y = q := ⟨_, rfl⟩
      rw [hq] at hta
      have hq1 : -4611686018427387904 ≤ q := by omega
      have hq2 : q ≤ 4611686018427387904 := by omega
      have HQ1 := Lib.hid (show -4611686018427387904 ≤ x.tmod y by rw [hq]; exact hq1)
      have HQ2 := Lib.hid (show x.tmod y ≤ 4611686018427387904 by rw [hq]; exact hq2)
      have hw : IntKind.i64.wrap (x.tmod y) = x.tmod y := by rw [hq]; exact IntWalk.i64_in _ (by omega)
      have HM1 := Lib.hid hm1
      clear hq hq1 hq2 hta hya hm1
      go_wp2
      go_quiet (fail)
      go_wp2
      go_roundw
      case rel => exact ⟨y, x.tmod y, _, rfl, rfl, Lib.hid (by rw [World.drewN_drewN]), HG2, hy, hy2, HQ1.out, HQ2.out⟩
      case measure => exact HM1.out
/-- A fraction in lowest terms. -/
def lowZ (n d : Int) : Int × Int := (n / (Int.gcd n d : Int), d / (Int.gcd n d : Int))
theorem tdiv_gcd_l (n d : Int) : n.tdiv (Int.gcd n d : Int) = n / (Int.gcd n d : Int) := Int.tdiv_eq_ediv_of_dvd (Int.gcd_dvd_left ..)
theorem tdiv_gcd_r (n d : Int) : d.tdiv (Int.gcd n d : Int) = d / (Int.gcd n d : Int) := Int.tdiv_eq_ediv_of_dvd (Int.gcd_dvd_right ..)
set_option maxHeartbeats 1000000 in
theorem lowZ_any (n d : Int) (w : World) (hn : -4611686018427387904 ≤ n) (hn2 : n ≤ 4611686018427387904) (hd : 1 ≤ d) (hd2 : d ≤ 4611686018427387904) :
    Calls Tryz.prog 61 #[.int .i64 n, .int .i64 d] w fun e w' => e = .returned (.agg #[.int .i64 (lowZ n d).1, .int .i64 (lowZ n d).2]) ∧ Below w.heap.size w w' := by
  have hg0 : 0 < Int.gcd n d := Int.gcd_pos_of_ne_zero_right n (by omega)
  have HL := Lib.hid (tdiv_gcd_l n d)
  have HR := Lib.hid (tdiv_gcd_r n d)
  have HE := Lib.hid (show lowZ n d = (n / (Int.gcd n d : Int), d / (Int.gcd n d : Int)) from rfl)
  have HW := Lib.hid (divisorZ_any n d)
  obtain ⟨g, hg⟩ : ∃ g, Int.gcd n d = g := ⟨_, rfl⟩
  rw [hg] at hg0 HL HR HE HW
  clear hg
  have hgp : (1 : Int) ≤ (g : Int) := by omega
  have hgz : ((g : Int) == 0) = false := by simp; omega
  have hgn : g ≠ 0 := by omega
  have bd : ∀ z : Int, -4611686018427387904 ≤ z → z ≤ 4611686018427387904 → IntKind.i64.wrap (z.tdiv (g : Int)) = z.tdiv (g : Int) := fun z h1 h2 => by
    apply IntWalk.i64_in
    have h3 : (z.tdiv (g : Int)).natAbs ≤ z.natAbs := by rw [Int.natAbs_tdiv]; exact Nat.div_le_self _ _
    have h4 : z.natAbs < 4611686018427387905 := by omega
    generalize z.tdiv (g : Int) = q at *
    omega
  have w1 := bd n hn hn2
  have w2 := bd d (by omega) hd2
  have W1 := Lib.hid w1
  have W2 := Lib.hid w2
  clear bd w1 w2
  go_enter Tryz.func61, Tryz.ntmps61
  go_wp2_with fail
  refine (HW.out _ hn hn2 (by omega) hd2).mono ?_
  rintro e w1 ⟨rfl, m, rfl⟩
  go_wp2_with fail
  have ww1 := W1.out
  have ww2 := W2.out
  go_region
  clear ww1 ww2
  go_wp2
  go_returns
  refine ⟨by rw [HE.out, HL.out, HR.out], ?_⟩
  repeat' (first | (with_reducible exact Below.refl _ _) | (with_reducible refine Below.setCell ?_ ?_ _) | (with_reducible refine Stm.Below.drewN ?_ _) | (with_reducible refine Below.drew ?_) | (with_reducible refine Below.alloc ?_ ?_ _) | go_size)
end Go.Proofs.YtmihbfmlnfhgcadGreatDoor.Cal
