/-
  MARKS: fractions in lowest terms, as plain numbers; the reference's squares and plus.
-/
import Derived.Test.YthhiefpickpiaaaGreatDoorCalO2
namespace Go.Proofs.YthhiefpickpiaaaGreatDoor.Cal
open Go.ChangeShapes Go.WideShapes Go.ChangeAt Go.RowKit Stm Key
set_option linter.unusedVariables false

theorem lowZ_scale (k x y : Int) (hk : 0 < k) : lowZ (k * x) (k * y) = lowZ x y := by
  unfold lowZ
  rw [Int.gcd_mul_left]
  have e : ((k.natAbs * Int.gcd x y : Nat) : Int) = k * (Int.gcd x y : Int) := by
    rw [Int.natCast_mul]; congr 1; omega
  rw [e, Int.mul_ediv_mul_of_pos _ _ hk, Int.mul_ediv_mul_of_pos _ _ hk]
theorem lowZ_eq {x y x' y' : Int} (hy : 0 < y) (hy' : 0 < y') (h : x * y' = x' * y) : lowZ x y = lowZ x' y' := by
  rw [← lowZ_scale y' x y hy', ← lowZ_scale y x' y' hy, Int.mul_comm y' x, h, Int.mul_comm x' y, Int.mul_comm y' y]
theorem lowZ_says (x : Int) {y : Int} (hy : 0 < y) : (lowZ x y).1 * y = x * (lowZ x y).2 ∧ 0 < (lowZ x y).2 ∧ (lowZ x y).2 ≤ y := by
  have hg : 0 < Int.gcd x y := Int.gcd_pos_of_ne_zero_right x (by omega)
  obtain ⟨a, ha⟩ := Int.gcd_dvd_left x y
  obtain ⟨b, hb⟩ := Int.gcd_dvd_right x y
  have e1 : (lowZ x y).1 = a := by
    show x / (Int.gcd x y : Int) = a
    conv => lhs; lhs; rw [ha]
    exact Int.mul_ediv_cancel_left _ (by omega)
  have e2 : (lowZ x y).2 = b := by
    show y / (Int.gcd x y : Int) = b
    conv => lhs; lhs; rw [hb]
    exact Int.mul_ediv_cancel_left _ (by omega)
  rw [e1, e2]
  obtain ⟨g, hge⟩ : ∃ g : Int, (Int.gcd x y : Int) = g := ⟨_, rfl⟩
  rw [hge] at ha hb
  have hg1 : 0 < g := by omega
  have hbp : 0 < b := by
    rcases Int.lt_trichotomy b 0 with h | h | h
    · have := Int.mul_lt_mul_of_pos_left h hg1; rw [Int.mul_zero, ← hb] at this; omega
    · rw [h, Int.mul_zero] at hb; omega
    · exact h
  refine ⟨?_, hbp, ?_⟩
  · rw [hb, ha]; grind
  · have := Int.mul_le_mul_of_nonneg_right (show 1 ≤ g by omega) (Int.le_of_lt hbp); rw [Int.one_mul, ← hb] at this; exact this
theorem lowZ_abs {x y M : Int} (hy : 0 < y) (h1 : 0 ≤ x) (h2 : x ≤ M) : 0 ≤ (lowZ x y).1 ∧ (lowZ x y).1 ≤ M := by
  have hg : 0 < Int.gcd x y := Int.gcd_pos_of_ne_zero_right x (by omega)
  show 0 ≤ x / (Int.gcd x y : Int) ∧ x / (Int.gcd x y : Int) ≤ M
  exact ⟨Int.ediv_nonneg h1 (by omega), Int.le_trans (Int.ediv_le_self _ h1) h2⟩
/-- One part more. -/
theorem lowZ_plus (W D z q : Int) (hz : 0 < z) (hq : q * z = 27720) :
    lowZ ((lowZ W 27720).1 * (lowZ D z).2 + (lowZ D z).1 * (lowZ W 27720).2) ((lowZ W 27720).2 * (lowZ D z).2) = lowZ (W + D * q) 27720 := by
  obtain ⟨a1, a2, _⟩ := lowZ_says W (show (0 : Int) < 27720 by omega)
  obtain ⟨b1, b2, _⟩ := lowZ_says D hz
  generalize (lowZ W 27720).1 = wa at *
  generalize (lowZ W 27720).2 = wb at *
  generalize (lowZ D z).1 = da at *
  generalize (lowZ D z).2 = db at *
  refine lowZ_eq (Int.mul_pos a2 b2) (by omega) ?_
  have e1 : da * 27720 = D * db * q := by rw [← hq, ← b1]; grind
  have e2 : (wa * db + da * wb) * 27720 = wa * 27720 * db + da * 27720 * wb := by grind
  rw [e2, a1, e1]; grind
/-- The last steps of AgreementOf. -/
theorem lowZ_last (W D M : Int) (hD : 0 < D) :
    lowZ ((lowZ (lowZ ((lowZ W 27720).1 * M) (lowZ W 27720).2).1 D).2 * (lowZ ((lowZ W 27720).1 * M) (lowZ W 27720).2).2 - (lowZ (lowZ ((lowZ W 27720).1 * M) (lowZ W 27720).2).1 D).1)
      ((lowZ (lowZ ((lowZ W 27720).1 * M) (lowZ W 27720).2).1 D).2 * (lowZ ((lowZ W 27720).1 * M) (lowZ W 27720).2).2) = lowZ (D * 27720 - M * W) (D * 27720) := by
  obtain ⟨a1, a2, _⟩ := lowZ_says W (show (0 : Int) < 27720 by omega)
  have e : lowZ ((lowZ W 27720).1 * M) (lowZ W 27720).2 = lowZ (W * M) 27720 := by
    refine lowZ_eq a2 (by omega) ?_
    have : (lowZ W 27720).1 * M * 27720 = (lowZ W 27720).1 * 27720 * M := by grind
    rw [this, a1]; grind
  rw [e]
  obtain ⟨b1, b2, _⟩ := lowZ_says (W * M) (show (0 : Int) < 27720 by omega)
  generalize (lowZ (W * M) 27720).1 = wa at *
  generalize (lowZ (W * M) 27720).2 = wb at *
  obtain ⟨c1, c2, _⟩ := lowZ_says wa hD
  generalize (lowZ wa D).1 = fa at *
  generalize (lowZ wa D).2 = fb at *
  refine lowZ_eq (Int.mul_pos c2 b2) (by omega) ?_
  have e1 : fa * (D * 27720) = W * M * wb * fb := by
    have : fa * (D * 27720) = fa * D * 27720 := by grind
    rw [this, c1]
    have : wa * fb * 27720 = wa * 27720 * fb := by grind
    rw [this, b1]
  have e2 : (fb * wb - fa) * (D * 27720) = fb * wb * (D * 27720) - fa * (D * 27720) := by grind
  rw [e2, e1]; grind
theorem dif_perm {a b : List Int} (h : a.Perm b) : difI a = difI b := by
  unfold difI sumI sqI
  rw [perm_sum h, perm_sum (h.map fun x => x * x), h.length_eq]
set_option maxRecDepth 100000 in
set_option maxHeartbeats 4000000 in
theorem squares_walk (A : Option Addr) (m cap : Nat) (ys : List Int) (w : World) (hm : ys.length = m) (hm2 : m ≤ 256) (hI : IL w A ys) :
    Calls Tryz.prog 29 #[.slice A m cap] w fun e w' => e = .returned (.int .i64 (difI ys)) ∧ w' = w := by
  have HPL := Lib.hid hm
  have HPM := Lib.hid hI.1
  have HCX := Lib.hid hI.2
  obtain ⟨t, ht⟩ : ∃ t, difI ys = t := ⟨_, rfl⟩
  rw [ht]
  have HQA := Lib.hid (show allQ ys ys = t by rw [allQ_self]; exact ht)
  clear hm hI ht
  go_enter Tryz.func29, Tryz.ntmps29
  go_wp2_with fail
  go_loop [3, 10] (fun a i => ∃ (k : Nat) (q : Int), k ≤ m ∧ i = .int .i64 k ∧ a = .int .i64 q ∧ Hid (allQ ys (ys.take k) = q)) (fun _ i => m - (intOf i).toNat)
  case atStart => exact ⟨0, 0, Nat.zero_le _, rfl, rfl, Lib.hid rfl⟩
  case round =>
    obtain ⟨k, q, hk, rfl, rfl, HQ⟩ := hrel
    have hqb := allQ_bd ys HPM.out m (Nat.le_of_eq HPL.out) (ys.take k) (take_mem HPM.out k)
    rw [HQ.out, List.length_take, HPL.out] at hqb
    have hq0 := hqb.1
    have hq1 : q ≤ 6553600 := by
      have h1 := hqb.2
      have h2 : (100 * (m : Int)) * ((min k m : Nat) : Int) ≤ (100 * 256) * 256 := Int.mul_le_mul (by omega) (by omega) (by omega) (by omega)
      omega
    clear hqb
    by_cases hlt : k < m
    · have hkl : k < ys.length := by rw [HPL.out]; exact hlt
      obtain ⟨g, hA, hgl, hcl⟩ := HCX.out (by omega)
      subst hA
      have HCL := Lib.hid hcl
      clear hcl
      have c0 := HCL.out k hkl
      have hx := HPM.out _ (List.getElem_mem hkl)
      have HNX := Lib.hid (show allQ ys (ys.take (k + 1)) = q + rowQ ys ys[k] by rw [allQ_next ys hkl, HQ.out])
      generalize ys[k] = x at *
      have a0 : (0 : Int) ≤ (k : Int) := by omega
      have a1 : (k : Int) < (m : Int) := by omega
      have HX := Lib.hid hx
      go_wp2_with fail
      go_loop [3, 16] (fun a i => ∃ (j : Nat) (s : Int), j ≤ m ∧ i = .int .i64 j ∧ a = .int .i64 (q + s) ∧ Hid (rowQ (ys.take j) x = s)) (fun _ i => m - (intOf i).toNat)
      case atStart => exact ⟨0, 0, Nat.zero_le _, rfl, by rw [Int.add_zero], Lib.hid rfl⟩
      case round =>
        clear c0
        obtain ⟨j, s, hj, rfl, rfl, HS⟩ := hrel
        have hsb := rowQ_bd HX.out (ys.take j) (take_mem HPM.out j)
        rw [HS.out, List.length_take] at hsb
        have hs0 := hsb.1
        have hs1 : s ≤ 25600 := by have := hsb.2; omega
        clear hsb
        by_cases hjl : j < m
        · have hjy : j < ys.length := by rw [HPL.out]; exact hjl
          have c0 := HCL.out j hjy
          have hy := HPM.out _ (List.getElem_mem hjy)
          have HNY := Lib.hid (show rowQ (ys.take (j + 1)) x = s + (x - ys[j]) * (x - ys[j]) by rw [rowQ_next hjy, HS.out])
          generalize ys[j] = y at *
          obtain ⟨hsq0, hsq1⟩ := sq_bd HX.out hy
          have b0 : (0 : Int) ≤ (j : Int) := by omega
          have b1 : (j : Int) < (m : Int) := by omega
          obtain ⟨hx0, hx1⟩ := HX.out
          obtain ⟨hy0, hy1⟩ := hy
          clear hx
          go_wp2_with fail
          go_round
          case rel => exact ⟨j + 1, s + (x - y) * (x - y), by omega, by go_num, by rw [Int.add_assoc], HNY⟩
          case measure => simp [intOf]; omega
        · obtain rfl : m = j := by omega
          have HE := Lib.hid (show allQ ys (ys.take (k + 1)) = q + s by rw [HNX.out, ← HS.out, List.take_of_length_le (by rw [HPL.out]; exact Nat.le_refl _)])
          go_wp2_with fail
          go_round
          case rel => exact ⟨k + 1, q + s, by omega, by go_num, rfl, HE⟩
          case measure => simp [intOf]; omega
    · obtain rfl : m = k := by omega
      have HE := Lib.hid (show q = t by rw [← HQ.out, List.take_of_length_le (by rw [HPL.out]; exact Nat.le_refl _), HQA.out])
      go_wp2_with fail
      go_ret
      exact ⟨by rw [← HE.out]; try rfl, rfl⟩
set_option maxHeartbeats 2000000 in
theorem plus_walk (a1 a2 b1 b2 : Int) (w : World) (h1 : -2305843009213693952 ≤ a1 * b2) (h2 : a1 * b2 ≤ 2305843009213693952) (h3 : -2305843009213693952 ≤ b1 * a2) (h4 : b1 * a2 ≤ 2305843009213693952) (h5 : 1 ≤ a2 * b2) (h6 : a2 * b2 ≤ 4611686018427387904) :
    Calls Tryz.prog 28 #[.agg #[.int .i64 a1, .int .i64 a2], .agg #[.int .i64 b1, .int .i64 b2]] w (FRet (lowZ (a1 * b2 + b1 * a2) (a2 * b2)) w) := by
  obtain ⟨d, hd⟩ : ∃ d : Nat, a2 * b2 = d := ⟨(a2 * b2).toNat, by omega⟩
  have HPZ := Lib.hid (fun W => partZ_any (a1 * b2 + b1 * a2) d W (by omega) (by omega) (by omega) (by omega))
  have HD := Lib.hid hd
  obtain ⟨u, hu⟩ : ∃ u, lowZ (a1 * b2 + b1 * a2) (a2 * b2) = u := ⟨_, rfl⟩
  have HU := Lib.hid (show lowZ (a1 * b2 + b1 * a2) d = u by rw [← hd]; exact hu)
  rw [hu]
  clear hd hu
  go_enter Tryz.func28, Tryz.ntmps28
  go_wp2_with fail
  rw [HD.out]
  refine (HPZ.out _).mono ?_; rintro e w3 ⟨rfl, hb3⟩
  rw [HU.out]
  have R0 := Blk.new ((w.alloc (.cells #[.int .i64 a1, .int .i64 a2] 30)).alloc (.cells #[.int .i64 b1, .int .i64 b2] 30)) 30 #[.int .i64 0, .int .i64 0]
  have e0 : ((w.alloc (.cells #[.int .i64 a1, .int .i64 a2] 30)).alloc (.cells #[.int .i64 b1, .int .i64 b2] 30)).heap.size = w.heap.size + 1 + 1 := by simp
  rw [e0] at R0
  have R3 := Lib.hid (R0.below hb3 R0.lt)
  have B3 := Lib.hid (show Below w.heap.size w w3 from ((((Below.refl _ _).alloc (Nat.le_refl _) _).alloc (by simp) _).alloc (by simp; omega) _).trans (hb3.mono (by simp; omega)))
  have f0 := R3.out.frozen 0
  have f1 := R3.out.frozen 1
  have q0 := R3.out.cell 0 _ rfl
  have q1 := R3.out.cell 1 _ rfl
  clear R0 e0 hb3
  go_wp2_with fail
  exact bodyPost_ret (v := .agg #[.int .i64 u.1, .int .i64 u.2]) (by simp only [results, Tryz.results28]; go_simp) rfl ⟨rfl, (B3.out.setCell (p := ⟨w.heap.size + 1 + 1, 0, none⟩) (by show w.heap.size ≤ w.heap.size + 1 + 1; omega) _).setCell (p := ⟨w.heap.size + 1 + 1, 1, none⟩) (by show w.heap.size ≤ w.heap.size + 1 + 1; omega) _⟩
end Go.Proofs.YthhiefpickpiaaaGreatDoor.Cal
