/-
  MARKS: calibrate.floor, calibrate.rest, calibrate.leveled.
-/
import Derived.Test.YthhiefpickpiaabDoorCalBp
import Derived.Deep.AppendLies
import Derived.Deep.QuietTactic
import Derived.BigQuiet
namespace Go.Proofs.YthhiefpickpiaabDoor.Cal
open Go.ChangeShapes Go.WideShapes Go.ChangeAt Go.RowKit Stm Key
set_option linter.unusedVariables false

theorem tdiv_bd {a b : Int} (hb : 0 < b) (h1 : -9000000000000 ≤ a) (h2 : a ≤ 9000000000000) : -9000000000000 ≤ a.tdiv b ∧ a.tdiv b ≤ 9000000000000 ∧ -9000000000000 ≤ a.tdiv b * b ∧ a.tdiv b * b ≤ 9000000000000 := by
  have e := Int.tmod_add_mul_tdiv a b
  rw [Int.mul_comm] at e
  have h3 : a.tdiv b * b = a - a.tmod b := by omega
  rcases Int.le_total 0 a with h | h
  · have h4 := Int.tdiv_nonneg h (Int.le_of_lt hb)
    have h5 := Int.tmod_nonneg b h
    have h6 : a.tdiv b * 1 ≤ a.tdiv b * b := Int.mul_le_mul_of_nonneg_left (by omega) h4
    have h7 := Int.mul_nonneg h4 (Int.le_of_lt hb)
    omega
  · have h4 : a.tdiv b ≤ 0 := by
      have := Int.tdiv_nonneg (a := -a) (b := b) (by omega) (Int.le_of_lt hb)
      rw [Int.neg_tdiv] at this; omega
    have h5 : a.tmod b ≤ 0 := by
      have := Int.tmod_nonneg b (show 0 ≤ -a by omega)
      rw [Int.neg_tmod] at this; omega
    have h6 : a.tdiv b * b ≤ a.tdiv b * 1 := by
      have := Int.mul_le_mul_of_nonneg_left (show (1 : Int) ≤ b by omega) (show 0 ≤ -a.tdiv b by omega)
      rw [Int.neg_mul, Int.neg_mul] at this; omega
    have h7 : a.tdiv b * b ≤ 0 := by
      have := Int.mul_nonneg (show 0 ≤ -a.tdiv b by omega) (Int.le_of_lt hb)
      rw [Int.neg_mul] at this; omega
    omega
set_option maxHeartbeats 1000000 in
theorem floor_walk (a b : Int) (w : World) (hb : 1 ≤ b) (hb2 : b ≤ 1000) (h1 : -9000000000000 ≤ a) (h2 : a ≤ 9000000000000) :
    Calls Tryd.prog 42 #[.int .i64 a, .int .i64 b] w fun e w' => e = .returned (.int .i64 (a / b)) ∧ w' = w := by
  obtain ⟨q1, q2, q3, q4⟩ := tdiv_bd (show 0 < b by omega) h1 h2
  have HF := Lib.hid (floor_eq a b (by omega))
  have hb0 : b ≠ 0 := by omega
  go_enter Tryd.func42, Tryd.ntmps42
  by_cases hlt : a < a.tdiv b * b
  · have HE : Hid (a / b = a.tdiv b - 1) := Lib.hid (by rw [HF.out, if_pos hlt])
    go_wp2_with fail
    go_ret
    exact ⟨by rw [HE.out]; try rfl, rfl⟩
  · have HE : Hid (a / b = a.tdiv b) := Lib.hid (by rw [HF.out, if_neg hlt])
    go_wp2_with fail
    go_ret
    exact ⟨by rw [HE.out]; try rfl, rfl⟩
set_option maxRecDepth 100000 in
set_option maxHeartbeats 4000000 in
theorem rest_walk (v : Value) (row : List (Nat × Int)) (b nb : Nat) (o : Nat → Int) (w : World) (hn2 : row.length ≤ 500) (hS : SCL w v row) (hO : w.rowIs b 3 nb (fun i => .int .i64 (o i))) (hnb : nb ≤ 1000)
    (hat : ∀ y ∈ row, y.1 < nb) (hr : ∀ y ∈ row, (0 ≤ y.2 ∧ y.2 ≤ 10) ∧ -3000000000 ≤ o y.1 ∧ o y.1 ≤ 3000000000) :
    Calls Tryd.prog 30 #[v, .slice (some ⟨b, 0, none⟩) nb nb, .int .i64 (-1)] w fun e w' => e = .returned (.int .i64 (resI row o)) ∧ Below w.heap.size w w' := by
  obtain ⟨A, c, rfl, hcells⟩ := hS
  have HR := Lib.hid (show resI row o = if row.length = 0 then 0 else resS row o / (row.length : Int) from rfl)
  obtain ⟨r, hre⟩ : ∃ r, resI row o = r := ⟨_, rfl⟩
  rw [hre] at HR ⊢
  obtain ⟨n, hn⟩ : ∃ n, row.length = n := ⟨_, rfl⟩
  rw [hn] at hn2 HR ⊢
  have HN := Lib.hid hn
  have HC := Lib.hid hcells
  have HO := Lib.hid hO
  have HAT := Lib.hid hat
  have HSC := Lib.hid hr
  have hbl := hO.lt
  clear hre hn hcells hO hat hr
  go_enter Tryd.func30, Tryd.ntmps30
  go_wp2_with fail
  go_loopw [7, 8, 13] (fun m s i wr => ∃ (k : Nat) (t : Int), k ≤ n ∧ i = .int .i64 k ∧ m = .int .i64 k ∧ s = .int .i64 t ∧ Hid (resS (row.take k) o = t) ∧ Hid (Below w.heap.size w wr)) (fun _ _ i _ => n - (intOf i).toNat)
  case atStart => exact ⟨0, 0, Nat.zero_le _, rfl, rfl, rfl, Lib.hid rfl, Lib.hid (Below.refl _ _)⟩
  case round =>
    obtain ⟨k, t, hk, rfl, rfl, rfl, HT, HB⟩ := hrel
    have hzr := HB.out.size
    have ht := resS_bd o 3000000000 (row.take k) (fun y hy => HSC.out y (List.mem_of_mem_take hy))
    rw [HT.out, List.length_take] at ht
    have ht1 : -2000000000000 ≤ t := by have := ht.1; have h2 : ((min k row.length : Nat) : Int) ≤ 500 := by omega
                                        omega
    have ht2 : t ≤ 2000000000000 := by have := ht.2; have h2 : ((min k row.length : Nat) : Int) ≤ 500 := by omega
                                       omega
    clear ht
    by_cases hlt : k < n
    · have hkl : k < row.length := by rw [HN.out]; exact hlt
      obtain ⟨g, hA, hgW, hcl⟩ := HC.out (by omega)
      subst hA
      obtain ⟨d0, d1⟩ := hcl k hkl
      have c0 := (HB.out.cell (p := ⟨g, k * 2, none⟩) hgW).trans d0
      have c1 := (HB.out.cell (p := ⟨g, k * 2 + 1, none⟩) hgW).trans d1
      have hxa := HAT.out _ (List.getElem_mem hkl)
      obtain ⟨⟨hs0, hs1⟩, ho0, ho1⟩ := HSC.out _ (List.getElem_mem hkl)
      have HNX := Lib.hid (show resS (row.take (k + 1)) o = t + (1000000 * row[k].2 - o row[k].1) by rw [resS_next hkl, HT.out])
      have q0 := (HB.out.cell (p := ⟨b, row[k].1, none⟩) hbl).trans (HO.out.cell hxa)
      clear hcl d0 d1 HT
      obtain ⟨xa, he⟩ : ∃ xa, row[k].1 = xa := ⟨_, rfl⟩
      rw [he] at c0 hxa ho0 ho1 HNX q0
      clear he
      obtain ⟨xs, he⟩ : ∃ xs, row[k].2 = xs := ⟨_, rfl⟩
      rw [he] at c1 hs0 hs1 HNX
      clear he
      obtain ⟨ov, he⟩ : ∃ ov, o xa = ov := ⟨_, rfl⟩
      rw [he] at ho0 ho1 HNX q0
      clear he
      have b0 : (0 : Int) ≤ (k : Int) := by omega
      have b1 : (k : Int) < (n : Int) := by omega
      have hne : ((xa : Int) != -1) = true := by simp
      have i0 : (0 : Int) ≤ (xa : Int) := by omega
      have i1 : (xa : Int) < (nb : Int) := by omega
      have hb2 : b < wr.heap.size := by omega
      have B1 := Lib.hid (HB.out.alloc hzr (.cells #[.int .i64 (xa : Int), .int .i64 xs] 74))
      clear HB
      have s1 : IntKind.i64.wrap (1000000 * xs) = 1000000 * xs := IntWalk.i64_in _ (by omega)
      have s2 : IntKind.i64.wrap (1000000 * xs - ov) = 1000000 * xs - ov := IntWalk.i64_in _ (by omega)
      have s3 : IntKind.i64.wrap (t + (1000000 * xs - ov)) = t + (1000000 * xs - ov) := IntWalk.i64_in _ (by omega)
      go_wp2_with fail
      go_quiet (fail)
      go_wp2_with fail
      go_roundw
      case rel => exact ⟨k + 1, t + (1000000 * xs - ov), by omega, by go_num, by go_num, rfl, HNX, Lib.hid (Stm.Below.drewN B1.out _)⟩
      case measure => simp [intOf]; omega
    · have hkn : k = n := by omega
      subst hkn
      have HRE := Lib.hid (show t = resS row o by rw [← HT.out, List.take_of_length_le (by rw [HN.out]; exact Nat.le_refl _)])
      by_cases h0 : k = 0
      · subst h0
        have HE := Lib.hid (show r = 0 by rw [HR.out, if_pos rfl])
        go_wp2_with fail
        go_ret
        exact ⟨by rw [HE.out]; try rfl, HB.out⟩
      · have HE := Lib.hid (show t / (k : Int) = r by rw [HR.out, if_neg h0, HRE.out])
        have e0 : ((k : Int) == 0) = false := by simpa using h0
        have HFL := Lib.hid (fun W => floor_walk t k W (by omega) (by omega) (by omega) (by omega))
        clear HR h0
        go_wp2_with fail
        refine (HFL.out _).mono ?_; rintro e w1 ⟨rfl, rfl⟩
        rw [HE.out]
        go_wp2_with fail
        go_ret
        exact ⟨rfl, HB.out⟩
end Go.Proofs.YthhiefpickpiaabDoor.Cal
