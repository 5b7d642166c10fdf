/-
  MARKS: the reference's MeanOf, SpreadOfScores, MedianOf.
-/
import Derived.Test.YtgajencgpceabaaGreatDoorCalO
import Derived.Deep.QuietTactic
import Derived.BigQuiet
namespace Go.Proofs.YtgajencgpceabaaGreatDoor.Cal
open Go.ChangeShapes Go.WideShapes Go.ChangeAt Go.RowKit Stm Key
set_option linter.unusedVariables false

theorem scB_pos {l : List Mk} {p : ByteArray} (h : p ∈ papersL l) : 1 ≤ (scB l p).length := by
  have h2 : p ∈ l.map Mk.p := (dedB_mem _ _).1 h
  obtain ⟨x, hx, rfl⟩ := List.mem_map.1 h2
  unfold scB
  rw [List.length_map]
  exact List.length_pos_of_mem (List.mem_filter.2 ⟨hx, eqB_self _⟩)
/-- A fraction handed back. -/
def FRet (u : Int × Int) (w : World) (e : Ending) (w' : World) : Prop := e = .returned (.agg #[.int .i64 u.1, .int .i64 u.2]) ∧ Below w.heap.size w w'
set_option maxHeartbeats 2000000 in
theorem meanof_walk (A : Option Addr) (n cap : Nat) (l : List Mk) (p : ByteArray) (w : World) (hn : l.length = n) (hn2 : n ≤ 256) (hM : ML w A l) (hs : ∀ x ∈ l, 0 ≤ x.s ∧ x.s ≤ 10) (hp : p ∈ papersL l) :
    Calls Tryz.prog 20 #[.slice A n cap, .string p] w (FRet (lowZ (sumI (scB l p)) (scB l p).length) w) := by
  have HSO := Lib.hid (fun W (h : Below w.heap.size w W) => scoresof_walk A n cap l p W hn (by omega) (hM.below h) hs)
  have hpos := scB_pos hp
  have hlen := Nat.le_trans (scB_len l p) (by rw [hn]; exact hn2)
  have hmem := scB_mem hs p
  obtain ⟨zs, hz⟩ : ∃ zs, scB l p = zs := ⟨_, rfl⟩
  rw [hz] at HSO hpos hlen hmem ⊢
  have HB := Lib.hid (sumI_bd zs hmem)
  have HPL := Lib.hid (srtI_perm zs).length_eq
  have HPS := Lib.hid (srtI_sum zs)
  obtain ⟨m, hm⟩ : ∃ m, zs.length = m := ⟨_, rfl⟩
  rw [hm] at HB HPL hpos hlen ⊢
  obtain ⟨ys, hys⟩ : ∃ ys, srtI zs = ys := ⟨_, rfl⟩
  rw [hys] at HSO HPL HPS
  have hb0 := HB.out.1
  have hb1 := HB.out.2
  have hb2 : sumI zs ≤ 10000 := by omega
  clear hb1
  obtain ⟨t, ht⟩ : ∃ t, sumI zs = t := ⟨_, rfl⟩
  rw [ht] at hb0 hb2 HPS HB ⊢
  clear hn hM hs hp hmem hz hm hys ht
  go_enter Tryz.func20, Tryz.ntmps20
  go_wp2_with fail
  refine (HSO.out _ ((Below.refl _ _).alloc (Nat.le_refl _) _)).mono ?_; rintro e w1 ⟨A1, c1, rfl, hil, hb1⟩
  rw [HPL.out]
  have B1 := Lib.hid (((Below.refl _ _).alloc (Nat.le_refl _) (.cells #[.int .i64 0, .int .i64 0] 37)).trans (hb1.mono (by simp)) : Below w.heap.size w w1)
  have R1 := Lib.hid ((Blk.new w 37 #[.int .i64 0, .int .i64 0]).below hb1 (by simp))
  have HT := Lib.hid (total_walk A1 m c1 ys w1 HPL.out (by omega) hil)
  have HT2 := Lib.hid (show Calls Tryz.prog 42 #[.slice A1 m c1] w1 fun e w' => e = .returned (.int .i64 t) ∧ w' = w1 by rw [← HPS.out]; exact HT.out)
  clear hil hb1 HT HSO
  go_wp2_with fail
  refine (HT2.out).mono ?_; rintro e w2 ⟨rfl, rfl⟩
  go_wp2_with fail
  refine (partZ_any t m _ (by omega) (by omega) hpos (by omega)).mono ?_; rintro e w3 ⟨rfl, hb3⟩
  obtain ⟨u, hu⟩ : ∃ u, lowZ t m = u := ⟨_, rfl⟩
  rw [hu]
  have HU := Lib.hid hu
  have B3 := Lib.hid (B1.out.trans (hb3.mono B1.out.size))
  have R3 := Lib.hid (R1.out.below hb3 R1.out.lt)
  have f0 := R3.out.frozen 0
  have f1 := R3.out.frozen 1
  have q0 := R3.out.cell 0 _ rfl
  have q1 := R3.out.cell 1 _ rfl
  clear hb3 hu
  go_wp2_with fail
  exact bodyPost_ret (v := .agg #[.int .i64 u.1, .int .i64 u.2]) (by simp only [results, Tryz.results20]; go_simp) rfl ⟨by rw [HU.out], (B3.out.setCell (p := ⟨w.heap.size, 0, none⟩) (Nat.le_refl _) _).setCell (p := ⟨w.heap.size, 1, none⟩) (Nat.le_refl _) _⟩
def rowQ (l : List Int) (a : Int) : Int := (l.map fun b => (a - b) * (a - b)).sum
def allQ (l m : List Int) : Int := (m.map (rowQ l)).sum
theorem allQ_self (l : List Int) : allQ l l = difI l := pair_dif l
theorem rowQ_next {l : List Int} {k : Nat} (h : k < l.length) (a : Int) : rowQ (l.take (k + 1)) a = rowQ (l.take k) a + (a - l[k]) * (a - l[k]) := by
  unfold rowQ; rw [take_next l k h, List.map_append, List.sum_append]; simp
theorem allQ_next (l : List Int) {m : List Int} {k : Nat} (h : k < m.length) : allQ l (m.take (k + 1)) = allQ l (m.take k) + rowQ l m[k] := by
  unfold allQ; rw [take_next m k h, List.map_append, List.sum_append]; simp
theorem sq_bd {a b : Int} (ha : 0 ≤ a ∧ a ≤ 10) (hb : 0 ≤ b ∧ b ≤ 10) : 0 ≤ (a - b) * (a - b) ∧ (a - b) * (a - b) ≤ 100 := by
  refine ⟨sq_nonneg _, ?_⟩
  obtain ⟨c, hc⟩ : ∃ c, a - b = c := ⟨_, rfl⟩
  rw [hc]
  rcases Int.le_total 0 c with h | h
  · have := Int.mul_le_mul (show c ≤ 10 by omega) (show c ≤ 10 by omega) h (by omega); omega
  · have := Int.mul_le_mul (show -c ≤ 10 by omega) (show -c ≤ 10 by omega) (by omega) (by omega)
    rw [Int.neg_mul_neg] at this; omega
theorem rowQ_bd {a : Int} (ha : 0 ≤ a ∧ a ≤ 10) : ∀ l : List Int, (∀ x ∈ l, 0 ≤ x ∧ x ≤ 10) → 0 ≤ rowQ l a ∧ rowQ l a ≤ 100 * l.length
  | [], _ => by simp [rowQ]
  | b :: t, h => by
    have ih := rowQ_bd ha t (fun y hy => h y (List.mem_cons_of_mem _ hy))
    have hb := sq_bd ha (h b (List.mem_cons_self ..))
    unfold rowQ at *
    rw [List.map_cons, List.sum_cons, List.length_cons]
    omega
theorem allQ_bd (l : List Int) (hl : ∀ x ∈ l, 0 ≤ x ∧ x ≤ 10) (n : Nat) (hn : l.length ≤ n) : ∀ m : List Int, (∀ x ∈ m, 0 ≤ x ∧ x ≤ 10) → 0 ≤ allQ l m ∧ allQ l m ≤ 100 * n * m.length
  | [], _ => by simp [allQ]
  | b :: t, h => by
    have ih := allQ_bd l hl n hn t (fun y hy => h y (List.mem_cons_of_mem _ hy))
    have hb := rowQ_bd (h b (List.mem_cons_self ..)) l hl
    unfold allQ at *
    rw [List.map_cons, List.sum_cons, List.length_cons]
    have e : (100 * (n : Int) * ((t.length + 1 : Nat) : Int)) = 100 * (n : Int) * (t.length : Int) + 100 * (n : Int) := by rw [Int.natCast_add, Int.mul_add]; simp
    rw [e]
    omega
set_option maxRecDepth 100000 in
set_option maxHeartbeats 4000000 in
theorem spreadof_walk (A : Option Addr) (n cap : Nat) (l : List Mk) (p : ByteArray) (w : World) (hn : l.length = n) (hn2 : n ≤ 256) (hM : ML w A l) (hs : ∀ x ∈ l, 0 ≤ x.s ∧ x.s ≤ 10) (hp : p ∈ papersL l) :
    Calls Tryz.prog 22 #[.slice A n cap, .string p] w (FRet (lowZ (difI (scB l p)) (2 * (scB l p).length * (scB l p).length : Nat)) w) := by
  have HSO := Lib.hid (fun W (h : Below w.heap.size w W) => scoresof_walk A n cap l p W hn (by omega) (hM.below h) hs)
  have hpos := scB_pos hp
  have hlen := Nat.le_trans (scB_len l p) (by rw [hn]; exact hn2)
  have hmem := scB_mem hs p
  obtain ⟨zs, hz⟩ : ∃ zs, scB l p = zs := ⟨_, rfl⟩
  rw [hz] at HSO hpos hlen hmem ⊢
  have HPL := Lib.hid (srtI_perm zs).length_eq
  have HPD := Lib.hid (srtI_dif zs)
  have HPM := Lib.hid (fun x hx => hmem x ((srtI_perm zs).mem_iff.1 hx))
  obtain ⟨m, hm⟩ : ∃ m, zs.length = m := ⟨_, rfl⟩
  rw [hm] at HPL hpos hlen ⊢
  obtain ⟨ys, hys⟩ : ∃ ys, srtI zs = ys := ⟨_, rfl⟩
  rw [hys] at HSO HPL HPD HPM
  obtain ⟨t, ht⟩ : ∃ t, difI zs = t := ⟨_, rfl⟩
  rw [ht] at HPD ⊢
  have HQA := Lib.hid (show allQ ys ys = t by rw [allQ_self]; exact HPD.out)
  clear hn hM hs hp hmem hz hm hys ht
  go_enter Tryz.func22, Tryz.ntmps22
  go_wp2_with fail
  refine (HSO.out _ ((Below.refl _ _).alloc (Nat.le_refl _) _)).mono ?_; rintro e w1 ⟨A1, c1, rfl, hil, hb1⟩
  rw [HPL.out]
  have B1 := Lib.hid (((Below.refl _ _).alloc (Nat.le_refl _) (.cells #[.int .i64 0, .int .i64 0] 37)).trans (hb1.mono (by simp)) : Below w.heap.size w w1)
  have R1 := Lib.hid ((Blk.new w 37 #[.int .i64 0, .int .i64 0]).below hb1 (by simp))
  obtain ⟨g, hA1, _, hcl⟩ := hil.2 (by rw [HPL.out]; omega)
  subst hA1
  have HCL := Lib.hid hcl
  clear hil hb1 HSO hcl
  go_wp2_with fail
  go_loop [6, 16] (fun a i => ∃ (k : Nat) (q : Int), k ≤ m ∧ i = .int .i64 k ∧ a = .int .i64 q ∧ Hid (allQ ys (ys.take k) = q)) (fun _ i => m - (intOf i).toNat)
  case atStart => exact ⟨0, 0, Nat.zero_le _, rfl, rfl, Lib.hid rfl⟩
  case round =>
    obtain ⟨k, q, hk, rfl, rfl, HQ⟩ := hrel
    have hqb := allQ_bd ys HPM.out m (Nat.le_of_eq HPL.out) (ys.take k) (take_mem HPM.out k)
    rw [HQ.out, List.length_take, HPL.out] at hqb
    have hq0 := hqb.1
    have hq1 : q ≤ 6553600 := by
      have h1 := hqb.2
      have h2 : (100 * (m : Int)) * ((min k m : Nat) : Int) ≤ (100 * 256) * 256 := Int.mul_le_mul (by omega) (by omega) (by omega) (by omega)
      omega
    clear hqb
    by_cases hlt : k < m
    · have hkl : k < ys.length := by rw [HPL.out]; exact hlt
      have c0 := HCL.out k hkl
      have hx := HPM.out _ (List.getElem_mem hkl)
      have HNX := Lib.hid (show allQ ys (ys.take (k + 1)) = q + rowQ ys ys[k] by rw [allQ_next ys hkl, HQ.out])
      generalize ys[k] = x at *
      have a0 : (0 : Int) ≤ (k : Int) := by omega
      have a1 : (k : Int) < (m : Int) := by omega
      have HX := Lib.hid hx
      go_wp2_with fail
      go_loop [6, 22] (fun a i => ∃ (j : Nat) (s : Int), j ≤ m ∧ i = .int .i64 j ∧ a = .int .i64 (q + s) ∧ Hid (rowQ (ys.take j) x = s)) (fun _ i => m - (intOf i).toNat)
      case atStart => exact ⟨0, 0, Nat.zero_le _, rfl, by rw [Int.add_zero], Lib.hid rfl⟩
      case round =>
        clear c0
        obtain ⟨j, s, hj, rfl, rfl, HS⟩ := hrel
        have hsb := rowQ_bd HX.out (ys.take j) (take_mem HPM.out j)
        rw [HS.out, List.length_take] at hsb
        have hs0 := hsb.1
        have hs1 : s ≤ 25600 := by have := hsb.2; omega
        clear hsb
        by_cases hjl : j < m
        · have hjy : j < ys.length := by rw [HPL.out]; exact hjl
          have c0 := HCL.out j hjy
          have hy := HPM.out _ (List.getElem_mem hjy)
          have HNY := Lib.hid (show rowQ (ys.take (j + 1)) x = s + (x - ys[j]) * (x - ys[j]) by rw [rowQ_next hjy, HS.out])
          generalize ys[j] = y at *
          obtain ⟨hsq0, hsq1⟩ := sq_bd HX.out hy
          have b0 : (0 : Int) ≤ (j : Int) := by omega
          have b1 : (j : Int) < (m : Int) := by omega
          obtain ⟨hx0, hx1⟩ := HX.out
          obtain ⟨hy0, hy1⟩ := hy
          clear hx
          go_wp2_with fail
          go_round
          case rel => exact ⟨j + 1, s + (x - y) * (x - y), by omega, by go_num, by rw [Int.add_assoc], HNY⟩
          case measure => simp [intOf]; omega
        · have hjm : j = m := by omega
          subst hjm
          have HE := Lib.hid (show allQ ys (ys.take (k + 1)) = q + s by rw [HNX.out, ← HS.out, List.take_of_length_le (by rw [HPL.out]; exact Nat.le_refl _)])
          go_wp2_with fail
          go_round
          case rel => exact ⟨k + 1, q + s, by omega, by go_num, rfl, HE⟩
          case measure => simp [intOf]; omega
    · have hkm : k = m := by omega
      subst hkm
      have HE := Lib.hid (show q = t by rw [← HQ.out, List.take_of_length_le (by rw [HPL.out]; exact Nat.le_refl _), HQA.out])
      have p0 : 0 ≤ 2 * (k : Int) * (k : Int) := Int.mul_nonneg (by omega) (by omega)
      have p1 : 2 * (k : Int) * (k : Int) ≤ 512 * 256 := Int.mul_le_mul (by omega) (by omega) (by omega) (by omega)
      have hN : ((2 * k * k : Nat) : Int) = 2 * (k : Int) * (k : Int) := by push_cast; rfl
      have hN1 : 1 ≤ 2 * k * k := Nat.mul_pos (by omega) (by omega)
      have hN2 : 2 * k * k ≤ 512 * 256 := Nat.mul_le_mul (by omega) (by omega)
      have HPZ := Lib.hid (fun W => partZ_any t (2 * k * k) W (by rw [← HE.out]; omega) (by rw [← HE.out]; omega) hN1 (by omega))
      rw [hN] at HPZ ⊢
      have hqt := HE.out
      subst hqt
      clear hN hN1 hN2
      go_wp2_with fail
      refine (HPZ.out _).mono ?_; rintro e w3 ⟨rfl, hb3⟩
      obtain ⟨u, hu⟩ : ∃ u, lowZ q (2 * (k : Int) * (k : Int)) = u := ⟨_, rfl⟩
      rw [hu]
      have HU := Lib.hid hu
      have B3 := Lib.hid (B1.out.trans (hb3.mono B1.out.size))
      have R3 := Lib.hid (R1.out.below hb3 R1.out.lt)
      have f0 := R3.out.frozen 0
      have f1 := R3.out.frozen 1
      have q0 := R3.out.cell 0 _ rfl
      have q1 := R3.out.cell 1 _ rfl
      clear hb3 hu p0 p1
      go_wp2_with fail
      exact bodyPost_ret (v := .agg #[.int .i64 u.1, .int .i64 u.2]) (by simp only [results, Tryz.results22]; go_simp) rfl ⟨by rw [show ((2 * k * k : Nat) : Int) = 2 * (k : Int) * (k : Int) by push_cast; rfl, HU.out], (B3.out.setCell (p := ⟨w.heap.size, 0, none⟩) (Nat.le_refl _) _).setCell (p := ⟨w.heap.size, 1, none⟩) (Nat.le_refl _) _⟩
end Go.Proofs.YtgajencgpceabaaGreatDoor.Cal
