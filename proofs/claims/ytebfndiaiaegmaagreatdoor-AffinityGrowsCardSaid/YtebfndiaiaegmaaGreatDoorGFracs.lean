/-
  THE CONTRACT OF THE PROGRAM'S checkFractions: a row of fractions in memory, all of them right or not.
-/
import Derived.Test.YtebfndiaiaegmaaGreatDoorGPart
import Derived.Deep.RegionHeld3
import Derived.Test.YtebfndiaiaegmaaGreatDoorFractionGen
namespace Go.Proofs.YtebfndiaiaegmaaGreatDoor.Frac
open Go.ChangeShapes Go.WideShapes Go.ChangeAt Go.RowKit
set_option linter.unusedVariables false

def rightsE : List (Int × Int) → Int
  | [] => 0
  | (n, d) :: t => if right n d = true then rightsE t else 3
/-- A block of fractions. -/
def FL (w : World) (b : Nat) (l : List (Int × Int)) : Prop :=
  b < w.heap.size ∧ ∀ (i : Nat) (h : i < l.length), w.cell? ⟨b, i * 2, none⟩ = some (.int .i64 l[i].1) ∧ w.cell? ⟨b, i * 2 + 1, none⟩ = some (.int .i64 l[i].2)
theorem fdrop {α : Type} (l : List α) (k : Nat) (h : k < l.length) : l.drop k = l[k] :: l.drop (k + 1) := List.drop_eq_getElem_cons h

theorem right_cases (n d p q : Nat) (h1 : 1 ≤ d) (h2 : d ≤ 1000000000) (h4 : n ≤ 1000000000) (hp : n / Nat.gcd n d = p) (hq : d / Nat.gcd n d = q) :
    right n d = true ∧ p = n ∧ q = d ∨ right n d = false ∧ p = n ∧ q ≠ d ∨ right n d = false ∧ p ≠ n := by
  have hr : right n d = decide (Nat.gcd n d = 1) := by
    unfold right; simp only [Int.toNat_natCast]
    by_cases g : Nat.gcd n d = 1
    · simp [g]; omega
    · simp [g]
  rw [hr]
  by_cases g : Nat.gcd n d = 1
  · left; rw [g] at hp hq; simp at hp hq; exact ⟨by simp [g], hp.symm, hq.symm⟩
  · have hg : 0 < Nat.gcd n d := Nat.gcd_pos_of_pos_right n h1
    have hd : q ≠ d := by
      have : d / Nat.gcd n d < d := Nat.div_lt_self h1 (by omega)
      omega
    by_cases hpn : p = n
    · right; left; exact ⟨by simp [g], hpn, hd⟩
    · right; right; exact ⟨by simp [g], hpn⟩

set_option maxHeartbeats 4000000 in
theorem fracs_walk (b n cap : Nat) (l : List (Int × Int)) (w : World) (hn : l.length = n) (hn2 : n ≤ 1000) (hS : FL w b l) (r : Int) (hr : Hid (rightsE l = r)) :
    Calls Tryz.prog 33 #[.slice (some ⟨b, 0, none⟩) n cap] w fun e w' => e = .returned (.int .i64 r) ∧ Below w.heap.size w w' := by
  have HS := Lib.hid hS
  have HL := Lib.hid hn
  clear hS hn
  go_enter Tryz.func33, Tryz.ntmps33
  go_wp2_with fail
  go_loopw [7] (fun i wr => ∃ (k : Nat), k ≤ n ∧ i = .int .i64 k ∧ Hid (rightsE (l.drop k) = r) ∧ Hid (Below w.heap.size w wr)) (fun i _ => n - (intOf i).toNat)
  case atStart => exact ⟨0, Nat.zero_le _, rfl, hr, Lib.hid (Below.refl _ _)⟩
  case round =>
    obtain ⟨k, hk, rfl, HK, HBW⟩ := hrel
    by_cases hlt : k < n
    · have hkl : k < l.length := by have := HL.out; omega
      obtain ⟨hbl, hc⟩ := HS.out
      obtain ⟨d0, d1⟩ := hc k hkl
      have c0 := (HBW.out.cell (p := ⟨b, k * 2, none⟩) hbl).trans d0
      have c1 := (HBW.out.cell (p := ⟨b, k * 2 + 1, none⟩) hbl).trans d1
      have hq := HK.out
      rw [fdrop l k hkl] at hq
      generalize l[k] = x at *
      obtain ⟨num, den⟩ := x
      have HQ : Hid ((if right num den = true then rightsE (l.drop (k + 1)) else 3) = r) := Lib.hid hq
      simp only [] at c0 c1
      have hz := HBW.out.size
      clear hq hc d0 d1 HK
      have go_no : right num den = false → Hid (3 = r) := fun h => Lib.hid (by have := HQ.out; rw [h] at this; simpa using this)
      by_cases b1 : den < 1
      · have HE := go_no (right_no _ _ (by omega))
        have a1 : decide (den < 1) = true := by simpa using b1
        go_wp2_with fail
        go_quiet (fail)
        go_wp2_with fail
        go_ret; exact ⟨Stm.ret_int HE.out, Stm.Below.drewN (HBW.out.alloc hz _) _⟩
      have a1 : decide (den < 1) = false := by simpa using b1
      by_cases b2 : den > 1000000000
      · have HE := go_no (right_no _ _ (by omega))
        have a2 : decide (den > 1000000000) = true := by simpa using b2
        go_wp2_with fail
        go_quiet (fail)
        go_wp2_with fail
        go_ret; exact ⟨Stm.ret_int HE.out, Stm.Below.drewN (HBW.out.alloc hz _) _⟩
      have a2 : decide (den > 1000000000) = false := by simpa using b2
      by_cases b3 : num < 0
      · have HE := go_no (right_no _ _ (by omega))
        have a3 : decide (num < 0) = true := by simpa using b3
        go_wp2_with fail
        go_quiet (fail)
        go_wp2_with fail
        go_ret; exact ⟨Stm.ret_int HE.out, Stm.Below.drewN (HBW.out.alloc hz _) _⟩
      have a3 : decide (num < 0) = false := by simpa using b3
      by_cases b4 : num > 1000000000
      · have HE := go_no (right_no _ _ (by omega))
        have a4 : decide (num > 1000000000) = true := by simpa using b4
        go_wp2_with fail
        go_quiet (fail)
        go_wp2_with fail
        go_ret; exact ⟨Stm.ret_int HE.out, Stm.Below.drewN (HBW.out.alloc hz _) _⟩
      have a4 : decide (num > 1000000000) = false := by simpa using b4
      obtain ⟨nn, rfl⟩ := Int.eq_ofNat_of_zero_le (show 0 ≤ num by omega)
      obtain ⟨dd, rfl⟩ := Int.eq_ofNat_of_zero_le (show 0 ≤ den by omega)
      obtain ⟨p, hp⟩ : ∃ p, nn / Nat.gcd nn dd = p := ⟨_, rfl⟩
      obtain ⟨q, hq⟩ : ∃ q, dd / Nat.gcd nn dd = q := ⟨_, rfl⟩
      have cases3 : right nn dd = true ∧ p = nn ∧ q = dd ∨ right nn dd = false ∧ p = nn ∧ q ≠ dd ∨ right nn dd = false ∧ p ≠ nn := right_cases nn dd p q (by omega) (by omega) (by omega) hp hq
      have HP := Lib.hid hp
      have HQQ := Lib.hid hq
      have k1 : 1 ≤ dd := by omega
      have k2 : dd ≤ 4611686018427387904 := by omega
      have k3 : nn ≤ 4611686018427387904 := by omega
      clear hp hq go_no b1 b2 b3 b4
      rcases cases3 with ⟨hr1, rfl, rfl⟩ | ⟨hr1, rfl, hne⟩ | ⟨hr1, hne⟩
      · have HQ4 : Hid (rightsE (l.drop (k + 1)) = r) := Lib.hid (by have := HQ.out; rw [hr1] at this; simpa using this)
        clear hr1 HQ
        go_wp2_with fail
        go_region_held3 (fun v => v.cell? ⟨wr.heap.size, 0, none⟩ = some (.int .i64 p) ∧ v.cell? ⟨wr.heap.size, 1, none⟩ = some (.int .i64 q) ∧ Below wr.heap.size wr v ∧ wr.heap.size < v.heap.size)
          (first
            | (go_split_ands; exact ⟨(hc _ _ (by assumption)).trans (by assumption), (hc _ _ (by assumption)).trans (by assumption), Below.trans (by assumption) (hb.mono (Nat.le_of_lt (by assumption))), Nat.lt_of_lt_of_le (by assumption) hb.size⟩)
            | (refine ⟨by simp, by simp, ?_, ?_⟩; repeat' (first | (with_reducible exact Below.refl _ _) | (with_reducible refine Below.drew ?_) | (with_reducible refine Below.alloc ?_ ?_ _) | go_size)))
          (first | (go_at_call 32; refine (low_as _ _ _ _ _ (by omega) (by omega) (by omega) HP HQQ).mono ?_; rintro e w1 ⟨rfl, hb⟩; obtain ⟨hc, hf⟩ := bcell hb))
        go_split_ands
        have HB9 : Hid (Below w.heap.size w _) := Lib.hid (HBW.out.trans (Below.mono (by assumption) hz))
        go_wp2_with fail
        go_roundw
        case rel => exact ⟨k + 1, by omega, by go_num, HQ4, HB9⟩
        case measure => simp [intOf]; omega
      · have HE : Hid (3 = r) := Lib.hid (by have := HQ.out; rw [hr1] at this; simpa using this)
        have e1 : ((q : Int) != (dd : Int)) = true := by rw [bne_iff_ne]; omega
        have e2 : ((q : Int) == (dd : Int)) = false := by simp; omega
        clear hr1 HQ
        go_wp2_with fail
        go_region_held3 (fun v => v.cell? ⟨wr.heap.size, 0, none⟩ = some (.int .i64 p) ∧ v.cell? ⟨wr.heap.size, 1, none⟩ = some (.int .i64 dd) ∧ Below wr.heap.size wr v ∧ wr.heap.size < v.heap.size)
          (first
            | (go_split_ands; exact ⟨(hc _ _ (by assumption)).trans (by assumption), (hc _ _ (by assumption)).trans (by assumption), Below.trans (by assumption) (hb.mono (Nat.le_of_lt (by assumption))), Nat.lt_of_lt_of_le (by assumption) hb.size⟩)
            | (refine ⟨by simp, by simp, ?_, ?_⟩; repeat' (first | (with_reducible exact Below.refl _ _) | (with_reducible refine Below.drew ?_) | (with_reducible refine Below.alloc ?_ ?_ _) | go_size)))
          (first | (go_at_call 32; refine (low_as _ _ _ _ _ (by omega) (by omega) (by omega) HP HQQ).mono ?_; rintro e w1 ⟨rfl, hb⟩; obtain ⟨hc, hf⟩ := bcell hb))
        go_split_ands
        go_wp2_with fail
        go_ret; exact ⟨Stm.ret_int HE.out, HBW.out.trans (Below.mono (by assumption) hz)⟩
      · have HE : Hid (3 = r) := Lib.hid (by have := HQ.out; rw [hr1] at this; simpa using this)
        have e1 : ((p : Int) != (nn : Int)) = true := by rw [bne_iff_ne]; omega
        have e2 : ((p : Int) == (nn : Int)) = false := by simp; omega
        clear hr1 HQ
        go_wp2_with fail
        go_region_held3 (fun v => v.cell? ⟨wr.heap.size, 0, none⟩ = some (.int .i64 nn) ∧ v.cell? ⟨wr.heap.size, 1, none⟩ = some (.int .i64 dd) ∧ Below wr.heap.size wr v ∧ wr.heap.size < v.heap.size)
          (first
            | (go_split_ands; exact ⟨(hc _ _ (by assumption)).trans (by assumption), (hc _ _ (by assumption)).trans (by assumption), Below.trans (by assumption) (hb.mono (Nat.le_of_lt (by assumption))), Nat.lt_of_lt_of_le (by assumption) hb.size⟩)
            | (refine ⟨by simp, by simp, ?_, ?_⟩; repeat' (first | (with_reducible exact Below.refl _ _) | (with_reducible refine Below.drew ?_) | (with_reducible refine Below.alloc ?_ ?_ _) | go_size)))
          (first | (go_at_call 32; refine (low_as _ _ _ _ _ (by omega) (by omega) (by omega) HP HQQ).mono ?_; rintro e w1 ⟨rfl, hb⟩; obtain ⟨hc, hf⟩ := bcell hb))
        go_split_ands
        go_wp2_with fail
        go_ret; exact ⟨Stm.ret_int HE.out, HBW.out.trans (Below.mono (by assumption) hz)⟩
    · have HE : Hid (0 = r) := Lib.hid (by have := HK.out; rw [List.drop_of_length_le (by have := HL.out; omega)] at this; exact this)
      clear HK
      go_wp2_with fail
      go_ret; exact ⟨Stm.ret_int HE.out, HBW.out⟩
end Go.Proofs.YtebfndiaiaegmaaGreatDoor.Frac

/-
  THE CONTRACTS OF THE PROGRAM'S Add AND Compare: what the reference's are.
-/
namespace Go.Proofs.YtebfndiaiaegmaaGreatDoor.Frac
open Go.ChangeShapes Go.WideShapes Go.ChangeAt Go.RowKit
set_option linter.unusedVariables false

theorem fl_new {w : World} {b : Nat} (n1 d1 n2 d2 : Int) (t : TypeId) (h : b = w.heap.size) : FL (w.alloc (.cells #[.int .i64 n1, .int .i64 d1, .int .i64 n2, .int .i64 d2] t)) b [(n1, d1), (n2, d2)] := by
  subst h
  have hb := heap_alloc_new w (.cells #[.int .i64 n1, .int .i64 d1, .int .i64 n2, .int .i64 d2] t)
  generalize w.alloc _ = W at *
  generalize w.heap.size = b at *
  refine ⟨lt_of_block hb, fun i hi => ?_⟩
  have hi' : i = 0 ∨ i = 1 := by simp at hi; omega
  rcases hi' with rfl | rfl
  · exact ⟨by simp [World.cell?, hb], by simp [World.cell?, hb]⟩
  · exact ⟨by simp [World.cell?, hb], by simp [World.cell?, hb]⟩
theorem rights2 (n1 d1 n2 d2 : Int) : rightsE [(n1, d1), (n2, d2)] = if right n1 d1 = true ∧ right n2 d2 = true then 0 else 3 := by
  show (if right n1 d1 = true then (if right n2 d2 = true then (0 : Int) else 3) else 3) = _
  cases right n1 d1 <;> cases right n2 d2 <;> rfl
theorem fl_new1 {w : World} {b : Nat} (n1 d1 : Int) (t : TypeId) (h : b = w.heap.size) : FL (w.alloc (.cells #[.int .i64 n1, .int .i64 d1] t)) b [(n1, d1)] := by
  subst h
  have hb := heap_alloc_new w (.cells #[.int .i64 n1, .int .i64 d1] t)
  generalize w.alloc _ = W at *
  generalize w.heap.size = b at *
  refine ⟨lt_of_block hb, fun i hi => ?_⟩
  obtain rfl : i = 0 := by simp at hi; omega
  exact ⟨by simp [World.cell?, hb], by simp [World.cell?, hb]⟩

set_option maxHeartbeats 2000000 in
theorem add_no (n1 d1 n2 d2 : Int) (w : World) (h : ¬ (right n1 d1 = true ∧ right n2 d2 = true)) :
    Calls Tryz.prog 12 #[.agg #[.int .i64 n1, .int .i64 d1], .agg #[.int .i64 n2, .int .i64 d2]] w fun e w' => e = .returned (fracRes (0, 0, 3)) ∧ Below w.heap.size w w' := by
  have H := Lib.hid (show rightsE [(n1, d1), (n2, d2)] = 3 by rw [rights2, if_neg h])
  clear h
  go_enter Tryz.func12, Tryz.ntmps12
  go_wp2_with fail
  refine (fracs_walk _ 2 _ [(n1, d1), (n2, d2)] _ rfl (by omega) (fl_new n1 d1 n2 d2 _ (by simp)) 3 H).mono ?_
  rintro e w1 ⟨rfl, hb⟩
  obtain ⟨hc, hf⟩ := bcell hb
  have r0 : w1.cell? ⟨w.heap.size + 1 + 1, 0, none⟩ = some (.int .i64 0) := by rw [hc _ _ (by go_size)]; go_cell
  have r1 : w1.cell? ⟨w.heap.size + 1 + 1, 1, none⟩ = some (.int .i64 0) := by rw [hc _ _ (by go_size)]; go_cell
  have f0 : w1.frozen? ⟨w.heap.size + 1 + 1, 0, none⟩ = false := by rw [hf _ _ (by go_size)]; go_cell
  have f1 : w1.frozen? ⟨w.heap.size + 1 + 1, 1, none⟩ = false := by rw [hf _ _ (by go_size)]; go_cell
  have z1 : w.heap.size + 1 + 1 < w1.heap.size := by have := hb.size; simp at this; omega
  clear hc hf
  go_wp2_with fail
  refine bodyPost_ret (v := fracRes (0, 0, 3)) (by simp [results, Tryz.results12, go_sem, r0, r1, fracRes]) rfl ⟨rfl, ?_⟩
  refine Below.setCell (Below.setCell (Below.trans ?_ (hb.mono (by simp; omega))) (by simp; omega) _) (by simp; omega) _
  go_grown

set_option maxHeartbeats 2000000 in
theorem add_go (n1 d1 n2 d2 p q : Nat) (w : World) (h1 : right n1 d1 = true) (h2 : right n2 d2 = true) (b1 : 1 ≤ d1 ∧ d1 ≤ 1000000000 ∧ n1 ≤ 1000000000) (b2 : 1 ≤ d2 ∧ d2 ≤ 1000000000 ∧ n2 ≤ 1000000000)
    (m1 : n1 * d2 ≤ 1000000000000000000) (m2 : n2 * d1 ≤ 1000000000000000000) (m3 : d1 * d2 ≤ 1000000000000000000) (m4 : 1 ≤ d1 * d2)
    (hp : Hid ((n1 * d2 + n2 * d1) / Nat.gcd (n1 * d2 + n2 * d1) (d1 * d2) = p)) (hq : Hid ((d1 * d2) / Nat.gcd (n1 * d2 + n2 * d1) (d1 * d2) = q))
    (r : Int × Int × Int) (hr : Hid ((if 1000000000 < q ∨ 1000000000 < p then (0, 0, 2) else ((p : Int), (q : Int), (0 : Int))) = r)) :
    Calls Tryz.prog 12 #[.agg #[.int .i64 n1, .int .i64 d1], .agg #[.int .i64 n2, .int .i64 d2]] w fun e w' =>
      e = .returned (fracRes r) ∧ Below w.heap.size w w' := by
  have H := Lib.hid (show rightsE [((n1 : Int), (d1 : Int)), ((n2 : Int), (d2 : Int))] = 0 by rw [rights2, if_pos ⟨h1, h2⟩])
  clear h1 h2
  have k1 : (n1 : Int) * (d2 : Int) ≤ 1000000000000000000 := by omega
  have k2 : (n2 : Int) * (d1 : Int) ≤ 1000000000000000000 := by omega
  have k3 : (d1 : Int) * (d2 : Int) ≤ 1000000000000000000 := by omega
  have l1 : (0 : Int) ≤ (n1 : Int) * (d2 : Int) := Int.mul_nonneg (Int.natCast_nonneg _) (Int.natCast_nonneg _)
  have l2 : (0 : Int) ≤ (n2 : Int) * (d1 : Int) := Int.mul_nonneg (Int.natCast_nonneg _) (Int.natCast_nonneg _)
  have l3 : (0 : Int) ≤ (d1 : Int) * (d2 : Int) := Int.mul_nonneg (Int.natCast_nonneg _) (Int.natCast_nonneg _)
  go_enter Tryz.func12, Tryz.ntmps12
  go_wp2_with fail
  refine (fracs_walk _ 2 _ [((n1 : Int), (d1 : Int)), ((n2 : Int), (d2 : Int))] _ rfl (by omega) (fl_new _ _ _ _ _ (by simp)) 0 H).mono ?_
  rintro e w1 ⟨rfl, hb⟩
  obtain ⟨hc, hf⟩ := bcell hb
  have x0 : w1.cell? ⟨w.heap.size, 0, none⟩ = some (.int .i64 n1) := by rw [hc _ _ (by go_size)]; go_cell
  have x1 : w1.cell? ⟨w.heap.size, 1, none⟩ = some (.int .i64 d1) := by rw [hc _ _ (by go_size)]; go_cell
  have y0 : w1.cell? ⟨w.heap.size + 1, 0, none⟩ = some (.int .i64 n2) := by rw [hc _ _ (by go_size)]; go_cell
  have y1 : w1.cell? ⟨w.heap.size + 1, 1, none⟩ = some (.int .i64 d2) := by rw [hc _ _ (by go_size)]; go_cell
  have r0 : w1.cell? ⟨w.heap.size + 1 + 1, 0, none⟩ = some (.int .i64 0) := by rw [hc _ _ (by go_size)]; go_cell
  have r1 : w1.cell? ⟨w.heap.size + 1 + 1, 1, none⟩ = some (.int .i64 0) := by rw [hc _ _ (by go_size)]; go_cell
  have f0 : w1.frozen? ⟨w.heap.size + 1 + 1, 0, none⟩ = false := by rw [hf _ _ (by go_size)]; go_cell
  have f1 : w1.frozen? ⟨w.heap.size + 1 + 1, 1, none⟩ = false := by rw [hf _ _ (by go_size)]; go_cell
  have z1 : w.heap.size + 1 + 1 + 1 < w1.heap.size := by have := hb.size; simp at this; omega
  have HB1 := Lib.hid (show Below w.heap.size w w1 from Below.trans (by go_grown) (hb.mono (by simp; omega)))
  clear hc hf hb H
  go_wp2_with fail
  rw [show (n1 : Int) * (d2 : Int) + (n2 : Int) * (d1 : Int) = ((n1 * d2 + n2 * d1 : Nat) : Int) from by push_cast; rfl, show (d1 : Int) * (d2 : Int) = ((d1 * d2 : Nat) : Int) from by push_cast; rfl]
  refine (low_as _ _ p q _ (by omega) m4 (by omega) hp hq).mono ?_
  rintro e w2 ⟨rfl, hb2⟩
  obtain ⟨hc, hf⟩ := bcell hb2
  have r0b : w2.cell? ⟨w.heap.size + 1 + 1, 0, none⟩ = some (.int .i64 0) := by rw [hc _ _ (by go_size)]; go_cell
  have r1b : w2.cell? ⟨w.heap.size + 1 + 1, 1, none⟩ = some (.int .i64 0) := by rw [hc _ _ (by go_size)]; go_cell
  have f0b : w2.frozen? ⟨w.heap.size + 1 + 1, 0, none⟩ = false := by rw [hf _ _ (by go_size)]; go_cell
  have f1b : w2.frozen? ⟨w.heap.size + 1 + 1, 1, none⟩ = false := by rw [hf _ _ (by go_size)]; go_cell
  have z2 : w.heap.size + 1 + 1 < w2.heap.size := by have := hb2.size; omega
  have HB2 := HB1.out.trans (hb2.mono (by omega))
  clear hc hf hb2 r0 r1 f0 f1 x0 x1 y0 y1 k1 k2 k3 l1 l2 l3
  by_cases cp : 1000000000 < p
  · have e1 : decide ((p : Int) > 1000000000) = true := by simp; omega
    go_wp2_with fail
    refine bodyPost_ret (v := fracRes (0, 0, 2)) (by simp only [results, Tryz.results12, fracRes]; go_simp) rfl ⟨by rw [← hr.out, if_pos (Or.inr cp)], ?_⟩
    repeat' (first | (with_reducible assumption) | (with_reducible exact Below.refl _ _) | (with_reducible refine Below.setCell ?_ ?_ _) | (with_reducible refine Stm.Below.drewN ?_ _) | (with_reducible refine Below.drew ?_) | (with_reducible refine Below.alloc ?_ ?_ _) | go_size | (simp; omega))
  · have e1 : decide ((p : Int) > 1000000000) = false := by simp; omega
    by_cases cq : 1000000000 < q
    · have e2 : decide ((q : Int) > 1000000000) = true := by simp; omega
      go_wp2_with fail
      refine bodyPost_ret (v := fracRes (0, 0, 2)) (by simp only [results, Tryz.results12, fracRes]; go_simp) rfl ⟨by rw [← hr.out, if_pos (Or.inl cq)], ?_⟩
      repeat' (first | (with_reducible assumption) | (with_reducible exact Below.refl _ _) | (with_reducible refine Below.setCell ?_ ?_ _) | (with_reducible refine Stm.Below.drewN ?_ _) | (with_reducible refine Below.drew ?_) | (with_reducible refine Below.alloc ?_ ?_ _) | go_size | (simp; omega))
    · have e2 : decide ((q : Int) > 1000000000) = false := by simp; omega
      go_wp2_with fail
      refine bodyPost_ret (v := fracRes (p, q, 0)) (by simp only [results, Tryz.results12, fracRes]; go_simp) rfl ⟨by rw [← hr.out, if_neg (by omega)], ?_⟩
      repeat' (first | (with_reducible assumption) | (with_reducible exact Below.refl _ _) | (with_reducible refine Below.setCell ?_ ?_ _) | (with_reducible refine Stm.Below.drewN ?_ _) | (with_reducible refine Below.drew ?_) | (with_reducible refine Below.alloc ?_ ?_ _) | go_size | (simp; omega))

/-- Add, of whatever fractions: what the reference's AddOf hands back. -/
theorem add_ok (n1 d1 n2 d2 : Int) (w : World) :
    Calls Tryz.prog 12 #[.agg #[.int .i64 n1, .int .i64 d1], .agg #[.int .i64 n2, .int .i64 d2]] w fun e w' => e = .returned (fracRes (addR n1 d1 n2 d2)) ∧ Below w.heap.size w w' := by
  by_cases h : right n1 d1 = true ∧ right n2 d2 = true
  · obtain ⟨h1, h2⟩ := h
    obtain ⟨a, b, rfl, rfl, g1, g2, g3⟩ := right_out h1
    obtain ⟨c, d, rfl, rfl, g4, g5, g6⟩ := right_out h2
    refine add_go a b c d _ _ w h1 h2 ⟨g1, g2, g3⟩ ⟨g4, g5, g6⟩ (mul_le_big g3 g5) (mul_le_big g6 g2) (mul_le_big g2 g5) (Nat.mul_pos g1 g4) (Lib.hid rfl) (Lib.hid rfl) _ (Lib.hid ?_)
    have e1 : ((a : Int) * d + c * b).toNat = a * d + c * b := by
      rw [show (a : Int) * d + c * b = ((a * d + c * b : Nat) : Int) from by push_cast; rfl, Int.toNat_natCast]
    have e2 : ((b : Int) * d).toNat = b * d := by
      rw [show (b : Int) * d = ((b * d : Nat) : Int) from by push_cast; rfl, Int.toNat_natCast]
    simp only [addR, h1, h2, and_self, if_true, e1, e2]
  · have e : addR n1 d1 n2 d2 = (0, 0, 3) := by unfold addR; rw [if_neg h]
    rw [e]; exact add_no n1 d1 n2 d2 w h

/-- The comparison's number and error. -/
def cmpR (n1 d1 n2 d2 : Int) : Int × Int := if right n1 d1 = true ∧ right n2 d2 = true then (cmpI (n1 * d2) (n2 * d1), 0) else (0, 3)

end Go.Proofs.YtebfndiaiaegmaaGreatDoor.Frac
