/-
  THE CONTRACT OF THE PROGRAM'S exact.Check at Nums from 0: a row of fractions in memory, all of them right or not.
-/
import Derived.Test.YtnjigaklkalebaaDoorLow
import Derived.Deep.RegionHeld3
namespace Go.Proofs.YtnjigaklkalebaaDoor.Frac
open Go.ChangeShapes Go.WideShapes Go.ChangeAt Go.RowKit
set_option linter.unusedVariables false

def rightsE : List (Int × Int) → Int
  | [] => 0
  | (n, d) :: t => if right n d = true then rightsE t else 3
/-- A block of fractions. -/
def FL (w : World) (b : Nat) (l : List (Int × Int)) : Prop :=
  b < w.heap.size ∧ ∀ (i : Nat) (h : i < l.length), w.cell? ⟨b, i * 2, none⟩ = some (.int .i64 l[i].1) ∧ w.cell? ⟨b, i * 2 + 1, none⟩ = some (.int .i64 l[i].2)
theorem fdrop {α : Type} (l : List α) (k : Nat) (h : k < l.length) : l.drop k = l[k] :: l.drop (k + 1) := List.drop_eq_getElem_cons h

theorem right_cases (n d p q : Nat) (h1 : 1 ≤ d) (h2 : d ≤ 1000000000) (h4 : n ≤ 1000000000) (hp : n / Nat.gcd n d = p) (hq : d / Nat.gcd n d = q) :
    right n d = true ∧ p = n ∧ q = d ∨ right n d = false ∧ p = n ∧ q ≠ d ∨ right n d = false ∧ p ≠ n := by
  have hr : right n d = decide (Nat.gcd n d = 1) := by
    unfold right; simp only [Int.toNat_natCast]
    by_cases g : Nat.gcd n d = 1
    · simp [g]; omega
    · simp [g]
  rw [hr]
  by_cases g : Nat.gcd n d = 1
  · left; rw [g] at hp hq; simp at hp hq; exact ⟨by simp [g], hp.symm, hq.symm⟩
  · have hg : 0 < Nat.gcd n d := Nat.gcd_pos_of_pos_right n h1
    have hd : q ≠ d := by
      have : d / Nat.gcd n d < d := Nat.div_lt_self h1 (by omega)
      omega
    by_cases hpn : p = n
    · right; left; exact ⟨by simp [g], hpn, hd⟩
    · right; right; exact ⟨by simp [g], hpn⟩

set_option maxHeartbeats 4000000 in
theorem fracs_walk (b n cap : Nat) (l : List (Int × Int)) (w : World) (hn : l.length = n) (hn2 : n ≤ 1000) (hS : FL w b l) (r : Int) (hr : Hid (rightsE l = r)) :
    Calls Tryd.prog 33 #[.int .i64 0, .slice (some ⟨b, 0, none⟩) n cap] w fun e w' => e = .returned (.int .i64 r) ∧ Below w.heap.size w w' := by
  have HS := Lib.hid hS
  have HL := Lib.hid hn
  clear hS hn
  go_enter Tryd.func33, Tryd.ntmps33
  go_wp2_with fail
  go_loopw [9] (fun i wr => ∃ (k : Nat), k ≤ n ∧ i = .int .i64 k ∧ Hid (rightsE (l.drop k) = r) ∧ Hid (Below w.heap.size w wr)) (fun i _ => n - (intOf i).toNat)
  case atStart => exact ⟨0, Nat.zero_le _, rfl, hr, Lib.hid (Below.refl _ _)⟩
  case round =>
    obtain ⟨k, hk, rfl, HK, HBW⟩ := hrel
    by_cases hlt : k < n
    · have hkl : k < l.length := by have := HL.out; omega
      obtain ⟨hbl, hc⟩ := HS.out
      obtain ⟨d0, d1⟩ := hc k hkl
      have c0 := (HBW.out.cell (p := ⟨b, k * 2, none⟩) hbl).trans d0
      have c1 := (HBW.out.cell (p := ⟨b, k * 2 + 1, none⟩) hbl).trans d1
      have hq := HK.out
      rw [fdrop l k hkl] at hq
      generalize l[k] = x at *
      obtain ⟨num, den⟩ := x
      have HQ : Hid ((if right num den = true then rightsE (l.drop (k + 1)) else 3) = r) := Lib.hid hq
      simp only [] at c0 c1
      have hz := HBW.out.size
      clear hq hc d0 d1 HK
      have go_no : right num den = false → Hid (3 = r) := fun h => Lib.hid (by have := HQ.out; rw [h] at this; simpa using this)
      by_cases b1 : den < 1
      · have HE := go_no (right_no _ _ (by omega))
        have a1 : decide (den < 1) = true := by simpa using b1
        go_wp2_with fail
        go_quiet (fail)
        go_wp2_with fail
        go_ret; exact ⟨Stm.ret_int HE.out, Stm.Below.drewN (HBW.out.alloc hz _) _⟩
      have a1 : decide (den < 1) = false := by simpa using b1
      by_cases b2 : den > 1000000000
      · have HE := go_no (right_no _ _ (by omega))
        have a2 : decide (den > 1000000000) = true := by simpa using b2
        go_wp2_with fail
        go_quiet (fail)
        go_wp2_with fail
        go_ret; exact ⟨Stm.ret_int HE.out, Stm.Below.drewN (HBW.out.alloc hz _) _⟩
      have a2 : decide (den > 1000000000) = false := by simpa using b2
      by_cases b3 : num < 0
      · have HE := go_no (right_no _ _ (by omega))
        have a3 : decide (num < 0) = true := by simpa using b3
        go_wp2_with fail
        go_quiet (fail)
        go_wp2_with fail
        go_ret; exact ⟨Stm.ret_int HE.out, Stm.Below.drewN (HBW.out.alloc hz _) _⟩
      have a3 : decide (num < 0) = false := by simpa using b3
      by_cases b4 : num > 1000000000
      · have HE := go_no (right_no _ _ (by omega))
        have a4 : decide (num > 1000000000) = true := by simpa using b4
        go_wp2_with fail
        go_quiet (fail)
        go_wp2_with fail
        go_ret; exact ⟨Stm.ret_int HE.out, Stm.Below.drewN (HBW.out.alloc hz _) _⟩
      have a4 : decide (num > 1000000000) = false := by simpa using b4
      obtain ⟨nn, rfl⟩ := Int.eq_ofNat_of_zero_le (show 0 ≤ num by omega)
      obtain ⟨dd, rfl⟩ := Int.eq_ofNat_of_zero_le (show 0 ≤ den by omega)
      obtain ⟨p, hp⟩ : ∃ p, nn / Nat.gcd nn dd = p := ⟨_, rfl⟩
      obtain ⟨q, hq⟩ : ∃ q, dd / Nat.gcd nn dd = q := ⟨_, rfl⟩
      have cases3 : right nn dd = true ∧ p = nn ∧ q = dd ∨ right nn dd = false ∧ p = nn ∧ q ≠ dd ∨ right nn dd = false ∧ p ≠ nn := right_cases nn dd p q (by omega) (by omega) (by omega) hp hq
      have HP := Lib.hid hp
      have HQQ := Lib.hid hq
      have k1 : 1 ≤ dd := by omega
      have k2 : dd ≤ 4611686018427387904 := by omega
      have k3 : nn ≤ 4611686018427387904 := by omega
      clear hp hq go_no b1 b2 b3 b4
      rcases cases3 with ⟨hr1, rfl, rfl⟩ | ⟨hr1, rfl, hne⟩ | ⟨hr1, hne⟩
      · have HQ4 : Hid (rightsE (l.drop (k + 1)) = r) := Lib.hid (by have := HQ.out; rw [hr1] at this; simpa using this)
        clear hr1 HQ
        go_wp2_with fail
        go_region_held3 (fun v => v.cell? ⟨wr.heap.size, 0, none⟩ = some (.int .i64 p) ∧ v.cell? ⟨wr.heap.size, 1, none⟩ = some (.int .i64 q) ∧ Below wr.heap.size wr v ∧ wr.heap.size < v.heap.size)
          (first
            | (go_split_ands; exact ⟨(hc _ _ (by assumption)).trans (by assumption), (hc _ _ (by assumption)).trans (by assumption), Below.trans (by assumption) (hb.mono (Nat.le_of_lt (by assumption))), Nat.lt_of_lt_of_le (by assumption) hb.size⟩)
            | (refine ⟨by simp, by simp, ?_, ?_⟩; repeat' (first | (with_reducible exact Below.refl _ _) | (with_reducible refine Below.drew ?_) | (with_reducible refine Below.alloc ?_ ?_ _) | go_size)))
          (first | (go_at_call 34; refine (low_as _ _ _ _ _ (by omega) (by omega) (by omega) HP HQQ).mono ?_; rintro e w1 ⟨rfl, hb⟩; obtain ⟨hc, hf⟩ := bcell hb))
        go_split_ands
        have HB9 : Hid (Below w.heap.size w _) := Lib.hid (HBW.out.trans (Below.mono (by assumption) hz))
        go_wp2_with fail
        go_roundw
        case rel => exact ⟨k + 1, by omega, by go_num, HQ4, HB9⟩
        case measure => simp [intOf]; omega
      · have HE : Hid (3 = r) := Lib.hid (by have := HQ.out; rw [hr1] at this; simpa using this)
        have e1 : ((q : Int) != (dd : Int)) = true := by rw [bne_iff_ne]; omega
        have e2 : ((q : Int) == (dd : Int)) = false := by simp; omega
        clear hr1 HQ
        go_wp2_with fail
        go_region_held3 (fun v => v.cell? ⟨wr.heap.size, 0, none⟩ = some (.int .i64 p) ∧ v.cell? ⟨wr.heap.size, 1, none⟩ = some (.int .i64 dd) ∧ Below wr.heap.size wr v ∧ wr.heap.size < v.heap.size)
          (first
            | (go_split_ands; exact ⟨(hc _ _ (by assumption)).trans (by assumption), (hc _ _ (by assumption)).trans (by assumption), Below.trans (by assumption) (hb.mono (Nat.le_of_lt (by assumption))), Nat.lt_of_lt_of_le (by assumption) hb.size⟩)
            | (refine ⟨by simp, by simp, ?_, ?_⟩; repeat' (first | (with_reducible exact Below.refl _ _) | (with_reducible refine Below.drew ?_) | (with_reducible refine Below.alloc ?_ ?_ _) | go_size)))
          (first | (go_at_call 34; refine (low_as _ _ _ _ _ (by omega) (by omega) (by omega) HP HQQ).mono ?_; rintro e w1 ⟨rfl, hb⟩; obtain ⟨hc, hf⟩ := bcell hb))
        go_split_ands
        go_wp2_with fail
        go_ret; exact ⟨Stm.ret_int HE.out, HBW.out.trans (Below.mono (by assumption) hz)⟩
      · have HE : Hid (3 = r) := Lib.hid (by have := HQ.out; rw [hr1] at this; simpa using this)
        have e1 : ((p : Int) != (nn : Int)) = true := by rw [bne_iff_ne]; omega
        have e2 : ((p : Int) == (nn : Int)) = false := by simp; omega
        clear hr1 HQ
        go_wp2_with fail
        go_region_held3 (fun v => v.cell? ⟨wr.heap.size, 0, none⟩ = some (.int .i64 nn) ∧ v.cell? ⟨wr.heap.size, 1, none⟩ = some (.int .i64 dd) ∧ Below wr.heap.size wr v ∧ wr.heap.size < v.heap.size)
          (first
            | (go_split_ands; exact ⟨(hc _ _ (by assumption)).trans (by assumption), (hc _ _ (by assumption)).trans (by assumption), Below.trans (by assumption) (hb.mono (Nat.le_of_lt (by assumption))), Nat.lt_of_lt_of_le (by assumption) hb.size⟩)
            | (refine ⟨by simp, by simp, ?_, ?_⟩; repeat' (first | (with_reducible exact Below.refl _ _) | (with_reducible refine Below.drew ?_) | (with_reducible refine Below.alloc ?_ ?_ _) | go_size)))
          (first | (go_at_call 34; refine (low_as _ _ _ _ _ (by omega) (by omega) (by omega) HP HQQ).mono ?_; rintro e w1 ⟨rfl, hb⟩; obtain ⟨hc, hf⟩ := bcell hb))
        go_split_ands
        go_wp2_with fail
        go_ret; exact ⟨Stm.ret_int HE.out, HBW.out.trans (Below.mono (by assumption) hz)⟩
    · have HE : Hid (0 = r) := Lib.hid (by have := HK.out; rw [List.drop_of_length_le (by have := HL.out; omega)] at this; exact this)
      clear HK
      go_wp2_with fail
      go_ret; exact ⟨Stm.ret_int HE.out, HBW.out⟩
end Go.Proofs.YtnjigaklkalebaaDoor.Frac
