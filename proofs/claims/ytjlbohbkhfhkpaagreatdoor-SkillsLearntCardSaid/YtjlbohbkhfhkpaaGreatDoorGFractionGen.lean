/-
  THE CONTRACT OF THE STREAM's 'Fraction': some two numbers, from -1 to MaxDen + 1.
-/
import Derived.Test.YtjlbohbkhfhkpaaGreatDoorGPart
import Derived.Deep.DeepCutAuto
namespace Go.Proofs.YtjlbohbkhfhkpaaGreatDoor.Frac
open Go.ChangeShapes Go.WideShapes Go.ChangeAt Go.RowKit Stm
set_option linter.unusedVariables false

/-- A returned fraction whose two numbers are small. -/
def FracRet (B k : Nat) (w : World) (e : Ending) (w' : World) : Prop :=
  ∃ n d : Int, -1 ≤ n ∧ n ≤ 1000000001 ∧ -1 ≤ d ∧ d ≤ 1000000001 ∧ e = .returned (.agg #[.int .i64 n, .int .i64 d]) ∧ Gr B w w' ∧ Strm w' B (k + 6)

/-- Two cells of block F hold some numbers, and may be written. -/
def Cells2 (F : Nat) (n d : Int) (w : World) : Prop :=
  w.cell? ⟨F, 0, none⟩ = some (.int .i64 n) ∧ w.cell? ⟨F, 1, none⟩ = some (.int .i64 d) ∧ w.frozen? ⟨F, 0, none⟩ = false ∧ w.frozen? ⟨F, 1, none⟩ = false ∧ F < w.heap.size

theorem Cells2.only {F B : Nat} {n d : Int} {w w' : World} (h : Cells2 F n d w) (ho : Only B w w') (hF : F ≠ B) : Cells2 F n d w' := by
  obtain ⟨h1, h2, h3, h4, h5⟩ := h
  exact ⟨(ho.cell _ _ hF).trans h1, (ho.cell _ _ hF).trans h2, (ho.frozen _ _ hF).trans h3, (ho.frozen _ _ hF).trans h4, by rw [ho.size]; exact h5⟩
theorem Cells2.below {F : Nat} {n d : Int} {w w' : World} (h : Cells2 F n d w) (ho : Below w.heap.size w w') : Cells2 F n d w' := by
  obtain ⟨h1, h2, h3, h4, h5⟩ := h
  exact ⟨(ho.cell (p := ⟨F, 0, none⟩) h5).trans h1, (ho.cell (p := ⟨F, 1, none⟩) h5).trans h2, (ho.frozen (p := ⟨F, 0, none⟩) h5).trans h3, (ho.frozen (p := ⟨F, 1, none⟩) h5).trans h4, Nat.lt_of_lt_of_le h5 ho.size⟩
theorem Cells2.alloc {F : Nat} {n d : Int} {w : World} (h : Cells2 F n d w) (o : Obj) : Cells2 F n d (w.alloc o) := h.below ((Below.refl _ _).alloc (Nat.le_refl _) _)
theorem Cells2.drewN {F : Nat} {n d : Int} {w : World} (h : Cells2 F n d w) (m : Nat) : Cells2 F n d (w.drewN m) := h.below (Stm.Below.drewN (Below.refl _ _) _)
theorem Cells2.new (w : World) (n d : Int) (t : TypeId) : Cells2 w.heap.size n d (w.alloc (.cells #[.int .i64 n, .int .i64 d] t)) := by
  refine ⟨?_, ?_, ?_, ?_, ?_⟩ <;> first | go_cell | simp
theorem Cells2.stored {F : Nat} {n d n' d' : Int} {w : World} (h : Cells2 F n d w) : Cells2 F n' d' ((w.setCell ⟨F, 0, none⟩ (.int .i64 n')).setCell ⟨F, 1, none⟩ (.int .i64 d')) := by
  obtain ⟨h1, h2, h3, h4, h5⟩ := h
  refine ⟨?_, ?_, ?_, ?_, ?_⟩ <;> first | go_cell | simpa using h5
theorem Cells2.setOther {F G o : Nat} {n d : Int} {w : World} (h : Cells2 F n d w) (hG : G ≠ F) (u : Value) : Cells2 F n d (w.setCell ⟨G, o, none⟩ u) := by
  obtain ⟨h1, h2, h3, h4, h5⟩ := h
  have e := Below.heap_setCell w ⟨G, o, none⟩ u F (fun e => hG e.symm)
  exact ⟨(World.cell?_of_block (a := ⟨F, 0, none⟩) e).trans h1, (World.cell?_of_block (a := ⟨F, 1, none⟩) e).trans h2, (World.frozen?_of_block (a := ⟨F, 0, none⟩) e).trans h3, (World.frozen?_of_block (a := ⟨F, 1, none⟩) e).trans h4, by simpa using h5⟩

theorem frac_quo (n g : Nat) (hg : 0 < g) (hn : n ≤ 1000000000) : (0 : Int) ≤ (n : Int) / (g : Int) ∧ (n : Int) / (g : Int) ≤ 1000000000 := by
  have h : n / g ≤ n := Nat.div_le_self _ _
  have e : (n : Int) / (g : Int) = ((n / g : Nat) : Int) := rfl
  rw [e]
  exact ⟨Int.natCast_nonneg _, by omega⟩

/-- Where the ways of Fraction meet: the fraction lies in block F. -/
def FJ (w : World) (B k F : Nat) (wx : World) : Prop :=
  ∃ n d : Int, -1 ≤ n ∧ n ≤ 1000000001 ∧ -1 ≤ d ∧ d ≤ 1000000001 ∧ Cells2 F n d wx ∧ Cells2 w.heap.size 0 0 wx ∧ Gr B w wx ∧ Strm wx B k

end Go.Proofs.YtjlbohbkhfhkpaaGreatDoor.Frac

/-
  THE CONTRACTS OF THE PROGRAM'S PACKAGE exact: divisor, Lowest, Compare.
-/
namespace Go.Proofs.YtjlbohbkhfhkpaaGreatDoor.Frac
open Go.ChangeShapes Go.WideShapes Go.ChangeAt Go.RowKit
set_option linter.unusedVariables false

set_option maxHeartbeats 1000000 in
theorem divisor_any (n d : Nat) (w : World) (hn : n ≤ 4611686018427387904) (hd : d ≤ 4611686018427387904) :
    Calls Tryz.prog 83 #[.int .i64 n, .int .i64 d] w fun e w' => e = .returned (.int .i64 (Nat.gcd n d)) ∧ ∃ m, w' = w.drewN m := by
  go_enter Tryz.func83, Tryz.ntmps83
  go_wp2
  go_loopw [0, 1] (fun a b wr => ∃ x y m : Nat, a = .int .i64 x ∧ b = .int .i64 y ∧ Hid (wr = w.drewN m) ∧ Hid (Nat.gcd x y = Nat.gcd n d) ∧ x ≤ 4611686018427387904 ∧ y ≤ 4611686018427387904) (fun _ b _ => (intOf b).toNat)
  case atStart => exact ⟨n, d, 0, rfl, rfl, Lib.hid rfl, Lib.hid rfl, hn, hd⟩
  case round =>
    obtain ⟨x, y, m, rfl, rfl, HW, HG, hx, hy⟩ := hrel
    obtain rfl := HW.out
    by_cases hy0 : y = 0
    · subst hy0
      have HE : Hid (x = Nat.gcd n d) := Lib.hid (by have := HG.out; rwa [Nat.gcd_zero_right] at this)
      go_wp2
      go_ret
      exact ⟨by rw [HE.out]; rfl, m, rfl⟩
    · have hyp : (1 : Int) ≤ y := by omega
      have hyb : ((y : Int) == 0) = false := by simp; omega
      have hyd : decide ((y : Int) > 0) = true := by simp; omega
      have hm1 : x % y < y := Nat.mod_lt _ (by omega)
      have HG2 : Hid (Nat.gcd y (x % y) = Nat.gcd n d) := Lib.hid (by rw [gcd_step x y hy0]; exact HG.out)
      go_wp2
      go_quiet (fail)
      go_wp2
      go_roundw
      case rel => exact ⟨y, x % y, _, rfl, by go_num, Lib.hid (by rw [World.drewN_drewN]), HG2, hy, by omega⟩
      case measure => simp [intOf]; omega

set_option maxHeartbeats 1000000 in
theorem low_any (n d : Nat) (w : World) (hn : n ≤ 4611686018427387904) (hd : 1 ≤ d) (hd2 : d ≤ 4611686018427387904) :
    Calls Tryz.prog 64 #[.int .i64 n, .int .i64 d] w fun e w' => e = .returned (.agg #[.int .i64 ((n / Nat.gcd n d : Nat) : Int), .int .i64 ((d / Nat.gcd n d : Nat) : Int)]) ∧ Below w.heap.size w w' := by
  have hg0 : 0 < Nat.gcd n d := Nat.gcd_pos_of_pos_right n hd
  have hgp : (1 : Int) ≤ (Nat.gcd n d : Int) := by omega
  have hgz : ((Nat.gcd n d : Int) == 0) = false := by simp; omega
  go_enter Tryz.func64, Tryz.ntmps64
  go_wp2_with fail
  refine (divisor_any n d _ hn hd2).mono ?_
  rintro e w1 ⟨rfl, m, rfl⟩
  go_wp2_with fail
  go_region
  go_wp2
  go_returns
  refine ⟨part_end n d _ hg0 (by omega) (by omega), ?_⟩
  repeat' (first | (with_reducible exact Below.refl _ _) | (with_reducible refine Below.setCell ?_ ?_ _) | (with_reducible refine Stm.Below.drewN ?_ _) | (with_reducible refine Below.drew ?_) | (with_reducible refine Below.alloc ?_ ?_ _) | go_size)

theorem low_as (n d p q : Nat) (w : World) (hn : n ≤ 4611686018427387904) (hd : 1 ≤ d) (hd2 : d ≤ 4611686018427387904) (hp : Hid (n / Nat.gcd n d = p)) (hq : Hid (d / Nat.gcd n d = q)) :
    Calls Tryz.prog 64 #[.int .i64 n, .int .i64 d] w fun e w' => e = .returned (.agg #[.int .i64 p, .int .i64 q]) ∧ Below w.heap.size w w' := by
  rw [← hp.out, ← hq.out]; exact low_any n d w hn hd hd2

end Go.Proofs.YtjlbohbkhfhkpaaGreatDoor.Frac
