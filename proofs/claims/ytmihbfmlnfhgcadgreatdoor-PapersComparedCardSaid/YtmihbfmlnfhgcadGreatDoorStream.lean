/-
  THE CONTRACTS OF THE STREAM OF DRAWN NUMBERS (package committeemake): Below, Next, Range, Flip, Pick: whatever the numbers are, each returns a number of its range, and writes the stream's own counter alone.
-/
import Derived.Test.YtmihbfmlnfhgcadGreatDoorProg
import Derived.WalkKit
import Derived.ProofKit
import Derived.OpenShut
import Derived.ChangeOld
import Derived.Below
import Derived.OneCell
import Derived.Lib.Hide
import Derived.Deep.QuietTactic
import Derived.BigQuiet
namespace Go.Proofs.YtmihbfmlnfhgcadGreatDoor.Stm
open Go.ChangeShapes Go.WideShapes Go.ChangeAt Go.RowKit
set_option linter.unusedVariables false

theorem ret_int {k : IntKind} {a b : Int} (h : a = b) : Ending.returned (.int k a) = .returned (.int k b) := by rw [h]

/-- The remainder that is never below 0. -/
def below (x n : Int) : Int := if n < 1 then 0 else if x.tmod n < 0 then x.tmod n + n else x.tmod n

theorem tmod_bd (x n : Int) (h : 1 ≤ n) : -n < x.tmod n ∧ x.tmod n < n := by
  have h1 := Int.tmod_lt_of_pos x (show 0 < n by omega)
  have h2 := Int.tmod_lt_of_pos (-x) (show 0 < n by omega)
  rw [Int.neg_tmod] at h2
  omega

theorem below_bd (x n : Int) (h : 1 ≤ n) : 0 ≤ below x n ∧ below x n < n := by
  have := tmod_bd x n h
  unfold below
  rw [if_neg (by omega)]
  split <;> omega

set_option maxHeartbeats 400000 in
/-- Below: the remainder. -/
theorem below_any (x n : Int) (w : World) (hn : 1 ≤ n) (hn2 : n ≤ 1099511627776) (hx : -9223372036854775808 ≤ x) (hx2 : x ≤ 9223372036854775807) :
    Calls Tryz.prog 38 #[.int .i64 x, .int .i64 n] w fun e w' => e = .returned (.int .i64 (below x n)) ∧ w' = w := by
  have hb := tmod_bd x n hn
  have hlt : decide (n < 1) = false := by simp; omega
  have e1 : IntKind.i64.wrap (x.tmod n) = x.tmod n := IntWalk.i64_in _ (by omega)
  have hnz : ¬ n < 1 := by omega
  by_cases h : x.tmod n < 0
  · have hr : below x n = x.tmod n + n := by unfold below; rw [if_neg hnz, if_pos h]
    have HR := Lib.hid hr; clear hr
    go_enter Tryz.func38, Tryz.ntmps38
    go_wp2
    go_ret
    exact ⟨ret_int HR.out.symm, rfl⟩
  · have hr : below x n = x.tmod n := by unfold below; rw [if_neg hnz, if_neg h]
    have HR := Lib.hid hr; clear hr
    go_enter Tryz.func38, Tryz.ntmps38
    go_wp2
    go_ret
    exact ⟨ret_int HR.out.symm, rfl⟩

/-- The world but for block B: every other block is as it was, and none is new. -/
structure Only (B : Nat) (w w' : World) : Prop where
  os : w'.os = w.os
  tape : w'.tape = w.tape
  output : w'.output = w.output
  size : w'.heap.size = w.heap.size
  block : ∀ k, k ≠ B → w'.heap[k]? = w.heap[k]?

theorem Only.refl (B : Nat) (w : World) : Only B w w := ⟨rfl, rfl, rfl, rfl, fun _ _ => rfl⟩
theorem Only.trans {B : Nat} {a b c : World} (h : Only B a b) (k : Only B b c) : Only B a c :=
  ⟨k.os.trans h.os, k.tape.trans h.tape, k.output.trans h.output, k.size.trans h.size, fun i hi => (k.block i hi).trans (h.block i hi)⟩
theorem Only.setCell {B : Nat} {a w : World} (h : Only B a w) (o : Nat) (s : Option Nat) (u : Value) : Only B a (w.setCell ⟨B, o, none⟩ u) :=
  h.trans ⟨rfl, rfl, rfl, by simp [World.setCell], fun k hk => Below.heap_setCell _ _ _ _ hk⟩
theorem Only.drewN {B : Nat} {a w : World} (h : Only B a w) (n : Nat) : Only B a (w.drewN n) := ⟨h.os, h.tape, h.output, h.size, h.block⟩
theorem Only.cell {B : Nat} {w w' : World} (h : Only B w w') : ∀ b o, b ≠ B → w'.cell? ⟨b, o, none⟩ = w.cell? ⟨b, o, none⟩ :=
  fun b o hb => World.cell?_of_block (w := w) (h.block b hb)
theorem Only.frozen {B : Nat} {w w' : World} (h : Only B w w') : ∀ b o, b ≠ B → w'.frozen? ⟨b, o, none⟩ = w.frozen? ⟨b, o, none⟩ :=
  fun b o hb => World.frozen?_of_block (w := w) (h.block b hb)
theorem Only.below {B : Nat} {w w' : World} (h : Only B w w') {C : Nat} (hC : C ≤ B) : Below C w w' :=
  ⟨h.os, h.tape, h.output, by rw [h.size]; exact Nat.le_refl _, fun k hk => h.block k (by omega)⟩

/-- A stream at block B: its numbers can be read, and its counter is at most k. -/
def Strm (w : World) (B k : Nat) : Prop :=
  ∃ (a : Option Addr) (len cap : Nat) (c : Nat), w.heap[B]? = some (.cells #[.slice a len cap, .int .i64 c] 25 (0, 0)) ∧ c ≤ k ∧
    (len = 0 ∨ ∃ b o, a = some ⟨b, o, none⟩ ∧ b < B ∧ 0 < len ∧ len ≤ cap ∧ len ≤ 9223372036854775807 ∧ ∀ i, i < len → ∃ z : Int, w.cell? ⟨b, o + i, none⟩ = some (.int .i64 z) ∧ -9223372036854775808 ≤ z ∧ z ≤ 9223372036854775807)

theorem Strm.mono {w : World} {B k k' : Nat} (h : Strm w B k) (hk : k ≤ k') : Strm w B k' := by
  obtain ⟨a, len, cap, c, h1, h2, h3⟩ := h
  exact ⟨a, len, cap, c, h1, by omega, h3⟩

/-- A stream stays one while other blocks are made or written, if those of its numbers stay. -/
theorem Strm.lt {w : World} {B k : Nat} (h : Strm w B k) : B < w.heap.size := by
  obtain ⟨a, len, cap, c, h1, h2, h3⟩ := h
  exact lt_of_block h1

theorem Below.drewN {B : Nat} {a w : World} (h : Below B a w) (n : Nat) : Below B a (w.drewN n) := ⟨h.os, h.tape, h.output, h.size, h.block⟩

/-- A stream stays one while the blocks behind its own are made or written. -/
theorem Strm.keep {w w' : World} {B k : Nat} (h : Strm w B k) (hb : Below (B + 1) w w') : Strm w' B k := by
  obtain ⟨a, len, cap, c, h1, h2, h3⟩ := h
  refine ⟨a, len, cap, c, by rw [hb.block B (by omega)]; exact h1, h2, ?_⟩
  rcases h3 with h3 | ⟨b, o, ha, hbB, hl, hl1, hl2, hz⟩
  · exact Or.inl h3
  · refine Or.inr ⟨b, o, ha, hbB, hl, hl1, hl2, fun i hi => ?_⟩
    obtain ⟨z, g0, g1⟩ := hz i hi
    exact ⟨z, (hb.cell (p := ⟨b, o + i, none⟩) (Nat.lt_succ_of_lt hbB)).trans g0, g1⟩

/-- The world but for block B, and for what is new. -/
abbrev Gr (B : Nat) (w w' : World) : Prop := w.grownBy w' (some B)
theorem Gr.refl (B : Nat) (w : World) : Gr B w w := ⟨rfl, rfl, rfl, Nat.le_refl _, fun _ _ _ => rfl⟩
theorem Gr.trans {B : Nat} {a b c : World} (h : Gr B a b) (k : Gr B b c) : Gr B a c :=
  ⟨k.os.trans h.os, k.tape.trans h.tape, k.output.trans h.output, Nat.le_trans h.size k.size, fun i hi hne => (k.block i (Nat.lt_of_lt_of_le hi h.size) hne).trans (h.block i hi hne)⟩
theorem Gr.only {B : Nat} {w w' : World} (h : Only B w w') : Gr B w w' := ⟨h.os, h.tape, h.output, Nat.le_of_eq h.size.symm, fun k _ hne => h.block k (fun e => hne (by rw [e]))⟩
theorem Gr.below {B : Nat} {w w' : World} (h : Below w.heap.size w w') : Gr B w w' := ⟨h.os, h.tape, h.output, h.size, fun k hk _ => h.block k hk⟩
theorem Gr.alloc {B : Nat} {a w : World} (h : Gr B a w) (o : Obj) : Gr B a (w.alloc o) := h.trans (World.grownBy_alloc w o _)
theorem Gr.drew {B : Nat} {a w : World} (h : Gr B a w) : Gr B a w.drew := h.trans ⟨rfl, rfl, rfl, Nat.le_refl _, fun _ _ _ => rfl⟩
theorem Gr.drewN {B : Nat} {a w : World} (h : Gr B a w) (n : Nat) : Gr B a (w.drewN n) := h.trans ⟨rfl, rfl, rfl, Nat.le_refl _, fun _ _ _ => rfl⟩
theorem Gr.setCell {B : Nat} {a w : World} (h : Gr B a w) {p : Addr} (hp : a.heap.size ≤ p.block) (u : Value) : Gr B a (w.setCell p u) :=
  ⟨h.os, h.tape, h.output, by simpa [World.setCell] using h.size, fun k hk hne => (Below.heap_setCell _ _ _ _ (by omega)).trans (h.block k hk hne)⟩
theorem Gr.cell {B : Nat} {w w' : World} (h : Gr B w w') (b o : Nat) (hb : b < w.heap.size) (hne : b ≠ B) : w'.cell? ⟨b, o, none⟩ = w.cell? ⟨b, o, none⟩ :=
  World.cell?_of_block (w := w) (h.block b hb (by simpa using hne))
theorem Gr.frozen {B : Nat} {w w' : World} (h : Gr B w w') (b o : Nat) (hb : b < w.heap.size) (hne : b ≠ B) : w'.frozen? ⟨b, o, none⟩ = w.frozen? ⟨b, o, none⟩ :=
  World.frozen?_of_block (w := w) (h.block b hb (by simpa using hne))
theorem Gr.toBelow {B C : Nat} {w w' : World} (h : Gr B w w') (h1 : C ≤ B) (h2 : C ≤ w.heap.size) : Below C w w' :=
  ⟨h.os, h.tape, h.output, h.size, fun k hk => h.block k (by omega) (by simp; omega)⟩

theorem strm_cells {w : World} {B : Nat} {u v : Value} {t : TypeId} (h : w.heap[B]? = some (.cells #[u, v] t (0, 0))) :
    w.cell? ⟨B, 0, none⟩ = some u ∧ w.cell? ⟨B, 1, none⟩ = some v ∧ w.frozen? ⟨B, 1, none⟩ = false ∧ w.frozen? ⟨B, 0, none⟩ = false := by
  simp [World.cell?, World.frozen?, h]

theorem heap_setCell_two {w : World} {B : Nat} {u v x : Value} {t : TypeId} (h : w.heap[B]? = some (.cells #[u, v] t (0, 0))) :
    (w.setCell ⟨B, 1, none⟩ x).heap[B]? = some (.cells #[u, x] t (0, 0)) := by
  have hlt := lt_of_block h
  have h' : w.heap[B] = .cells #[u, v] t (0, 0) := by simpa [Array.getElem?_eq_getElem hlt] using h
  show (w.heap.modify B _)[B]? = _
  rw [Array.getElem?_eq_getElem (by simpa using hlt), Array.getElem_modify_self, h']
  rfl

set_option maxHeartbeats 1000000 in
theorem next_none (B : Nat) (a : Option Addr) (cap c : Nat) (n : Int) (w : World) (h : w.heap[B]? = some (.cells #[.slice a 0 cap, .int .i64 c] 25 (0, 0)))
    (hc : c ≤ 1099511627776) (hn : 1 ≤ n) (hn2 : n ≤ 1099511627776) :
    Calls Tryz.prog 18 #[.pointer (some ⟨B, 0, none⟩), .int .i64 n] w fun e w' =>
      ∃ r : Int, 0 ≤ r ∧ r < n ∧ e = .returned (.int .i64 r) ∧ w' = w.setCell ⟨B, 1, none⟩ (.int .i64 ((c : Int) + 1)) := by
  obtain ⟨h0, h1, h2, h3⟩ := strm_cells h
  go_enter Tryz.func18, Tryz.ntmps18
  go_wp2_with (go_at_call 38; refine (below_any _ _ _ (by omega) (by omega) (by omega) (by omega)).mono ?_; rintro e w' ⟨rfl, rfl⟩)
  go_ret
  have hb := below_bd (((c : Int) + 1) * 7919) n hn
  exact ⟨_, hb.1, hb.2, rfl, rfl⟩

theorem round_bd (c len : Nat) (hl : 0 < len) : (0 : Int) ≤ (c : Int) % len ∧ (c : Int) % len < len ∧ (c : Int) % len ≤ c ∧ 0 ≤ (c : Int) / len ∧ (c : Int) / len ≤ c ∧
    0 ≤ ((c : Int) / len) * (7919 + (c : Int) % len) ∧ ((c : Int) / len) * (7919 + (c : Int) % len) ≤ 7920 * c := by
  have h1 : (0 : Int) ≤ (c : Int) % len := Int.emod_nonneg _ (by omega)
  have h2 : (c : Int) % len < len := Int.emod_lt_of_pos _ (by omega)
  have h3 : (0 : Int) ≤ (c : Int) / len := Int.ediv_nonneg (by omega) (by omega)
  have h4 : (c : Int) / len ≤ c := Int.ediv_le_self _ (by omega)
  have h5 : ((c : Int) / len) * (7919 + (c : Int) % len) ≤ ((c : Int) / len) * (7919 + len) := Int.mul_le_mul_of_nonneg_left (by omega) h3
  have h6 : ((c : Int) / len) * (7919 + len) = ((c : Int) / len) * 7919 + ((c : Int) / len) * len := Int.mul_add _ _ _
  have h7 : ((c : Int) / len) * len ≤ c := Int.ediv_mul_le _ (by omega)
  have h8 : (c : Int) % len ≤ c := by have := Nat.mod_le c len; omega
  exact ⟨h1, h2, h8, h3, h4, Int.mul_nonneg h3 (by omega), by omega⟩

set_option maxHeartbeats 1000000 in
theorem next_some (B b o len cap c : Nat) (n : Int) (w : World) (h : w.heap[B]? = some (.cells #[.slice (some ⟨b, o, none⟩) len cap, .int .i64 c] 25 (0, 0)))
    (hb : b ≠ B) (hl : 0 < len) (hl2 : len ≤ 9223372036854775807)
    (z : Int) (hz : w.cell? ⟨b, o + c % len, none⟩ = some (.int .i64 z)) (hz1 : -9223372036854775808 ≤ z) (hz2 : z ≤ 9223372036854775807)
    (hc : c ≤ 1099511627776) (hn : 1 ≤ n) (hn2 : n ≤ 1099511627776) :
    Calls Tryz.prog 18 #[.pointer (some ⟨B, 0, none⟩), .int .i64 n] w fun e w' =>
      ∃ r : Int, 0 ≤ r ∧ r < n ∧ e = .returned (.int .i64 r) ∧ ∃ k, w' = (w.setCell ⟨B, 1, none⟩ (.int .i64 ((c : Int) + 1))).drewN k := by
  obtain ⟨h0, h1, h2, h3⟩ := strm_cells h
  have hlb : ((len : Int) == 0) = false := by simp; omega
  obtain ⟨q1, q2, q7, q3, q4, q5, q6⟩ := round_bd c len hl
  have b1 := below_bd z 1073741824 (by omega)
  have hw1 : wrap64 ((c : Int) / len) = (c : Int) / len := IntWalk.wrap64_in _ (by omega)
  go_enter Tryz.func18, Tryz.ntmps18
  go_wp2
  go_quiet (fail)
  go_wp2
  go_quiet (fail)
  go_wp2_with fail
  refine (below_any _ _ _ (by omega) (by omega) (by omega) (by omega)).mono ?_
  rintro e w' ⟨rfl, rfl⟩
  go_wp2_with fail
  refine (below_any _ _ _ (by omega) (by omega) (by omega) (by omega)).mono ?_
  rintro e w' ⟨rfl, rfl⟩
  go_wp2
  go_ret
  have hb := below_bd (below z 1073741824 + (c : Int) / len * (7919 + (c : Int) % len)) n hn
  exact ⟨_, hb.1, hb.2, rfl, _, rfl⟩

/-- Next: a number from 0 to n - 1; the stream goes on. -/
theorem next_any (B k : Nat) (n : Int) (w : World) (h : Strm w B k) (hk : k ≤ 1099511627776) (hn : 1 ≤ n) (hn2 : n ≤ 1099511627776) :
    Calls Tryz.prog 18 #[.pointer (some ⟨B, 0, none⟩), .int .i64 n] w fun e w' =>
      ∃ r : Int, 0 ≤ r ∧ r < n ∧ e = .returned (.int .i64 r) ∧ Only B w w' ∧ Strm w' B (k + 1) := by
  obtain ⟨a, len, cap, c, h1, h2, h3⟩ := h
  rcases h3 with rfl | ⟨b, o, rfl, hb, hl, hcap, hl2, hz⟩
  · refine (next_none B a cap c n w h1 (by omega) hn hn2).mono fun e w' ⟨r, r0, r1, he, hw⟩ => ?_
    subst hw
    exact ⟨r, r0, r1, he, (Only.refl _ _).setCell _ none _, a, 0, cap, c + 1, heap_setCell_two h1, by omega, Or.inl rfl⟩
  · obtain ⟨z, hz0, hz1, hz2⟩ := hz (c % len) (Nat.mod_lt _ hl)
    refine (next_some B b o len cap c n w h1 (Nat.ne_of_lt hb) hl hl2 z hz0 hz1 hz2 (by omega) hn hn2).mono fun e w' ⟨r, r0, r1, he, m, hw⟩ => ?_
    subst hw
    refine ⟨r, r0, r1, he, ((Only.refl _ _).setCell _ none _).drewN _, some ⟨b, o, none⟩, len, cap, c + 1, heap_setCell_two h1, by omega, Or.inr ⟨b, o, rfl, hb, hl, hcap, hl2, fun i hi => ?_⟩⟩
    obtain ⟨z', g0, g1⟩ := hz i hi
    exact ⟨z', (Only.cell ((Only.refl B w).setCell 1 none _) b (o + i) (Nat.ne_of_lt hb)).trans g0, g1⟩

set_option maxHeartbeats 400000 in
/-- Range: a number from low to high. -/
theorem range_any (B k : Nat) (lo hi : Int) (w : World) (h : Strm w B k) (hk : k ≤ 1099511627776) (h1 : lo ≤ hi) (h2 : -1099511627 ≤ lo) (h3 : hi ≤ 1099511627) :
    Calls Tryz.prog 16 #[.pointer (some ⟨B, 0, none⟩), .int .i64 lo, .int .i64 hi] w fun e w' =>
      ∃ r : Int, lo ≤ r ∧ r ≤ hi ∧ e = .returned (.int .i64 r) ∧ Only B w w' ∧ Strm w' B (k + 1) := by
  go_enter Tryz.func16, Tryz.ntmps16
  go_wp2_with (go_at_call 18; refine (next_any _ _ _ _ h hk (by omega) (by omega)).mono ?_; rintro e w' ⟨r, r0, r1, rfl, ho, hs⟩)
  go_ret
  exact ⟨lo + r, by omega, by omega, rfl, ho, hs⟩

set_option maxHeartbeats 400000 in
/-- Flip: yes or no. -/
theorem flip_any (B k : Nat) (n : Int) (w : World) (h : Strm w B k) (hk : k ≤ 1099511627776) (hn : 1 ≤ n) (hn2 : n ≤ 1099511627776) :
    Calls Tryz.prog 17 #[.pointer (some ⟨B, 0, none⟩), .int .i64 n] w fun e w' =>
      ∃ r : Bool, e = .returned (.bool r) ∧ Only B w w' ∧ Strm w' B (k + 1) := by
  go_enter Tryz.func17, Tryz.ntmps17
  go_wp2_with (go_at_call 18; refine (next_any _ _ _ _ h hk (by omega) (by omega)).mono ?_; rintro e w' ⟨r, r0, r1, rfl, ho, hs⟩)
  go_ret
  exact ⟨_, rfl, ho, hs⟩

theorem pick_cell {w : World} {b : Nat} {zs : List Int} {t : TypeId} {fz : Nat × Nat} (hb : w.heap[b]? = some (.cells (zs.map (Value.int .i64)).toArray t fz)) (i : Nat) (hi : i < zs.length) :
    w.cell? ⟨b, i, none⟩ = some (.int .i64 (zs.getD i 0)) := by
  simp [World.cell?, hb, List.getElem?_eq_getElem hi]

set_option maxHeartbeats 400000 in
/-- Pick: one of some numbers. -/
theorem pick_any (B k b cap : Nat) (zs : List Int) (t : TypeId) (fz : Nat × Nat) (w : World) (h : Strm w B k) (hk : k ≤ 1099511627776) (hbB : b ≠ B)
    (hb : w.heap[b]? = some (.cells (zs.map (Value.int .i64)).toArray t fz)) (h1 : 1 ≤ zs.length) (h2 : zs.length ≤ 1099511627) :
    Calls Tryz.prog 7 #[.pointer (some ⟨B, 0, none⟩), .slice (some ⟨b, 0, none⟩) zs.length cap] w fun e w' =>
      ∃ r : Int, r ∈ zs ∧ e = .returned (.int .i64 r) ∧ Only B w w' ∧ Strm w' B (k + 1) := by
  go_enter Tryz.func7, Tryz.ntmps7
  go_wp2_with fail
  refine (next_any _ _ _ _ h hk (by omega) (by omega)).mono ?_
  rintro e w' ⟨r, r0, r1, rfl, ho, hs⟩
  obtain ⟨m, rfl⟩ := Int.eq_ofNat_of_zero_le r0
  have hm : m < zs.length := by omega
  have hc : w'.cell? ⟨b, m, none⟩ = some (.int .i64 (zs.getD m 0)) := (ho.cell b m hbB).trans (pick_cell hb m hm)
  go_wp2
  go_ret
  exact ⟨zs[m], by simp, rfl, ho, hs⟩

end Go.Proofs.YtmihbfmlnfhgcadGreatDoor.Stm
