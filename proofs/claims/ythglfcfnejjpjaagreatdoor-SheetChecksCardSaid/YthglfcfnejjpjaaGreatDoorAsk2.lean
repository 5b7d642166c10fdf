/-
  THE STATEMENTS' OWN TEST: the program reads sheets: the closure, syntax.Read, review.ReadSheet; committeelaw2.asked is true.
-/
import Derived.Test.YthglfcfnejjpjaaGreatDoorAsked
import Derived.Test.YthglfcfnejjpjaaGreatDoorSheetGen
import Derived.Test.YthglfcfnejjpjaaGreatDoorSheetN
namespace Go.Proofs.YthglfcfnejjpjaaGreatDoor.Rev
open Go.ChangeShapes Go.WideShapes Go.ChangeAt Go.RowKit Stm Key
set_option linter.unusedVariables false

theorem gr_own {b : Nat} (w : World) (i : Nat) (u : Value) : Gr b w (w.setCell ⟨b, i, none⟩ u) :=
  ⟨rfl, rfl, rfl, by simp [World.setCell], fun k hk hne => Below.heap_setCell w ⟨b, i, none⟩ u k (fun e => hne (congrArg some e))⟩
theorem qa5_ok : qOk qA5 := ⟨Nat.le_of_ble_eq_true rfl, by unfold near qA5; decide, by unfold near qA5; decide, by decide⟩
/-- The row of one question, kept in the cell b. -/
def KeptA (b : Nat) (w W : World) : Prop := ∃ g cap : Nat, 1 ≤ cap ∧ W.cell? ⟨b, 0, none⟩ = some (.slice (some ⟨g, 0, none⟩) 1 cap) ∧ QL b W (some ⟨g, 0, none⟩) [qA5] ∧ Below b w W

set_option maxRecDepth 100000 in
set_option maxHeartbeats 8000000 in
theorem accept_a5 (b : Nat) (w : World) (hT : Tab2 w) (hg : gTop2 ≤ w.heap.size) (hb : Blk w b 26 #[.slice none 0 0]) :
    Calls Tryz.prog 55 #[.string sA5, .pointer (some ⟨b, 0, none⟩)] w fun e w' => e = .returned (.bool true) ∧ KeptA b w w' := by
  have HR := Lib.hid (readq_a5 w hT hg)
  have KB := Lib.hid hb
  have hz0' := hb.lt
  clear hT hg hb
  obtain ⟨i0, hi0, hz0, hz1, hz2⟩ := info_parts infoQ
  have HI := Lib.hid hi0
  have Z0 := Lib.hid hz0
  have Z1 := Lib.hid hz1
  have Z2 := Lib.hid hz2
  clear hi0 hz0 hz1 hz2
  go_enter Tryz.func55, Tryz.ntmps55
  go_wp2_with fail
  refine (HR.out).mono ?_; rintro e w1 ⟨rfl, hB⟩
  have B1 := Lib.hid (hB.mono (Nat.le_of_lt hz0'))
  have K1 := Lib.hid (KB.out.below hB KB.out.lt)
  have hz1' := K1.out.lt
  clear hB
  have K2 := Lib.hid (K1.out.alloc (.cells #[.string sA, .int .i64 1, .int .i64 5, .slice none 0 0, .bool false, .bool false] 45))
  have c2 := K2.out.cell 0 _ rfl
  go_wp2_with (at_builtin; (refine wpList_append_lies _ rfl _ _ _ rfl (b + 1) 45 i0 _ 6 64 Tryz.underlying26 HI.out Z0.out Z1.out Z2.out rfl (by omega) (.slice none 0 0) 0 [] rfl (World.ownsRow_nil _ _ _ _) ⟨w1.heap.size + 1, 0, none⟩ 1 1 [.string sA, .int .i64 1, .int .i64 5, .slice none 0 0, .bool false, .bool false] rfl rfl (World.news_of_block (cs := #[.string sA, .int .i64 1, .int .i64 5, .slice none 0 0, .bool false, .bool false]) (t := 45) (fr := (0, 0)) (by have h := heap_alloc_new (w1.alloc (.cells #[.string sA, .int .i64 1, .int .i64 5, .slice none 0 0, .bool false, .bool false] 45)) (.cells #[.string sA, .int .i64 1, .int .i64 5, .slice none 0 0, .bool false, .bool false] 45); simp only [World.size_alloc] at h; exact h)) (by simp [Value.oneCell']) (by omega) (by unfold maxLen; omega) (by omega) (by simp; omega) (w1.heap.size + 1 + 1) (by simp) ?_); intro gg cap' w7 hown hgrow hat hgl; (have O7 := Lib.hid hown); (have B7 := Lib.hid (((B1.out.alloc (Nat.le_of_lt hz1') _).alloc (by simp; omega) _).trans (grownB (C := b) hgrow (fun r e => by cases e) (by simp; omega)))); (have K7 := Lib.hid (show Blk w7 b _ _ from (hgrow.block b (by simp; omega) (by intro e; cases e)).trans (K2.out.alloc (.cells #[.string sA, .int .i64 1, .int .i64 5, .slice none 0 0, .bool false, .bool false] 45)))); (have k7 := K7.out.cell 0 _ rfl); (have f7 := K7.out.frozen 0); clear hown hgrow hat hgl)
  go_ret
  have hown := O7.out
  rw [List.nil_append, Nat.zero_add] at hown
  have hq : QL b w7 (some ⟨gg, 0, none⟩) ([(qA5, Value.slice none 0 0)].map (·.1)) := row_ql (L := [(qA5, .slice none 0 0)]) hown rfl (Nat.lt_succ_self b) (fun p hp => by
    obtain rfl := List.mem_singleton.1 hp; exact ⟨qa5_ok, ol_nil b w7⟩)
  exact ⟨rfl, gg, cap', own_cap hown, (K7.out.set_ 0 _).cell 0 _ rfl, hq.gr (gr_own w7 0 _), B7.out.setCell (p := ⟨b, 0, none⟩) (Nat.le_refl _) _⟩

theorem KeptA.of {b : Nat} {w w1 W : World} (h : KeptA b w1 W) (hb : Below b w w1) : KeptA b w W := by
  obtain ⟨g, cap, h1, h2, h3, h4⟩ := h; exact ⟨g, cap, h1, h2, h3, hb.trans h4⟩
set_option maxRecDepth 100000 in
set_option maxHeartbeats 8000000 in
theorem read_a5 (b : Nat) (w : World) (hT : Tab2 w) (hg : gTop2 ≤ w.heap.size) (hb : Blk w b 26 #[.slice none 0 0]) :
    Calls Tryz.prog 54 #[.string sA5N, .func (.func 55) #[] #[.pointer (some ⟨b, 0, none⟩)]] w fun e w' => e = .returned (.tuple #[.int .i64 0, .int .i64 0]) ∧ KeptA b w w' := by
  have HL := Lib.hid (lines_a5 w hT.1)
  have hB0 := (Below.refl w.heap.size w).alloc (Nat.le_refl _) (.cells #[.string sA5] 9)
  have hKa := Blk.new w 9 #[.string sA5]
  have HA := Lib.hid (accept_a5 b (w.alloc (.cells #[.string sA5] 9)) (hT.below (hB0.mono hg)) (Nat.le_trans hg hB0.size) (hb.alloc _))
  have hs : sA5N.size = 10 := rfl
  have hbl := hb.lt
  have c0 := hKa.cell 0 _ rfl
  have B0 := Lib.hid (hB0.mono (Nat.le_of_lt hbl))
  clear hT hg hb hB0 hKa
  generalize sA5N = t0 at *
  go_enter Tryz.func54, Tryz.ntmps54
  go_wp2_with fail
  refine (HL.out).mono ?_; rintro e w1 ⟨rfl, rfl⟩
  go_wp2_with fail
  go_loopw [21] (fun i wr => (i = .int .i64 0 ∧ Hid (wr = w.alloc (.cells #[.string sA5] 9))) ∨ (i = .int .i64 1 ∧ Hid (KeptA b w wr))) (fun i _ => 2 - (intOf i).toNat)
  case atStart => exact Or.inl ⟨rfl, Lib.hid rfl⟩
  case round =>
    rcases hrel with ⟨rfl, hw⟩ | ⟨rfl, hk⟩
    · obtain rfl := hw.out
      clear hw
      go_wp2_with fail
      refine (HA.out).mono ?_; rintro e w2 ⟨rfl, hk⟩
      have K2 := Lib.hid (hk.of B0.out)
      clear hk
      go_wp2_with fail
      go_roundw
      case rel => exact Or.inr ⟨by go_num, K2⟩
      case measure => simp [intOf]
    · go_wp2_with fail
      go_returns; exact ⟨rfl, hk.out⟩

set_option maxRecDepth 100000 in
set_option maxHeartbeats 8000000 in
theorem readsheet_a5 (w : World) (hT : Tab2 w) (hg : gTop2 ≤ w.heap.size) :
    Calls Tryz.prog 34 #[.string sA5N] w fun e w' => ∃ (A : Option Addr) (cap : Nat), e = .returned (.tuple #[.slice A 1 cap, .int .i64 0, .int .i64 0]) ∧ Below w.heap.size w w' := by
  have hB0 := (Below.refl w.heap.size w).alloc (Nat.le_refl _) (.cells #[.slice none 0 0] 26)
  have HR := Lib.hid (read_a5 w.heap.size (w.alloc (.cells #[.slice none 0 0] 26)) (hT.below (hB0.mono hg)) (Nat.le_trans hg hB0.size) (Blk.new w _ _))
  have HC := Lib.hid (fun (A : Option Addr) (cap : Nat) (W : World) (h1 : 1 ≤ cap) (hQ : QL w.heap.size W A [qA5]) => checksheet_walk w.heap.size A 1 cap [qA5] W rfl (by omega) h1 hQ 0 (Lib.hid (by decide +kernel)))
  have B0 := Lib.hid hB0
  clear hT hg hB0
  generalize sA5N = t0 at *
  go_enter Tryz.func34, Tryz.ntmps34
  go_wp2_with fail
  refine (HR.out).mono ?_; rintro e w1 ⟨rfl, g, cap, hcap, hc, hq, hb⟩
  have B1 := Lib.hid (B0.out.trans hb)
  have hlt : w.heap.size < w1.heap.size := Nat.lt_of_lt_of_le (by simp) hb.size
  have HC1 := Lib.hid (HC.out _ _ _ hcap hq)
  clear hq hb HC
  go_wp2_with fail
  refine (HC1.out).mono ?_; rintro e w2 ⟨rfl, hb⟩
  have c2 := (hb.cell (p := ⟨w.heap.size, 0, none⟩) hlt).trans hc
  have B2 := Lib.hid (B1.out.trans (hb.mono (Nat.le_of_lt hlt)))
  clear hb hc
  go_wp2_with fail
  go_returns
  exact ⟨_, cap, rfl, B2.out⟩

set_option maxRecDepth 100000 in
theorem asked_true (w : World) (hT : Tab2 w) (hg : gTop2 ≤ w.heap.size) :
    Calls Tryz.prog 14 #[] w fun e w' => e = .returned (.bool true) ∧ Below w.heap.size w w' := by
  have HR := Lib.hid (readsheet_a5 w hT hg)
  unfold sA5N at HR
  clear hT hg
  go_enter Tryz.func14, Tryz.ntmps14
  go_wp2_with fail
  refine (HR.out).mono ?_; rintro e w1 ⟨A, cap, rfl, hb⟩
  have B1 := Lib.hid hb
  clear hb
  go_wp2_with fail
  go_ret
  exact ⟨rfl, B1.out⟩
end Go.Proofs.YthglfcfnejjpjaaGreatDoor.Rev
