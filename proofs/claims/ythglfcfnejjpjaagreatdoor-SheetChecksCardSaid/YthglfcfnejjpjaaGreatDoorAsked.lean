/-
  THE STATEMENTS' OWN TEST: the program reads sheets: review.ReadSheet of "score a 5\n" is one question, and no error.
-/
import Derived.Test.YthglfcfnejjpjaaGreatDoorSheetS
import Derived.Test.YthglfcfnejjpjaaGreatDoorSheetA
import Derived.Shelf.Strings.Split
import Derived.Shelf.Small.Wraps
import Derived.Shelf.Strconv.Atoi
import Derived.Lib.AtoiErrMem
import Derived.RegionTactic
namespace Go.Proofs.YthglfcfnejjpjaaGreatDoor.Rev
open Go.ChangeShapes Go.WideShapes Go.ChangeAt Go.RowKit Stm Key
set_option linter.unusedVariables false

def sA5N : ByteArray := ⟨#[115, 99, 111, 114, 101, 32, 97, 32, 53, 10]⟩
def sA5 : ByteArray := ⟨#[115, 99, 111, 114, 101, 32, 97, 32, 53]⟩
def sScore : ByteArray := ⟨#[115, 99, 111, 114, 101]⟩
def sA : ByteArray := ⟨#[97]⟩
def s5 : ByteArray := ⟨#[53]⟩
/-- The words of the kinds of questions, as they lie. -/
def KW (w : World) : Prop := w.cell? ⟨2, 0, none⟩ = some (.string ⟨#[]⟩) ∧ w.cell? ⟨2, 1, none⟩ = some (.string sScore) ∧
  w.cell? ⟨2, 2, none⟩ = some (.string ⟨#[99, 104, 111, 105, 99, 101]⟩) ∧ w.cell? ⟨2, 3, none⟩ = some (.string ⟨#[119, 111, 114, 100, 115]⟩)
def gTop2 : Nat := max gTop (2 + 1)
def Tab2 (w : World) : Prop := Tabs w ∧ KW w
theorem Tab2.below {w w' : World} (h : Tab2 w) (hb : Below gTop2 w w') : Tab2 w' := by
  obtain ⟨h1, k0, k1, k2, k3⟩ := h
  have hk : 2 < gTop2 := by unfold gTop2; omega
  refine ⟨h1.below (hb.mono (by unfold gTop2; omega)), ?_, ?_, ?_, ?_⟩
  · exact (hb.cell (p := ⟨_, 0, none⟩) hk).trans k0
  · exact (hb.cell (p := ⟨_, 1, none⟩) hk).trans k1
  · exact (hb.cell (p := ⟨_, 2, none⟩) hk).trans k2
  · exact (hb.cell (p := ⟨_, 3, none⟩) hk).trans k3

theorem line_cut : (⟨(Lib.trimSuffix sA5N.data.toList [10]).toArray⟩ : ByteArray) = sA5 := by rfl
theorem line_suffix : Lib.hasSuffix sA5N.data.toList [10] = true := by decide +kernel
theorem line_count : Lib.countB sA5 ⟨#[10]⟩ = 0 := by decide +kernel
theorem line_split : (Lib.splitB ⟨#[10]⟩ 0 (Lib.countB sA5 ⟨#[10]⟩) sA5).map Value.string = [.string sA5] := by rw [line_count]; rfl
theorem word_count : Lib.countB sA5 ⟨#[32]⟩ = 2 := by decide +kernel
theorem word_split : (Lib.splitB ⟨#[32]⟩ 0 (Lib.countB sA5 ⟨#[32]⟩) sA5).map Value.string = [.string sScore, .string sA, .string s5] := by rw [word_count]; rfl
theorem five_trim : (⟨(Lib.trimPrefix s5.data.toList [45]).toArray⟩ : ByteArray) = s5 := by rfl
theorem five_atoi : Lib.atoi s5.data.toList = some 5 := by decide +kernel

theorem split_line (w : World) (hT : Tabs w) : Calls Tryz.prog 65 #[.string sA5, .string ⟨#[10]⟩] w fun e w' =>
    e = .returned (.slice (some ⟨w.heap.size, 0, none⟩) 1 1) ∧ w' = w.alloc (.cells #[.string sA5] 9) := by
  obtain ⟨m, hm⟩ := hT.2
  have h := Any.strings_Split Tryz.lays146 (by kernel_rfl) sA5 ⟨#[10]⟩ m w (by decide) hm (by decide)
  rw [line_split, line_count] at h
  exact h
theorem split_words (w : World) (hT : Tabs w) : Calls Tryz.prog 65 #[.string sA5, .string ⟨#[32]⟩] w fun e w' =>
    e = .returned (.slice (some ⟨w.heap.size, 0, none⟩) 3 3) ∧ w' = w.alloc (.cells #[.string sScore, .string sA, .string s5] 9) := by
  obtain ⟨m, hm⟩ := hT.2
  have h := Any.strings_Split Tryz.lays146 (by kernel_rfl) sA5 ⟨#[32]⟩ m w (by decide) hm (by decide)
  rw [word_split, word_count] at h
  exact h

set_option maxRecDepth 100000 in
set_option maxHeartbeats 1000000 in
theorem lines_a5 (w : World) (hT : Tabs w) : Calls Tryz.prog 64 #[.string sA5N] w fun e w' =>
    e = .returned (.tuple #[.slice (some ⟨w.heap.size, 0, none⟩) 1 1, .bool true]) ∧ w' = w.alloc (.cells #[.string sA5] 9) := by
  have h1 : Calls Tryz.prog 79 #[.string sA5N, .string ⟨#[10]⟩] w fun e w' => e = .returned (.tuple #[.string sA5, .bool true]) ∧ w' = w := by
    have h := Any.strings_CutSuffix Tryz.lays104 sA5N ⟨#[10]⟩ w (by decide)
    rw [show (⟨#[10]⟩ : ByteArray).data.toList = [10] from rfl, line_cut, line_suffix] at h
    exact h
  have H1 := Lib.hid h1
  have H2 := Lib.hid (split_line w hT)
  have he : sA5N.toList.isEmpty = false := by rw [Lib.toList_data]; rfl
  clear h1 hT
  generalize sA5N = s0 at *
  generalize sA5 = r0 at *
  go_enter Tryz.func64, Tryz.ntmps64
  go_wp2_with fail
  refine (H1.out).mono ?_; rintro e w1 ⟨rfl, rfl⟩
  go_wp2_with fail
  refine (H2.out).mono ?_; rintro e w2 ⟨rfl, rfl⟩
  go_wp2_with fail
  go_returns
  exact ⟨rfl, rfl⟩

theorem index_kw (a b c d : ByteArray) (W : World) : (Instr.index 116 (.agg #[.string a, .string b, .string c, .string d]) (.int .i64 0)).run Tryz.prog W = .ok (.string a) W ∧ (Instr.index 116 (.agg #[.string a, .string b, .string c, .string d]) (.int .i64 1)).run Tryz.prog W = .ok (.string b) W := ⟨by kernel_rfl, by kernel_rfl⟩
set_option maxRecDepth 100000 in
set_option maxHeartbeats 2000000 in
theorem kindof_score (w : World) (hK : KW w) : Calls Tryz.prog 67 #[.string sScore] w fun e w' => e = .returned (.int .i64 1) ∧ w' = w := by
  obtain ⟨k0, k1, k2, k3⟩ := hK
  have h0 : ¬ ([] : List UInt8) = sScore.toList := by rw [Lib.toList_data]; decide
  have h0b : ¬ sScore.toList = [] := by rw [Lib.toList_data]; decide
  have h0c : sScore.toList.isEmpty = false := by rw [Lib.toList_data]; decide
  have h0d : (([] : List UInt8) == sScore.toList) = false := by rw [Lib.toList_data]; decide
  have h0e : ((⟨#[]⟩ : ByteArray).toList == sScore.toList) = false := by rw [Lib.toList_data, Lib.toList_data]; decide
  generalize sScore = s at *
  have i0 := fun W => (index_kw ⟨#[]⟩ s ⟨#[99, 104, 111, 105, 99, 101]⟩ ⟨#[119, 111, 114, 100, 115]⟩ W).1
  have i1 := fun W => (index_kw ⟨#[]⟩ s ⟨#[99, 104, 111, 105, 99, 101]⟩ ⟨#[119, 111, 114, 100, 115]⟩ W).2
  go_enter Tryz.func67, Tryz.ntmps67
  go_wp2_with fail
  clear k0 k1 k2 k3
  go_loop [6] (fun i => ∃ j : Nat, j ≤ 1 ∧ i = .int .i64 j) (fun i => 2 - (intOf i).toNat)
  case atStart => exact ⟨0, by omega, rfl⟩
  case round =>
    obtain ⟨j, hj, rfl⟩ := hrel
    rcases (by omega : j = 0 ∨ j = 1) with rfl | rfl
    · go_wp2_with fail
      go_round
      case rel => exact ⟨1, by omega, by go_num⟩
      case measure => simp [intOf]
    · go_wp2_with fail
      go_ret; exact ⟨rfl, rfl⟩

set_option maxRecDepth 100000 in
set_option maxHeartbeats 2000000 in
theorem number_5 (w : World) : Calls Tryz.prog 68 #[.string s5, .int .i64 9] w fun e w' => e = .returned (.tuple #[.int .i64 5, .bool true]) ∧ Below w.heap.size w w' := by
  have H1 : Hid (Calls Tryz.prog 81 #[.string s5, .string ⟨#[45]⟩] w fun e w' => e = .returned (.string s5) ∧ w' = w) := Lib.hid (by
    have h := Any.strings_TrimPrefix Tryz.lays101 s5 ⟨#[45]⟩ w
    rw [show (⟨#[45]⟩ : ByteArray).data.toList = [45] from rfl, five_trim] at h
    exact h)
  have H2 : Hid (Calls Tryz.prog 82 #[.string s5] w fun e w' => e = .returned (.tuple #[.int .i64 5, .nilIface]) ∧ Below w.heap.size w w') := Lib.hid (by
    refine (Any.strconv_Atoi Tryz.lays172 s5 5 (by decide) five_atoi w).mono ?_
    rintro e w' ⟨he, t, rfl⟩
    exact ⟨he, Lib.bytesWorld_below _ _ _⟩)
  have hs : s5.size = 1 := rfl
  have hb : ((s5[0]'(by decide)).toNat : Int) = 53 := by decide
  have hb0 : (((s5[0]'(by decide)).toNat : Int) == 48) = false := by decide
  go_enter Tryz.func68, Tryz.ntmps68
  go_wp2_with fail
  refine (H1.out).mono ?_; rintro e w1 ⟨rfl, rfl⟩
  go_wp2_with fail
  go_loop [31] (fun i => ∃ j : Nat, j ≤ 1 ∧ i = .int .i64 j) (fun i => 2 - (intOf i).toNat)
  case atStart => exact ⟨0, by omega, rfl⟩
  case round =>
    obtain ⟨j, hj, rfl⟩ := hrel
    rcases (by omega : j = 0 ∨ j = 1) with rfl | rfl
    · go_wp2_with fail
      refine (digit_any 53 _ (by omega) (by omega)).mono ?_; rintro e w2 ⟨rfl, rfl⟩
      rw [show digitI 53 = true from rfl]
      go_wp2_with fail
      go_round
      case rel => exact ⟨1, by omega, by go_num⟩
      case measure => simp [intOf]
    · go_wp2_with fail
      refine (H2.out).mono ?_; rintro e w2 ⟨rfl, hB⟩
      have HB := Lib.hid hB
      clear hB
      go_wp2_with fail
      go_quiet (fail)
      go_wp2_with fail
      go_returns
      exact ⟨rfl, Stm.Below.drewN HB.out _⟩

/-- The words of the line, in memory. -/
def wordsOK (w : World) (g : Nat) : Prop := SL w (some ⟨g, 0, none⟩) [sScore, sA, s5]
theorem words_no (s : ByteArray) (hs : s = ⟨#[]⟩ ∨ s = ⟨#[110, 101, 101, 100, 101, 100]⟩ ∨ s = ⟨#[115, 101, 99, 114, 101, 116]⟩) : eqS sScore s = false ∧ hasO [sScore, sA, s5] s = false := by
  rcases hs with rfl | rfl | rfl <;> constructor <;> decide +kernel

set_option maxRecDepth 100000 in
set_option maxHeartbeats 2000000 in
theorem cutword_no (g : Nat) (x : ByteArray) (w : World) (hw : w.cell? ⟨g, 0, none⟩ = some (.string sScore)) (hx : eqS sScore x = false) :
    Calls Tryz.prog 66 #[.slice (some ⟨g, 0, none⟩) 3 3, .string x] w fun e w' => e = .returned (.tuple #[.bool false, .slice (some ⟨g, 0, none⟩) 3 3]) ∧ w' = w := by
  unfold eqS at hx
  have hx2 : ¬ sScore.toList = x.toList := by rw [beq_eq_false_iff_ne] at hx; exact hx
  generalize sScore = s at *
  go_enter Tryz.func66, Tryz.ntmps66
  go_wp2_with fail
  go_returns
  exact ⟨rfl, rfl⟩

theorem blk_num {W w6 : World} {g : Nat} {t : TypeId} {cs : Array Value} (h : Blk W g t cs) (hB : Below W.drew.heap.size W.drew w6) : Blk w6 g t cs := (hB.block g h.lt).trans h
theorem blk_six {W : World} {g : Nat} {ty : TypeId} {a b c d e f : Value} (h : Blk W g ty #[a, b, c, d, e, f]) : W.cell? ⟨g, 0, none⟩ = some a ∧ W.cell? ⟨g, 1, none⟩ = some b ∧ W.cell? ⟨g, 2, none⟩ = some c ∧ W.cell? ⟨g, 3, none⟩ = some d ∧ W.cell? ⟨g, 4, none⟩ = some e ∧ W.cell? ⟨g, 5, none⟩ = some f :=
  ⟨h.cell 0 _ rfl, h.cell 1 _ rfl, h.cell 2 _ rfl, h.cell 3 _ rfl, h.cell 4 _ rfl, h.cell 5 _ rfl⟩
/-- The question of the line. -/
def qA5 : Qs := ⟨sA, 1, 5, [], false, false⟩
set_option maxRecDepth 100000 in
set_option maxHeartbeats 8000000 in
theorem readq_a5 (w : World) (hT : Tab2 w) (hg : gTop2 ≤ w.heap.size) : Calls Tryz.prog 56 #[.string sA5] w fun e w' =>
    e = .returned (.tuple #[.agg #[.string sA, .int .i64 1, .int .i64 5, .slice none 0 0, .bool false, .bool false], .bool true]) ∧ Below w.heap.size w w' := by
  have B0 := Lib.hid ((Below.refl w.heap.size w).alloc (Nat.le_refl _) (.cells #[.string ⟨#[]⟩, .int .i64 0, .int .i64 0, .slice none 0 0, .bool false, .bool false] 45))
  have KR := Lib.hid (Blk.new w 45 #[.string ⟨#[]⟩, .int .i64 0, .int .i64 0, .slice none 0 0, .bool false, .bool false])
  have HS := Lib.hid (split_words (w.alloc (.cells #[.string ⟨#[]⟩, .int .i64 0, .int .i64 0, .slice none 0 0, .bool false, .bool false] 45)) (hT.below (B0.out.mono hg)).1)
  have HTW := Lib.hid (fun (W : World) (hW : Below w.heap.size w W) => hT.below (hW.mono hg))
  have HHAS := Lib.hid (fun (s : ByteArray) (g : Nat) (W : World) (hs : s = ⟨#[]⟩ ∨ s = ⟨#[110, 101, 101, 100, 101, 100]⟩ ∨ s = ⟨#[115, 101, 99, 114, 101, 116]⟩) (h : Blk W g 9 #[.string sScore, .string sA, .string s5]) => show Calls Tryz.prog 30 #[.slice (some ⟨g, 0, none⟩) 3 3, .string s] W (fun e w' => e = .returned (.bool false) ∧ w' = W) from by
    have hsl : SL W (some ⟨g, 0, none⟩) [sScore, sA, s5] := blk_sl h (fun x hx => by
      simp only [List.mem_cons, List.mem_nil_iff, or_false] at hx
      rcases hx with rfl | rfl | rfl <;> exact Nat.le_of_ble_eq_true rfl) (fun i hi => by
      have hi3 : i < 3 := hi
      rcases (by omega : i = 0 ∨ i = 1 ∨ i = 2) with rfl | rfl | rfl <;> rfl)
    have := hasO_walk (some ⟨g, 0, none⟩) 3 [sScore, sA, s5] s W hsl (by decide)
    rw [(words_no s hs).2] at this
    exact this)
  have HCUT := Lib.hid (fun (s : ByteArray) (g : Nat) (W : World) (hs : s = ⟨#[]⟩ ∨ s = ⟨#[110, 101, 101, 100, 101, 100]⟩ ∨ s = ⟨#[115, 101, 99, 114, 101, 116]⟩) (h : Blk W g 9 #[.string sScore, .string sA, .string s5]) => cutword_no g s W (h.cell 0 _ rfl) (words_no s hs).1)
  have HKO := Lib.hid (fun (W : World) (hW : KW W) => kindof_score W hW)
  have HNU := Lib.hid number_5
  clear hT
  generalize sScore = t0 at *
  generalize sA = t1 at *
  generalize s5 = t2 at *
  go_enter Tryz.func56, Tryz.ntmps56
  go_wp2_with fail
  refine (HS.out).mono ?_; rintro e w1 ⟨rfl, rfl⟩
  have B1 := Lib.hid (B0.out.alloc B0.out.size (.cells #[.string t0, .string t1, .string t2] 9))
  have KW1 := Lib.hid (show Blk ((w.alloc (.cells #[.string ⟨#[]⟩, .int .i64 0, .int .i64 0, .slice none 0 0, .bool false, .bool false] 45)).alloc (.cells #[.string t0, .string t1, .string t2] 9)) (w.heap.size + 1) 9 #[.string t0, .string t1, .string t2] from by have h := Blk.new (w.alloc (.cells #[.string ⟨#[]⟩, .int .i64 0, .int .i64 0, .slice none 0 0, .bool false, .bool false] 45)) 9 #[.string t0, .string t1, .string t2]; simp only [World.size_alloc] at h; exact h)
  go_wp2_with fail
  refine (HHAS.out ⟨#[]⟩ _ _ (Or.inl rfl) KW1.out).mono ?_; rintro e w2 ⟨rfl, rfl⟩
  have B2 := Lib.hid (B1.out.alloc B1.out.size (.cells #[.string ⟨#[]⟩, .int .i64 0, .int .i64 0, .slice none 0 0, .bool false, .bool false] 45))
  have KW2 := Lib.hid (KW1.out.alloc (.cells #[.string ⟨#[]⟩, .int .i64 0, .int .i64 0, .slice none 0 0, .bool false, .bool false] 45))
  go_wp2_with fail
  refine (HCUT.out ⟨#[110, 101, 101, 100, 101, 100]⟩ _ _ (Or.inr (Or.inl rfl)) KW2.out).mono ?_; rintro e w3 ⟨rfl, rfl⟩
  go_wp2_with fail
  refine (HCUT.out ⟨#[115, 101, 99, 114, 101, 116]⟩ _ _ (Or.inr (Or.inr rfl)) KW2.out).mono ?_; rintro e w4 ⟨rfl, rfl⟩
  go_wp2_with fail
  have c0 := KW2.out.cell 0 _ rfl
  have c1 := KW2.out.cell 1 _ rfl
  have c2 := fun o => (KW1.out.alloc o).cell 2 _ rfl
  have BQ := Lib.hid (fun o => B1.out.alloc B1.out.size o)
  have KRQ := Lib.hid (fun o => (KR.out.alloc (.cells #[.string t0, .string t1, .string t2] 9)).alloc o)
  have KQQ := Lib.hid (fun cs => show Blk (((w.alloc (.cells #[.string ⟨#[]⟩, .int .i64 0, .int .i64 0, .slice none 0 0, .bool false, .bool false] 45)).alloc (.cells #[.string t0, .string t1, .string t2] 9)).alloc (.cells cs 45)) (w.heap.size + 1 + 1) 45 cs from by
    have h := Blk.new ((w.alloc (.cells #[.string ⟨#[]⟩, .int .i64 0, .int .i64 0, .slice none 0 0, .bool false, .bool false] 45)).alloc (.cells #[.string t0, .string t1, .string t2] 9)) 45 cs
    simp only [World.size_alloc] at h; exact h)
  go_region_law ((first
    | (go_simp; go_at_call 67
       refine (HKO.out _ (HTW.out _ (by first | exact B2.out | exact B2.out.drew | exact Stm.Below.drewN B2.out _ | exact Stm.Below.drewN B2.out.drew _)).2).mono ?_
       rintro e w5 ⟨rfl, rfl⟩)))
  all_goals
    go_wp2_with fail
    refine (HNU.out _).mono ?_; rintro e w6 ⟨rfl, hB⟩
    have B3 := Lib.hid (((BQ.out _).drew).trans (hB.mono (((BQ.out _).drew).size)))
    have KR3 := Lib.hid (blk_num (KRQ.out _) hB)
    have KQ3 := Lib.hid (blk_num (KQQ.out _) hB)
    clear hB
    have f1 := KQ3.out.frozen
    obtain ⟨g0, g1, g2, g3, g4, g5⟩ := blk_six KQ3.out
    have f2 := KR3.out.frozen
    obtain ⟨h0, h1, h2, h3, h4, h5⟩ := blk_six KR3.out
    clear c0 c1 c2 KR HS HHAS HCUT KW1 KW2 BQ KRQ KQQ B1 B2 HTW HKO HNU B0
    go_wp2_with fail
    have B8 := Lib.hid (((((((B3.out.setCell (p := ⟨w.heap.size + 1 + 1, 2, none⟩) (by show w.heap.size ≤ w.heap.size + 1 + 1; omega) (.int .i64 5)).setCell (p := ⟨w.heap.size, 0, none⟩) (Nat.le_refl _) (.string t1)).setCell (p := ⟨w.heap.size, 1, none⟩) (Nat.le_refl _) (.int .i64 1)).setCell (p := ⟨w.heap.size, 2, none⟩) (Nat.le_refl _) (.int .i64 5)).setCell (p := ⟨w.heap.size, 3, none⟩) (Nat.le_refl _) (.slice none 0 0)).setCell (p := ⟨w.heap.size, 4, none⟩) (Nat.le_refl _) (.bool false)).setCell (p := ⟨w.heap.size, 5, none⟩) (Nat.le_refl _) (.bool false))
    have K8 := Lib.hid (((((((KR3.out.far (p := ⟨w.heap.size + 1 + 1, 2, none⟩) (by show w.heap.size ≠ w.heap.size + 1 + 1; omega) (.int .i64 5)).set_ 0 (.string t1)).set_ 1 (.int .i64 1)).set_ 2 (.int .i64 5)).set_ 3 (.slice none 0 0)).set_ 4 (.bool false)).set_ 5 (.bool false))
    obtain ⟨m0, m1, m2, m3, m4, m5⟩ := blk_six K8.out
    refine bodyPost_ret (v := .tuple #[.agg #[.string t1, .int .i64 1, .int .i64 5, .slice none 0 0, .bool false, .bool false], .bool true]) (by simp only [results, Tryz.results56]; go_simp) rfl ?_
    exact ⟨rfl, B8.out⟩
end Go.Proofs.YthglfcfnejjpjaaGreatDoor.Rev
