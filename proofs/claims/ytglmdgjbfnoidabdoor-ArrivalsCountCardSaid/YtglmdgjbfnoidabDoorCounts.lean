/-
  THE CONTRACTS OF WHAT COUNTS: the program's counts and Counts, the reference's CountsOf.
-/
import Derived.Test.YtglmdgjbfnoidabDoorDead2
import Derived.Test.YtglmdgjbfnoidabDoorRefArrive
namespace Go.Proofs.YtglmdgjbfnoidabDoor.Key
open Go.ChangeShapes Go.WideShapes Go.ChangeAt Go.RowKit
set_option linter.unusedVariables false

/-- Whether an arrival counts. -/
def countE (o a f at_ k : Int) (r : Option Int) : Int := match r with
  | none => 4
  | some m => if decide (at_ < o) then 2 else if decide (at_ ≥ dlI a f k m) then 3 else 1

set_option maxHeartbeats 4000000 in
theorem counts_walk (o a f : Int) (A : Option Addr) (n cap : Nat) (rs : List (ByteArray × Int)) (p : ByteArray) (at_ k : Int) (s tx : ByteArray) (w : World) (hn : rs.length = n) (hn2 : n ≤ 1000000) (hR : Rsn w A rs) (hok : callE o a f rs = 0) (hk : 1 ≤ k ∧ k ≤ 3)
    (r : Option Int) (hr : Hid (moreO s rs = r)) (z : Int) (hz : Hid (countE o a f at_ k r = z)) :
    Calls Tryd.prog 31 #[.agg #[.int .i64 o, .int .i64 a, .int .i64 f, .slice A n cap], .agg #[.string p, .int .i64 at_, .int .i64 k, .string s, .string tx]] w fun e w' =>
      e = .returned (.int .i64 z) ∧ Below w.heap.size w w' := by
  have hb0 := ((Below.refl w.heap.size w).alloc (Nat.le_refl _) (.cells #[.int .i64 o, .int .i64 a, .int .i64 f, .slice A n cap] 28))
  have hb1 := hb0.alloc hb0.size (.cells #[.string p, .int .i64 at_, .int .i64 k, .string s, .string tx] 31)
  have HD := Lib.hid (deadline_walk o a f A n cap rs k s _ hn hn2 (hR.below hb1) hok hk r hr)
  have HB := Lib.hid hb1
  have HBK := Lib.hid ((Blk.new w 28 #[.int .i64 o, .int .i64 a, .int .i64 f, .slice A n cap]).below ((Below.refl _ _).alloc (Nat.le_refl _) (.cells #[.string p, .int .i64 at_, .int .i64 k, .string s, .string tx] 31)) (by simp))
  have HBA := Lib.hid (Blk.new (w.alloc (.cells #[.int .i64 o, .int .i64 a, .int .i64 f, .slice A n cap] 28)) 31 #[.string p, .int .i64 at_, .int .i64 k, .string s, .string tx])
  clear hb0 hb1 hn hR hr hok
  rcases r with _ | m
  · go_enter Tryd.func31, Tryd.ntmps31
    go_wp2_with fail
    refine (HD.out).mono ?_; rintro e w1 ⟨rfl, hB⟩
    have HB2 := Lib.hid (HB.out.trans (hB.mono HB.out.size))
    clear hB
    simp only [Option.isSome_none]
    go_wp2_with fail
    go_returns; exact ⟨ret_int (by rw [← hz.out]; rfl), HB2.out⟩
  · unfold countE at hz
    obtain ⟨d, hd⟩ : ∃ d, dlI a f k m = d := ⟨_, rfl⟩
    have hdd : ((some m).map (dlI a f k)).getD 0 = d := hd
    rw [hdd] at HD
    have hz2 : (if decide (at_ < o) then (2 : Int) else if decide (at_ ≥ d) then 3 else 1) = z := by rw [← hd]; exact hz.out
    replace hz := Lib.hid hz2
    clear hd hdd hz2
    cases h1 : decide (at_ < o) <;> cases h2 : decide (at_ ≥ d)
    all_goals
      rw [h1, h2] at hz
      go_enter Tryd.func31, Tryd.ntmps31
      go_wp2_with fail
      refine (HD.out).mono ?_; rintro e w1 ⟨rfl, hB⟩
      have HB2 := Lib.hid (HB.out.trans (hB.mono HB.out.size))
      have c0 := (HBK.out.below hB HBK.out.lt).cell 0 _ rfl
      have c1 := (HBA.out.below hB HBA.out.lt).cell 1 _ rfl
      simp only [World.size_alloc] at c1
      clear hB
      simp only [Option.isSome_some]
      go_wp2_with fail
      go_returns; exact ⟨ret_int (by rw [← hz.out]; rfl), HB2.out⟩

set_option maxHeartbeats 4000000 in
theorem countsR_walk (o a f : Int) (A : Option Addr) (n cap : Nat) (rs : List (ByteArray × Int)) (p : ByteArray) (at_ k : Int) (s tx : ByteArray) (w : World) (hn : rs.length = n) (hn2 : n ≤ 1000000) (hR : Rsn w A rs) (hok : callE o a f rs = 0) (hk : 1 ≤ k ∧ k ≤ 3)
    (r : Option Int) (hr : Hid (moreO s rs = r)) (z : Int) (hz : Hid (countE o a f at_ k r = z)) :
    Calls Tryd.prog 16 #[.agg #[.int .i64 o, .int .i64 a, .int .i64 f, .slice A n cap], .agg #[.string p, .int .i64 at_, .int .i64 k, .string s, .string tx]] w fun e w' =>
      e = .returned (.int .i64 z) ∧ Below w.heap.size w w' := by
  have hb0 := ((Below.refl w.heap.size w).alloc (Nat.le_refl _) (.cells #[.int .i64 o, .int .i64 a, .int .i64 f, .slice A n cap] 28))
  have hb1 := hb0.alloc hb0.size (.cells #[.string p, .int .i64 at_, .int .i64 k, .string s, .string tx] 31)
  have HD := Lib.hid (deadlineR_walk o a f A n cap rs k s _ hn hn2 (hR.below hb1) hok r hr)
  have HB := Lib.hid hb1
  have HBK := Lib.hid ((Blk.new w 28 #[.int .i64 o, .int .i64 a, .int .i64 f, .slice A n cap]).below ((Below.refl _ _).alloc (Nat.le_refl _) (.cells #[.string p, .int .i64 at_, .int .i64 k, .string s, .string tx] 31)) (by simp))
  have HBA := Lib.hid (Blk.new (w.alloc (.cells #[.int .i64 o, .int .i64 a, .int .i64 f, .slice A n cap] 28)) 31 #[.string p, .int .i64 at_, .int .i64 k, .string s, .string tx])
  have hki : kindI k = true := by unfold kindI; simp; omega
  clear hb0 hb1 hn hR hr hok
  rcases r with _ | m
  · have he : dlE a f k none = (0, 8) := by unfold dlE; rw [hki]; rfl
    rw [he] at HD
    clear he hki hk
    go_enter Tryd.func16, Tryd.ntmps16
    go_wp2_with fail
    refine (HD.out).mono ?_; rintro e w1 ⟨rfl, hB⟩
    have HB2 := Lib.hid (HB.out.trans (hB.mono HB.out.size))
    clear hB
    go_wp2_with fail
    go_returns; exact ⟨ret_int (by rw [← hz.out]; rfl), HB2.out⟩
  · unfold countE at hz
    obtain ⟨d, hd⟩ : ∃ d, dlI a f k m = d := ⟨_, rfl⟩
    have he : dlE a f k (some m) = (d, 0) := by unfold dlE; rw [hki]; simp only [if_true]; rw [hd]
    rw [he] at HD
    have hz2 : (if decide (at_ < o) then (2 : Int) else if decide (at_ ≥ d) then 3 else 1) = z := by rw [← hd]; exact hz.out
    replace hz := Lib.hid hz2
    clear hd he hz2 hki hk
    cases h1 : decide (at_ < o) <;> cases h2 : decide (at_ ≥ d)
    all_goals
      rw [h1, h2] at hz
      go_enter Tryd.func16, Tryd.ntmps16
      go_wp2_with fail
      refine (HD.out).mono ?_; rintro e w1 ⟨rfl, hB⟩
      have HB2 := Lib.hid (HB.out.trans (hB.mono HB.out.size))
      have c0 := (HBK.out.below hB HBK.out.lt).cell 0 _ rfl
      have c1 := (HBA.out.below hB HBA.out.lt).cell 1 _ rfl
      simp only [World.size_alloc] at c1
      clear hB
      go_wp2_with fail
      go_returns; exact ⟨ret_int (by rw [← hz.out]; rfl), HB2.out⟩

/-- What the program's Counts returns. -/
def countP (o a f : Int) (rs : List (ByteArray × Int)) (p : ByteArray) (at_ k : Int) (s tx : ByteArray) (r : Option Int) : Int × Int :=
  if callE o a f rs = 0 then (if arriveE p at_ k s tx = 0 then (countE o a f at_ k r, 0) else (0, arriveE p at_ k s tx)) else (0, callE o a f rs)

theorem arriveE_kind {p : ByteArray} {at_ k : Int} {s tx : ByteArray} (h : arriveE p at_ k s tx = 0) : 1 ≤ k ∧ k ≤ 3 := by
  unfold arriveE at h
  by_cases h1 : keyL p.data.toList = true
  · rw [if_pos h1] at h
    by_cases h2 : momentI at_ = true
    · rw [if_pos h2] at h
      by_cases h3 : kindI k = true
      · unfold kindI at h3; simpa using h3
      · rw [if_neg h3] at h; omega
    · rw [if_neg h2] at h; omega
  · rw [if_neg h1] at h; omega

set_option maxHeartbeats 4000000 in
theorem countsP_walk (o a f : Int) (A : Option Addr) (n cap : Nat) (rs : List (ByteArray × Int)) (p : ByteArray) (at_ k : Int) (s tx : ByteArray) (w : World) (hn : rs.length = n) (hn2 : n ≤ 1000000) (hR : Rsn w A rs)
    (h1 : p.size ≤ 9223372036854775807) (h2 : s.size ≤ 9223372036854775807) (h3 : tx.size ≤ 9223372036854775807) (hg : gTop ≤ w.heap.size) (hT : Tabs w)
    (r : Option Int) (hr : Hid (moreO s rs = r)) :
    Calls Tryd.prog 13 #[.agg #[.int .i64 o, .int .i64 a, .int .i64 f, .slice A n cap], .agg #[.string p, .int .i64 at_, .int .i64 k, .string s, .string tx]] w fun e w' =>
      e = .returned (.tuple #[.int .i64 (countP o a f rs p at_ k s tx r).1, .int .i64 (countP o a f rs p at_ k s tx r).2]) ∧ Below w.heap.size w w' := by
  have hb0 := ((Below.refl w.heap.size w).alloc (Nat.le_refl _) (.cells #[.int .i64 o, .int .i64 a, .int .i64 f, .slice A n cap] 28))
  have hb1 := hb0.alloc hb0.size (.cells #[.string p, .int .i64 at_, .int .i64 k, .string s, .string tx] 31)
  have HC := Lib.hid (call_walk o a f A n cap rs _ hn hn2 (hR.below hb1) _ (Lib.hid rfl))
  have HA : Hid (∀ W, Below w.heap.size w W → Calls Tryd.prog 10 #[.agg #[.string p, .int .i64 at_, .int .i64 k, .string s, .string tx]] W fun e w' => e = .returned (.int .i64 (arriveE p at_ k s tx)) ∧ Below W.heap.size W w') :=
    Lib.hid fun W hW => arrive_walk p at_ k s tx W h1 h2 h3 (Nat.le_trans hg hW.size) (hT.below (hW.mono hg)) _ (Lib.hid rfl)
  have HB := Lib.hid hb1
  have HBK := Lib.hid ((Blk.new w 28 #[.int .i64 o, .int .i64 a, .int .i64 f, .slice A n cap]).below ((Below.refl _ _).alloc (Nat.le_refl _) (.cells #[.string p, .int .i64 at_, .int .i64 k, .string s, .string tx] 31)) (by simp))
  have HBA := Lib.hid (Blk.new (w.alloc (.cells #[.int .i64 o, .int .i64 a, .int .i64 f, .slice A n cap] 28)) 31 #[.string p, .int .i64 at_, .int .i64 k, .string s, .string tx])
  by_cases hok : callE o a f rs = 0
  · rw [hok] at HC
    by_cases hao : arriveE p at_ k s tx = 0
    · have hk := arriveE_kind hao
      have HX : Hid (∀ W, Below w.heap.size w W → Calls Tryd.prog 31 #[.agg #[.int .i64 o, .int .i64 a, .int .i64 f, .slice A n cap], .agg #[.string p, .int .i64 at_, .int .i64 k, .string s, .string tx]] W fun e w' =>
          e = .returned (.int .i64 (countE o a f at_ k r)) ∧ Below W.heap.size W w') := Lib.hid fun W hW => counts_walk o a f A n cap rs p at_ k s tx W hn hn2 (hR.below hW) hok hk r hr _ (Lib.hid rfl)
      have HE : Hid (countP o a f rs p at_ k s tx r = (countE o a f at_ k r, 0)) := Lib.hid (by unfold countP; rw [if_pos hok, if_pos hao])
      rw [hao] at HA
      clear hb0 hb1 hn hR hr hok hT hao hk
      generalize countE o a f at_ k r = z at *
      go_enter Tryd.func13, Tryd.ntmps13
      go_wp2_with fail
      refine (HC.out).mono ?_; rintro e w1 ⟨rfl, hB⟩
      have HB2 := Lib.hid (HB.out.trans (hB.mono HB.out.size))
      have HBK2 := Lib.hid (HBK.out.below hB HBK.out.lt)
      have HBA2 := Lib.hid (HBA.out.below hB HBA.out.lt)
      have d0 := HBA2.out.cell 0 _ rfl
      have d1 := HBA2.out.cell 1 _ rfl
      have d2 := HBA2.out.cell 2 _ rfl
      have d3 := HBA2.out.cell 3 _ rfl
      have d4 := HBA2.out.cell 4 _ rfl
      simp only [World.size_alloc] at d0 d1 d2 d3 d4
      clear hB
      go_wp2_with fail
      refine (HA.out _ HB2.out).mono ?_; rintro e w2 ⟨rfl, hB⟩
      have HB3 := Lib.hid (HB2.out.trans (hB.mono HB2.out.size))
      clear d0 d1 d2 d3 d4
      have HBK3 := Lib.hid (HBK2.out.below hB HBK2.out.lt)
      have HBA3 := Lib.hid (HBA2.out.below hB HBA2.out.lt)
      have c0 := HBK3.out.cell 0 _ rfl
      have c1 := HBK3.out.cell 1 _ rfl
      have c2 := HBK3.out.cell 2 _ rfl
      have c3 := HBK3.out.cell 3 _ rfl
      have d0 := HBA3.out.cell 0 _ rfl
      have d1 := HBA3.out.cell 1 _ rfl
      have d2 := HBA3.out.cell 2 _ rfl
      have d3 := HBA3.out.cell 3 _ rfl
      have d4 := HBA3.out.cell 4 _ rfl
      simp only [World.size_alloc] at d0 d1 d2 d3 d4
      clear hB
      go_wp2_with fail
      refine (HX.out _ HB3.out).mono ?_; rintro e w3 ⟨rfl, hB⟩
      have HB4 := Lib.hid (HB3.out.trans (hB.mono HB3.out.size))
      clear hB c0 c1 c2 c3 d0 d1 d2 d3 d4
      go_wp2_with fail
      go_returns; exact ⟨ret_ii (by rw [HE.out]) (by rw [HE.out]), HB4.out⟩
    · have hne : (arriveE p at_ k s tx != 0) = true := by rw [bne_iff_ne]; exact hao
      have HE : Hid (countP o a f rs p at_ k s tx r = (0, arriveE p at_ k s tx)) := Lib.hid (by unfold countP; rw [if_pos hok, if_neg hao])
      clear hb0 hb1 hn hR hr hok hT hao
      generalize arriveE p at_ k s tx = z at *
      go_enter Tryd.func13, Tryd.ntmps13
      go_wp2_with fail
      refine (HC.out).mono ?_; rintro e w1 ⟨rfl, hB⟩
      have HB2 := Lib.hid (HB.out.trans (hB.mono HB.out.size))
      have HBA2 := Lib.hid (HBA.out.below hB HBA.out.lt)
      have d0 := HBA2.out.cell 0 _ rfl
      have d1 := HBA2.out.cell 1 _ rfl
      have d2 := HBA2.out.cell 2 _ rfl
      have d3 := HBA2.out.cell 3 _ rfl
      have d4 := HBA2.out.cell 4 _ rfl
      simp only [World.size_alloc] at d0 d1 d2 d3 d4
      clear hB
      go_wp2_with fail
      refine (HA.out _ HB2.out).mono ?_; rintro e w2 ⟨rfl, hB⟩
      have HB3 := Lib.hid (HB2.out.trans (hB.mono HB2.out.size))
      clear d0 d1 d2 d3 d4 hB
      go_wp2_with fail
      go_returns; exact ⟨ret_ii (by rw [HE.out]) (by rw [HE.out]), HB3.out⟩
  · have hne : (callE o a f rs != 0) = true := by rw [bne_iff_ne]; exact hok
    have HE : Hid (countP o a f rs p at_ k s tx r = (0, callE o a f rs)) := Lib.hid (by unfold countP; rw [if_neg hok])
    clear hb0 hb1 hn hR hr hok hT
    generalize callE o a f rs = z at *
    go_enter Tryd.func13, Tryd.ntmps13
    go_wp2_with fail
    refine (HC.out).mono ?_; rintro e w1 ⟨rfl, hB⟩
    have HB2 := Lib.hid (HB.out.trans (hB.mono HB.out.size))
    clear hB
    go_wp2_with fail
    go_returns; exact ⟨ret_ii (by rw [HE.out]) (by rw [HE.out]), HB2.out⟩
end Go.Proofs.YtglmdgjbfnoidabDoor.Key
