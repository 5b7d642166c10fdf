/-
  MARKS, the seventh chapter's way: the reference's MeanOf (committeeref2).
-/
import Derived.Test.YtmihbfmlnfhgcabGreatDoorDisO
import Derived.Test.YtmihbfmlnfhgcabGreatDoorDisM
namespace Go.Proofs.YtmihbfmlnfhgcabGreatDoor.Cal
open Go.ChangeShapes Go.WideShapes Go.ChangeAt Go.RowKit Stm Key
set_option linter.unusedVariables false

/-- The mean of a paper's scores, and whether there is one. -/
def mean2 (l : List Mk) (p : ByteArray) : (Int × Int) × Bool := if (scB l p).length = 0 then ((0, 0), false) else (lowZ (sumI (scB l p)) (scB l p).length, true)
set_option maxRecDepth 100000 in
set_option maxHeartbeats 4000000 in
theorem meanof2_walk (A : Option Addr) (n cap : Nat) (l : List Mk) (p : ByteArray) (w : World) (hn : l.length = n) (hn2 : n ≤ 256) (hM : ML w A l) (hs : ∀ x ∈ l, 0 ≤ x.s ∧ x.s ≤ 10) (m : (Int × Int) × Bool) (hm : mean2 l p = m) :
    Calls Tryz.prog 11 #[.slice A n cap, .string p] w fun e w' => e = .returned (.tuple #[.agg #[.int .i64 m.1.1, .int .i64 m.1.2], .bool m.2]) ∧ Below w.heap.size w w' := by
  have hpm := oth_all (scB_mem hs p)
  have hlen := Nat.le_trans (scB_len l p) (by rw [hn]; exact hn2)
  have hmem : ∀ x ∈ oth (scB l p) 11, 0 ≤ x ∧ x ≤ 10 := oth_mem (scB_mem hs p) 11
  unfold mean2 at hm
  have B0 := Lib.hid ((Below.refl w.heap.size w).alloc (Nat.le_refl _) (.cells #[.int .i64 0, .int .i64 0] 31))
  have X0 := Lib.hid (Blk.new w 31 #[.int .i64 0, .int .i64 0])
  have HSO := Lib.hid (scores2_walk A n cap l p (w.alloc (.cells #[.int .i64 0, .int .i64 0] 31)) hn hn2 (hM.below B0.out) hs)
  have hsum : sumI (scB l p) = sumI (oth (scB l p) 11) := (perm_sum hpm).symm
  rw [hsum, ← hpm.length_eq] at hm
  rw [← hpm.length_eq] at hlen
  obtain ⟨ys, hys⟩ : ∃ ys, oth (scB l p) 11 = ys := ⟨_, rfl⟩
  rw [hys] at hm HSO hlen hmem
  obtain ⟨q, hq⟩ : ∃ q, ys.length = q := ⟨_, rfl⟩
  have hb := sumI_bd ys hmem
  rw [hq] at hm hlen hb
  have HQ := Lib.hid hq
  obtain ⟨t, ht⟩ : ∃ t : Nat, sumI ys = (t : Int) := ⟨(sumI ys).toNat, by omega⟩
  rw [ht] at hm hb
  have HT := Lib.hid ht
  have HMM := Lib.hid hm
  have htb : t ≤ 10000 := by omega
  have FIN : Hid (∀ (W : World) (a b : Int), Below w.heap.size w W → Below w.heap.size w ((W.setCell ⟨w.heap.size, 0, none⟩ (.int .i64 a)).setCell ⟨w.heap.size, 1, none⟩ (.int .i64 b))) := Lib.hid (fun W a b h => (h.setCell (p := ⟨w.heap.size, 0, none⟩) (Nat.le_refl _) _).setCell (p := ⟨w.heap.size, 1, none⟩) (Nat.le_refl _) _)
  clear hn hM hs hpm hmem hsum hys hq ht hm hb
  go_enter Tryz.func11, Tryz.ntmps11
  go_wp2_with fail
  refine (HSO.out).mono ?_; rintro e w1 ⟨A1, c1, rfl, hil, hb1⟩
  rw [HQ.out]
  have B1 := Lib.hid (B0.out.trans (hb1.mono B0.out.size))
  have X1 := Lib.hid (X0.out.below hb1 X0.out.lt)
  have HTT := Lib.hid (total2_walk A1 q c1 ys w1 HQ.out (by omega) hil)
  rw [HT.out] at HTT
  obtain ⟨f0, f1, q0, q1⟩ := blk_fracD X1.out
  clear hil hb1 HSO B0 X0
  by_cases hq0 : q = 0
  · subst hq0
    have HM2 := Lib.hid (show ((0, 0), false) = m by rw [← HMM.out, if_pos rfl])
    clear HMM HTT
    go_wp2_with fail
    exact bodyPost_ret (v := .tuple #[.agg #[.int .i64 0, .int .i64 0], .bool false]) (by simp only [results, Tryz.results11]; go_simp) rfl ⟨by rw [← HM2.out], FIN.out _ _ _ B1.out⟩
  · have e1 : ((q : Int) == 0) = false := by simp; omega
    have hq1 : 1 ≤ q := by omega
    obtain ⟨u, hu⟩ : ∃ u, lowZ (t : Int) (q : Int) = u := ⟨_, rfl⟩
    have HM2 := Lib.hid (show (u, true) = m by rw [← HMM.out, if_neg hq0, hu])
    have HLO := Lib.hid (lowest2_any t q w1 (by omega) hq1 (by omega))
    rw [hu] at HLO
    clear HMM hq0 hu
    go_wp2_with fail
    refine (HTT.out).mono ?_; rintro e w2 ⟨rfl, rfl⟩
    go_wp2_with fail
    refine (HLO.out).mono ?_; rintro e w3 ⟨rfl, hb3⟩
    have B3 := Lib.hid (B1.out.trans (hb3.mono B1.out.size))
    have X3 := Lib.hid (X1.out.below hb3 X1.out.lt)
    clear f0 f1 q0 q1 hb3 HLO HTT
    obtain ⟨f0, f1, q0, q1⟩ := blk_fracD X3.out
    go_wp2_with fail
    exact bodyPost_ret (v := .tuple #[.agg #[.int .i64 u.1, .int .i64 u.2], .bool true]) (by simp only [results, Tryz.results11]; go_simp) rfl ⟨by rw [← HM2.out], FIN.out _ _ _ B3.out⟩
end Go.Proofs.YtmihbfmlnfhgcabGreatDoor.Cal
