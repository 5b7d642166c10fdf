/-
  THE WALK OF THE LAW ArrivalsCount, over the contracts of the makers, the program and the reference.
-/
import Derived.Test.YtglmdgjbfnoidabDoorLaw
import Derived.Test.YtglmdgjbfnoidabDoorCall
import Derived.Test.YtglmdgjbfnoidabDoorCounts
import Derived.Test.YtglmdgjbfnoidabDoorSubmits
namespace Go.Proofs.YtglmdgjbfnoidabDoor.Stm
open Go.ChangeShapes Go.WideShapes Go.ChangeAt Go.RowKit Key
set_option linter.unusedVariables false

theorem rsn_gr {w w' : World} {A : Option Addr} {rs : List (ByteArray × Int)} {B k : Nat} (h : Rsn w A rs) (hs : Strm w B k) (hg : Gr B w w') : Rsn w' A rs := by
  refine ⟨h.1, fun h0 => ?_⟩
  obtain ⟨b, hA, hlt, hc⟩ := h.2 h0
  have hne : b ≠ B := by
    rintro rfl
    obtain ⟨a, len, cap, c, h1, _, _⟩ := hs
    have h2 := (hc 0 h0).1
    have h3 := (strm_cells h1).1
    rw [Nat.zero_mul] at h2
    rw [h3] at h2
    cases h2
  exact ⟨b, hA, Nat.lt_of_lt_of_le hlt hg.size, fun i hi => ⟨(hg.cell b _ hlt hne).trans (hc i hi).1, (hg.cell b _ hlt hne).trans (hc i hi).2⟩⟩

/-- What stands while the law runs: the call's and the arrival's own blocks. -/
def LS (w4 : World) (o a f : Int) (A : Option Addr) (n cap : Nat) (p : ByteArray) (at_ kd : Int) (s tx : ByteArray) (v : World) : Prop :=
  Below w4.heap.size w4 v ∧ Blk v w4.heap.size 28 #[.int .i64 o, .int .i64 a, .int .i64 f, .slice A n cap] ∧ Blk v (w4.heap.size + 1) 31 #[.string p, .int .i64 at_, .int .i64 kd, .string s, .string tx]
section
variable {w4 : World} {o a f : Int} {A : Option Addr} {n cap : Nat} {p : ByteArray} {at_ kd : Int} {s tx : ByteArray} {v v' : World}
theorem LS.below (h : LS w4 o a f A n cap p at_ kd s tx v) (hb : Below v.heap.size v v') : LS w4 o a f A n cap p at_ kd s tx v' :=
  ⟨h.1.trans (hb.mono h.1.size), h.2.1.below hb h.2.1.lt, h.2.2.below hb h.2.2.lt⟩
theorem LS.drew (h : LS w4 o a f A n cap p at_ kd s tx v) : LS w4 o a f A n cap p at_ kd s tx v.drew := h.below (Below.refl _ _).drew
theorem LS.cells (h : LS w4 o a f A n cap p at_ kd s tx v) :
    v.cell? ⟨w4.heap.size, 0, none⟩ = some (.int .i64 o) ∧ v.cell? ⟨w4.heap.size, 1, none⟩ = some (.int .i64 a) ∧ v.cell? ⟨w4.heap.size, 2, none⟩ = some (.int .i64 f) ∧ v.cell? ⟨w4.heap.size, 3, none⟩ = some (.slice A n cap) ∧
    v.cell? ⟨w4.heap.size + 1, 0, none⟩ = some (.string p) ∧ v.cell? ⟨w4.heap.size + 1, 1, none⟩ = some (.int .i64 at_) ∧ v.cell? ⟨w4.heap.size + 1, 2, none⟩ = some (.int .i64 kd) ∧ v.cell? ⟨w4.heap.size + 1, 3, none⟩ = some (.string s) ∧ v.cell? ⟨w4.heap.size + 1, 4, none⟩ = some (.string tx) ∧ LS w4 o a f A n cap p at_ kd s tx v :=
  ⟨h.2.1.cell 0 _ rfl, h.2.1.cell 1 _ rfl, h.2.1.cell 2 _ rfl, h.2.1.cell 3 _ rfl, h.2.2.cell 0 _ rfl, h.2.2.cell 1 _ rfl, h.2.2.cell 2 _ rfl, h.2.2.cell 3 _ rfl, h.2.2.cell 4 _ rfl, h⟩
theorem LS.start (w4 : World) (o a f : Int) (A : Option Addr) (n cap : Nat) (p : ByteArray) (at_ kd : Int) (s tx : ByteArray) :
    LS w4 o a f A n cap p at_ kd s tx ((w4.alloc (.cells #[.int .i64 o, .int .i64 a, .int .i64 f, .slice A n cap] 28)).alloc (.cells #[.string p, .int .i64 at_, .int .i64 kd, .string s, .string tx] 31)) :=
  ⟨((Below.refl _ _).alloc (Nat.le_refl _) _).alloc (by simp) _, (Blk.new w4 _ _).alloc _, new_at (by simp)⟩
end

set_option maxRecDepth 100000 in
set_option maxHeartbeats 8000000 in
theorem law_arrivals (a0 : Option Addr) (len0 cap0 : Nat) (z0 : List Int) (w : World) (w0 : IsRow .i64 w a0 len0 cap0 z0) (hg : gTop ≤ w.heap.size) (hT : Tabs w) :
    Calls Tryd.prog 3 #[.slice a0 len0 cap0] w fun e w' => e = .returned (.bool true) ∧ Below w.heap.size w w' := by
  have hs0 := strm_new w0
  have g0 : Below w.heap.size w (w.alloc (.cells #[.slice a0 len0 cap0, .int .i64 0] 25)) := (Below.refl _ _).alloc (Nat.le_refl _) _
  clear w0
  have HT := Lib.hid hT
  clear hT
  go_enter Tryd.func3, Tryd.ntmps3
  go_wp2_with fail
  refine (call_any _ 0 _ hs0 (by omega)).mono ?_
  rintro e w1 ⟨o, a, f, A, n, cap, rs, L, hn4, hnc, hR, rfl, g1, hs1⟩
  have G1 := Lib.hid (g0.trans (g1.toBelow (Nat.le_refl _) (by simp)))
  have HR1 := Lib.hid hR
  have HL := Lib.hid L
  clear hs0 g0 g1 hR L
  have hz1 := G1.out.size
  go_wp2_with fail
  refine (arrival_any _ _ _ hs1 (by omega)).mono ?_
  rintro e w2 ⟨p, at_, kd, s, tx, q1, q2, q3, rfl, g2, hs2⟩
  have G2 := Lib.hid (G1.out.trans (g2.toBelow (Nat.le_refl _) hz1))
  have HR2 := Lib.hid (rsn_gr HR1.out hs1 g2)
  clear hs1 g2 HR1
  have hz2 := G2.out.size
  go_wp2_with fail
  refine (range_any _ _ _ _ _ hs2 (by omega) (by omega) (by omega) (by omega)).mono ?_
  rintro e w3 ⟨kind, k0, k4, rfl, ho, hs3⟩
  have G3 := Lib.hid (G2.out.trans (ho.below (Nat.le_refl _)))
  have HR3 := Lib.hid (rsn_gr HR2.out hs2 (Gr.only ho))
  clear hs2 ho HR2
  have hz3 := G3.out.size
  have hB3 := hs3.lt
  go_wp2_with fail
  refine (one_any w.heap.size (0 + 20 + 20 + 1) _ _ [⟨#[]⟩, ⟨#[105, 108, 108]⟩, ⟨#[119, 97, 114]⟩, ⟨#[115, 97, 100]⟩, ⟨#[73, 108, 108]⟩] _ _ _ (hs3.keep (by go_grown)) (by omega) (by omega) (new_at rfl) (by simp) (by simp)).mono ?_
  rintro e w4 ⟨reason, hreason, rfl, ho, hs4⟩
  have hrs : reason.size ≤ 100 := le_all (zs := [⟨#[]⟩, ⟨#[105, 108, 108]⟩, ⟨#[119, 97, 114]⟩, ⟨#[115, 97, 100]⟩, ⟨#[73, 108, 108]⟩]) (by decide +kernel) _ hreason
  have G4 := Lib.hid ((G3.out.alloc hz3 _).trans (ho.below (Nat.le_refl _)))
  have HR4 := Lib.hid (rsn_gr (HR3.out.below ((Below.refl _ _).alloc (Nat.le_refl _) _)) (hs3.keep ((Below.refl _ _).alloc (by omega) _)) (Gr.only ho))
  clear hs3 ho HR3 hreason hs4
  have hz4 := G4.out.size
  have hl := HL.out
  have hn6 : n ≤ 1000000 := by omega
  have q3' : tx.size ≤ 9223372036854775807 := by omega
  have q2' : s.size ≤ 9223372036854775807 := by omega
  have q1' : p.size ≤ 9223372036854775807 := by omega
  have BW : Hid (∀ W, Below w4.heap.size w4 W → Below w.heap.size w W) := Lib.hid fun W hW => G4.out.trans (hW.mono hz4)
  have TW : Hid (∀ W, Below w4.heap.size w4 W → Tabs W ∧ gTop ≤ W.heap.size) := Lib.hid fun W hW => ⟨HT.out.below ((BW.out W hW).mono hg), Nat.le_trans hg (BW.out W hW).size⟩
  have RW : Hid (∀ W, Below w4.heap.size w4 W → Rsn W A rs) := Lib.hid fun W hW => HR4.out.below hW
  obtain ⟨m, hm⟩ : ∃ m, moreO reason rs = m := ⟨_, rfl⟩
  obtain ⟨ms, hms⟩ : ∃ m, moreO s rs = m := ⟨_, rfl⟩
  have C1 : Hid (∀ W, Below w4.heap.size w4 W → Calls Tryd.prog 8 #[.agg #[.int .i64 o, .int .i64 a, .int .i64 f, .slice A n cap]] W fun e w' => e = .returned (.int .i64 (callE o a f rs)) ∧ Below W.heap.size W w') :=
    Lib.hid fun W hW => callR_walk o a f A n cap rs W hl hn6 hnc (RW.out W hW) _ (Lib.hid rfl)
  have C2 : Hid (∀ W, Below w4.heap.size w4 W → Calls Tryd.prog 9 #[.agg #[.int .i64 o, .int .i64 a, .int .i64 f, .slice A n cap]] W fun e w' => e = .returned (.int .i64 (callE o a f rs)) ∧ Below W.heap.size W w') :=
    Lib.hid fun W hW => call_walk o a f A n cap rs W hl hn6 (RW.out W hW) _ (Lib.hid rfl)
  have C3 : Hid (∀ W, Below w4.heap.size w4 W → Calls Tryd.prog 10 #[.agg #[.string p, .int .i64 at_, .int .i64 kd, .string s, .string tx]] W fun e w' => e = .returned (.int .i64 (arriveE p at_ kd s tx)) ∧ Below W.heap.size W w') :=
    Lib.hid fun W hW => arrive_walk p at_ kd s tx W q1' q2' q3' (TW.out W hW).2 (TW.out W hW).1 _ (Lib.hid rfl)
  have C4 : Hid (∀ W, Below w4.heap.size w4 W → Calls Tryd.prog 11 #[.agg #[.string p, .int .i64 at_, .int .i64 kd, .string s, .string tx]] W fun e w' => e = .returned (.int .i64 (arriveE p at_ kd s tx)) ∧ Below W.heap.size W w') :=
    Lib.hid fun W hW => arriveR_walk p at_ kd s tx W q1' q2' q3' (TW.out W hW).2 (TW.out W hW).1 _ (Lib.hid rfl)
  have C5 : Hid (∀ W, Below w4.heap.size w4 W → Calls Tryd.prog 12 #[.agg #[.int .i64 o, .int .i64 a, .int .i64 f, .slice A n cap], .int .i64 kind, .string reason] W fun e w' => e = .returned (.tuple #[.int .i64 (dlP o a f rs kind m).1, .int .i64 (dlP o a f rs kind m).2]) ∧ Below W.heap.size W w') :=
    Lib.hid fun W hW => deadlineP_walk o a f A n cap rs kind reason W hl hn6 (RW.out W hW) m (Lib.hid hm)
  have C6 : Hid (callE o a f rs = 0 → ∀ W, Below w4.heap.size w4 W → Calls Tryd.prog 15 #[.agg #[.int .i64 o, .int .i64 a, .int .i64 f, .slice A n cap], .int .i64 kind, .string reason] W fun e w' => e = .returned (.tuple #[.int .i64 (dlE a f kind m).1, .int .i64 (dlE a f kind m).2]) ∧ Below W.heap.size W w') :=
    Lib.hid fun hok W hW => deadlineR_walk o a f A n cap rs kind reason W hl hn6 (RW.out W hW) hok m (Lib.hid hm)
  have C7 : Hid (∀ W, Below w4.heap.size w4 W → Calls Tryd.prog 13 #[.agg #[.int .i64 o, .int .i64 a, .int .i64 f, .slice A n cap], .agg #[.string p, .int .i64 at_, .int .i64 kd, .string s, .string tx]] W fun e w' => e = .returned (.tuple #[.int .i64 (countP o a f rs p at_ kd s tx ms).1, .int .i64 (countP o a f rs p at_ kd s tx ms).2]) ∧ Below W.heap.size W w') :=
    Lib.hid fun W hW => countsP_walk o a f A n cap rs p at_ kd s tx W hl hn6 (RW.out W hW) q1' q2' q3' (TW.out W hW).2 (TW.out W hW).1 ms (Lib.hid hms)
  have C8 : Hid (callE o a f rs = 0 → arriveE p at_ kd s tx = 0 → ∀ W, Below w4.heap.size w4 W → Calls Tryd.prog 16 #[.agg #[.int .i64 o, .int .i64 a, .int .i64 f, .slice A n cap], .agg #[.string p, .int .i64 at_, .int .i64 kd, .string s, .string tx]] W fun e w' => e = .returned (.int .i64 (countE o a f at_ kd ms)) ∧ Below W.heap.size W w') :=
    Lib.hid fun hok hao W hW => countsR_walk o a f A n cap rs p at_ kd s tx W hl hn6 (RW.out W hW) hok (arriveE_kind hao) ms (Lib.hid hms) _ (Lib.hid rfl)
  have C9 : Hid (∀ W, Below w4.heap.size w4 W → Calls Tryd.prog 14 #[] W fun e w' => e = .returned (.bool true) ∧ Below W.heap.size W w') :=
    Lib.hid fun W hW => submits1_any W (TW.out W hW).2 (TW.out W hW).1
  have V1 : Hid (callE o a f rs ≠ 0 → dlP o a f rs kind m = (0, callE o a f rs)) := Lib.hid fun h => by unfold dlP; rw [if_neg h]
  have V2 : Hid (callE o a f rs = 0 → dlP o a f rs kind m = dlE a f kind m) := Lib.hid fun h => by unfold dlP; rw [if_pos h]
  have V3 : Hid (callE o a f rs ≠ 0 → countP o a f rs p at_ kd s tx ms = (0, callE o a f rs)) := Lib.hid fun h => by unfold countP; rw [if_neg h]
  have V4 : Hid (callE o a f rs = 0 → arriveE p at_ kd s tx ≠ 0 → countP o a f rs p at_ kd s tx ms = (0, arriveE p at_ kd s tx)) := Lib.hid fun h h2 => by unfold countP; rw [if_pos h, if_neg h2]
  have V5 : Hid (callE o a f rs = 0 → arriveE p at_ kd s tx = 0 → countP o a f rs p at_ kd s tx ms = (countE o a f at_ kd ms, 0)) := Lib.hid fun h h2 => by unfold countP; rw [if_pos h, if_pos h2]
  have S0 := Lib.hid (LS.start w4 o a f A n cap p at_ kd s tx)
  clear hm hms HT HR4 HL hl TW RW hnc hn4 hn6 q1 q2 q3 q1' q2' q3' hrs k0 k4
  generalize callE o a f rs = E at *
  generalize arriveE p at_ kd s tx = AE at *
  generalize dlP o a f rs kind m = D at *
  generalize dlE a f kind m = DR at *
  generalize countP o a f rs p at_ kd s tx ms = K at *
  generalize countE o a f at_ kd ms = KR at *
  obtain ⟨d1, d2⟩ := D
  obtain ⟨r1, r2⟩ := DR
  obtain ⟨c1, c2⟩ := K
  go_wp2_with fail
  refine (C1.out _ S0.out.1).mono ?_; rintro e w5 ⟨rfl, hB⟩
  have S1 := Lib.hid (S0.out.below hB)
  clear hB
  have eE : (E != E) = false := by simp
  have eA : (AE != AE) = false := by simp
  obtain ⟨x0, x1, x2, x3, y0, y1, y2, y3, y4, hS⟩ := S1.out.cells
  go_wp2_with fail
  go_region_held3 (fun v => v.cell? ⟨w4.heap.size, 0, none⟩ = some (.int .i64 o) ∧ v.cell? ⟨w4.heap.size, 1, none⟩ = some (.int .i64 a) ∧ v.cell? ⟨w4.heap.size, 2, none⟩ = some (.int .i64 f) ∧ v.cell? ⟨w4.heap.size, 3, none⟩ = some (.slice A n cap) ∧
      v.cell? ⟨w4.heap.size + 1, 0, none⟩ = some (.string p) ∧ v.cell? ⟨w4.heap.size + 1, 1, none⟩ = some (.int .i64 at_) ∧ v.cell? ⟨w4.heap.size + 1, 2, none⟩ = some (.int .i64 kd) ∧ v.cell? ⟨w4.heap.size + 1, 3, none⟩ = some (.string s) ∧ v.cell? ⟨w4.heap.size + 1, 4, none⟩ = some (.string tx) ∧ LS w4 o a f A n cap p at_ kd s tx v)
    (first
      | (go_split_ands; exact LS.cells (LS.below (by assumption) hB))
      | exact LS.cells (LS.drew S1.out)
      | exact LS.cells S1.out)
    (first
      | (go_at_call 9; go_split_ands; refine (C2.out _ (And.left (by assumption : LS w4 o a f A n cap p at_ kd s tx _))).mono ?_; rintro e w6 ⟨rfl, hB⟩)
      | (go_at_call 10; go_split_ands; refine (C3.out _ (And.left (by assumption : LS w4 o a f A n cap p at_ kd s tx _))).mono ?_; rintro e w6 ⟨rfl, hB⟩)
      | (go_at_call 11; go_split_ands; refine (C4.out _ (And.left (by assumption : LS w4 o a f A n cap p at_ kd s tx _))).mono ?_; rintro e w6 ⟨rfl, hB⟩))
  all_goals
    go_split_ands
    have S2 : Hid (LS w4 o a f A n cap p at_ kd s tx w6) := Lib.hid (by assumption)
    clear S0 S1 hS x0 x1 x2 x3 y0 y1 y2 y3 y4
    go_wp2_with fail
    refine (C5.out _ S2.out.1).mono ?_; rintro e w7 ⟨rfl, hB7⟩
    have S3 := Lib.hid (S2.out.below hB7)
    clear hB7
    obtain ⟨p0, p1, p2, p3, p4, p5, p6, p7, p8, _⟩ := S3.out.cells
    go_wp2_with fail
    refine (C7.out _ S3.out.1).mono ?_; rintro e w8 ⟨rfl, hB8⟩
    have S4 := Lib.hid (S3.out.below hB8)
    clear hB8 p0 p1 p2 p3 p4 p5 p6 p7 p8
    obtain ⟨p0, p1, p2, p3, p4, p5, p6, p7, p8, _⟩ := S4.out.cells
    by_cases hE : E = 0
    · have v2 := V2.out hE
      injection v2 with v21 v22
      subst v21 v22
      have C6' := Lib.hid (C6.out hE)
      by_cases hA : AE = 0
      · have v5 := V5.out hE hA
        injection v5 with v51 v52
        subst v51 v52
        have C8' := Lib.hid (C8.out hE hA)
        subst hE
        subst hA
        clear V1 V2 V3 V4 V5 C6 C8
        have e1 : (d2 != d2) = false := by simp
        have e2 : (d1 != d1) = false := by simp
        have e3 : (c1 == c1) = true := by simp
        go_wp2_with fail
        refine (C6'.out _ S4.out.1).mono ?_; rintro e w9 ⟨rfl, hB9⟩
        have S5 := Lib.hid (S4.out.below hB9)
        clear hB9 p0 p1 p2 p3 p4 p5 p6 p7 p8
        obtain ⟨p0, p1, p2, p3, p4, p5, p6, p7, p8, _⟩ := S5.out.cells
        go_wp2_with fail
        refine (C4.out _ S5.out.1).mono ?_; rintro e w10 ⟨rfl, hB10⟩
        have S6 := Lib.hid (S5.out.below hB10)
        clear hB10 p0 p1 p2 p3 p4 p5 p6 p7 p8
        go_wp2_with fail
        refine (C9.out _ S6.out.1).mono ?_; rintro e w11 ⟨rfl, hB11⟩
        have S7 := Lib.hid (S6.out.below hB11)
        clear hB11
        obtain ⟨p0, p1, p2, p3, p4, p5, p6, p7, p8, _⟩ := S7.out.cells
        go_wp2_with fail
        refine (C8'.out _ S7.out.1).mono ?_; rintro e w12 ⟨rfl, hB12⟩
        have S8 := Lib.hid (S7.out.below hB12)
        clear hB12 p0 p1 p2 p3 p4 p5 p6 p7 p8
        go_wp2_with fail
        go_ret
        exact ⟨rfl, BW.out _ S8.out.1⟩
      · have v4 := V4.out hE hA
        injection v4 with v41 v42
        subst v41 v42
        have eA2 : (c2 != 0) = true := by rw [bne_iff_ne]; exact hA
        have eA3 : (c2 == c2) = true := by simp
        have e1 : (d2 != d2) = false := by simp
        have e2 : (d1 != d1) = false := by simp
        clear V1 V2 V3 V4 V5 C6 C8 hA
        subst hE
        go_wp2_with fail
        refine (C6'.out _ S4.out.1).mono ?_; rintro e w9 ⟨rfl, hB9⟩
        have S5 := Lib.hid (S4.out.below hB9)
        clear hB9 p0 p1 p2 p3 p4 p5 p6 p7 p8
        obtain ⟨p0, p1, p2, p3, p4, p5, p6, p7, p8, _⟩ := S5.out.cells
        go_wp2_with fail
        refine (C4.out _ S5.out.1).mono ?_; rintro e w10 ⟨rfl, hB10⟩
        have S6 := Lib.hid (S5.out.below hB10)
        clear hB10 p0 p1 p2 p3 p4 p5 p6 p7 p8
        go_wp2_with fail
        refine (C9.out _ S6.out.1).mono ?_; rintro e w11 ⟨rfl, hB11⟩
        have S7 := Lib.hid (S6.out.below hB11)
        clear hB11
        go_wp2_with fail
        go_ret
        exact ⟨rfl, BW.out _ S7.out.1⟩
    · have v1 := V1.out hE
      have v3 := V3.out hE
      injection v1 with v11 v12
      injection v3 with v31 v32
      subst v11 v12 v31 v32
      have eE2 : (c2 != 0) = true := by rw [bne_iff_ne]; exact hE
      have eE3 : (c2 == c2) = true := by simp
      clear V1 V2 V3 V4 V5 C6 C8 hE
      go_wp2_with fail
      refine (C9.out _ S4.out.1).mono ?_; rintro e w11 ⟨rfl, hB11⟩
      have S7 := Lib.hid (S4.out.below hB11)
      clear hB11
      go_wp2_with fail
      go_ret
      exact ⟨rfl, BW.out _ S7.out.1⟩
end Go.Proofs.YtglmdgjbfnoidabDoor.Stm
