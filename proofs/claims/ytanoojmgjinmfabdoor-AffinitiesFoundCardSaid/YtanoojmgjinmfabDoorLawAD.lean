/-
  THE WALK OF THE LAW AffinitiesFound, over its contracts.
-/
import Derived.Test.YtanoojmgjinmfabDoorLaw
import Derived.Test.YtanoojmgjinmfabDoorLawFA
import Derived.Test.YtanoojmgjinmfabDoorRefAff
import Derived.Deep.RegionHeld3
import Derived.BigQuiet
namespace Go.Proofs.YtanoojmgjinmfabDoor.For
open Go.ChangeShapes Go.WideShapes Go.ChangeAt Go.RowKit Stm Key
set_option linter.unusedVariables false

theorem BL.below {w w' : World} {A : Option Addr} {l : List Bc} (h : BL w A l) (hb : Below w.heap.size w w') : BL w' A l := fun h0 => by
  obtain ⟨g, hA, hlt, hc⟩ := h h0
  refine ⟨g, hA, Nat.lt_of_lt_of_le hlt hb.size, fun i hi => ?_⟩
  obtain ⟨d0, d1, d2, d3⟩ := hc i hi
  exact ⟨(hb.cell (p := ⟨g, i * 4, none⟩) hlt).trans d0, (hb.cell (p := ⟨g, i * 4 + 1, none⟩) hlt).trans d1, (hb.cell (p := ⟨g, i * 4 + 2, none⟩) hlt).trans d2, (hb.cell (p := ⟨g, i * 4 + 3, none⟩) hlt).trans d3⟩
/-- What stands when the answers are compared. -/
def NA (w3 : World) (N : Nat) (x y : Int) (Ab : Option Addr) (bs : List Bc) (v : World) : Prop := Below w3.heap.size w3 v ∧ Blk v N 33 #[.int .i64 x, .int .i64 y] ∧ BL v Ab bs
theorem NA.below {w3 v v' : World} {N : Nat} {x y : Int} {Ab : Option Addr} {bs : List Bc} (h : NA w3 N x y Ab bs v) (hb : Below v.heap.size v v') : NA w3 N x y Ab bs v' := ⟨h.1.trans (hb.mono h.1.size), h.2.1.below hb h.2.1.lt, h.2.2.below hb⟩
theorem NA.cells {w3 v : World} {N : Nat} {x y : Int} {Ab : Option Addr} {bs : List Bc} (h : NA w3 N x y Ab bs v) : v.cell? ⟨N, 0, none⟩ = some (.int .i64 x) ∧ v.cell? ⟨N, 1, none⟩ = some (.int .i64 y) ∧ NA w3 N x y Ab bs v := ⟨h.2.1.cell 0 _ rfl, h.2.1.cell 1 _ rfl, h⟩
theorem NA.drew {w3 v : World} {N : Nat} {x y : Int} {Ab : Option Addr} {bs : List Bc} (h : NA w3 N x y Ab bs v) : NA w3 N x y Ab bs v.drew := h.below (Below.refl _ _).drew
theorem want_parts {l : List Tp} {s : List Sk} {ts : List ByteArray} : (forestE l ≠ 0 → wantE l s ts = forestE l) ∧ (forestE l = 0 → wantE l s ts = if skE l ⟨#[]⟩ s ≠ 0 then skE l ⟨#[]⟩ s else waE l ⟨#[]⟩ ts) := by
  constructor
  · intro h
    have h1 : withE l s = forestE l := by unfold withE; rw [if_pos h]
    unfold wantE; rw [h1, if_pos h]
  · intro h
    have h1 : withE l s = skE l ⟨#[]⟩ s := by unfold withE; rw [if_neg (by simpa using h)]
    unfold wantE; rw [h1]

set_option maxRecDepth 100000 in
set_option maxHeartbeats 8000000 in
theorem law_affinities (a0 : Option Addr) (len0 cap0 : Nat) (z0 : List Int) (w : World) (w0 : IsRow .i64 w a0 len0 cap0 z0) :
    Calls Tryd.prog 3 #[.slice a0 len0 cap0] w fun e w' => e = .returned (.bool true) ∧ Below w.heap.size w w' := by
  have hs0 := strm_new w0
  have g0 : Below w.heap.size w (w.alloc (.cells #[.slice a0 len0 cap0, .int .i64 0] 25)) := (Below.refl _ _).alloc (Nat.le_refl _) _
  clear w0
  go_enter Tryd.func3, Tryd.ntmps3
  go_wp2_with fail
  refine (forest_any _ 0 _ hs0 (by omega)).mono ?_
  rintro e w1 ⟨A, n, c, l, rfl, hl, hn, hnc, htl, hat, hgr, hs⟩
  have G1 := Lib.hid (g0.trans (hgr.toBelow (Nat.le_refl _) (by simp)))
  have HL := Lib.hid hl
  have T1 := Lib.hid htl
  have AT := Lib.hid (show AtT w.heap.size A l.length by rw [hl]; exact hat)
  have S1 := Lib.hid hs
  have hz1 := G1.out.size
  clear hs0 g0 hgr hs hl htl hat
  go_wp2_with fail
  refine (skills_any w.heap.size (0 + 20) _ S1.out (by omega)).mono ?_
  rintro e w2 ⟨A2, n2, c2, s, rfl, hl2, hn2, hnc2, hkl, hat2, hgr, hs⟩
  have G2 := Lib.hid (G1.out.trans (hgr.toBelow (Nat.le_refl _) hz1))
  have T2 := Lib.hid (T1.out.gr AT.out hgr)
  have S2 := Lib.hid hs
  have HL2 := Lib.hid hl2
  have KL2 := Lib.hid hkl
  have AT2 := Lib.hid (show AtT w.heap.size A2 s.length by rw [hl2]; exact hat2)
  have hz2 := G2.out.size
  clear hgr hs G1 T1 S1 hz1 hl2 hkl hat2
  go_wp2_with fail
  refine (wanted_any w.heap.size (0 + 20 + 12) _ S2.out (by omega)).mono ?_
  rintro e w3 ⟨A3, n3, c3, ts, rfl, hl3, hn3, hnc3, hsl, hat3, hgr, hs⟩
  have G3 := Lib.hid (G2.out.trans (hgr.toBelow (Nat.le_refl _) hz2))
  have T3 := Lib.hid (T2.out.gr AT.out hgr)
  have KL3 := Lib.hid (KL2.out.gr AT2.out hgr)
  have SL3 := Lib.hid hsl
  have HL3 := Lib.hid hl3
  have hz3 := G3.out.size
  clear hgr hs G2 T2 S2 hz2 AT AT2 KL2 hl3 hsl hat3
  have TW : Hid (∀ W, Below w3.heap.size w3 W → TL W A l) := Lib.hid fun W hW => T3.out.below hW
  have KW : Hid (∀ W, Below w3.heap.size w3 W → KL W A2 s) := Lib.hid fun W hW => KL3.out.below hW
  have SW : Hid (∀ W, Below w3.heap.size w3 W → SL W A3 ts) := Lib.hid fun W hW => SL3.out.below hW
  obtain ⟨r0, hr0⟩ : ∃ r, forestE l = r := ⟨_, rfl⟩
  obtain ⟨r, hr⟩ : ∃ r, wantE l s ts = r := ⟨_, rfl⟩
  have R0 := Lib.hid hr0
  have R := Lib.hid hr
  have WP := want_parts (l := l) (s := s) (ts := ts)
  rw [hr0, hr] at WP
  have HWP := Lib.hid WP
  clear hr0 hr WP
  have er : (r == r) = true := by simp
  have C1 : Hid (∀ W, Below w3.heap.size w3 W → Calls Tryd.prog 7 #[.slice A n c, .slice A2 n2 c2, .slice A3 n3 c3] W (AffRet l s ts r W)) := Lib.hid fun W hW => affinityf_walk A n c l A2 n2 c2 s A3 n3 c3 ts W HL.out (by omega) (TW.out W hW) (KW.out W hW) HL2.out (by omega) (SW.out W hW) HL3.out (by omega) r R
  have C2 : Hid (∀ W, Below w3.heap.size w3 W → Calls Tryd.prog 8 #[.slice A n c, .slice A2 n2 c2, .slice A3 n3 c3] W (BecRet l s ts r W)) := Lib.hid fun W hW => reasons_walk A n c l A2 n2 c2 s A3 n3 c3 ts W HL.out (by omega) (TW.out W hW) (KW.out W hW) HL2.out (by omega) (SW.out W hW) HL3.out (by omega) r R
  have C3 : Hid (∀ W, Below w3.heap.size w3 W → Calls Tryd.prog 9 #[.slice A n c] W fun e w' => e = .returned (.int .i64 r0) ∧ Below W.heap.size W w') := Lib.hid fun W hW => faultE_walk A n c l W HL.out (by omega) hnc (TW.out W hW) r0 R0
  go_wp2_with fail
  refine (C1.out _ (Below.refl _ _)).mono ?_; rintro e w4 ⟨x, y, rfl, hq1, hB4⟩
  have B4 := Lib.hid hB4
  have Q1 := Lib.hid hq1
  have K4 := Lib.hid (Blk.new w4 33 #[.int .i64 x, .int .i64 y])
  have B4b := Lib.hid (B4.out.alloc B4.out.size (.cells #[.int .i64 x, .int .i64 y] 33))
  clear hB4 hq1 C1
  go_wp2_with fail
  refine (C2.out _ B4b.out).mono ?_; rintro e w5 ⟨Ab, m, cb, bs, rfl, hbm, hbl, hq2, hB5⟩
  have N5 := Lib.hid (show NA w3 w4.heap.size x y Ab bs w5 from ⟨B4b.out.trans (hB5.mono B4b.out.size), K4.out.below hB5 (by simp), hbl⟩)
  have Q2 := Lib.hid hq2
  have HBM := Lib.hid hbm
  clear hB5 hq2 hbm hbl C2 K4 B4 B4b
  go_wp2_with fail
  refine (C3.out _ N5.out.1).mono ?_; rintro e w6 ⟨rfl, hB6⟩
  have N6 := Lib.hid (N5.out.below hB6)
  clear hB6 N5 C3
  have CT : Hid (∀ W : World, Calls Tryd.prog 13 #[] W fun e w' => e = .returned (.bool true) ∧ Below W.heap.size W w') := Lib.hid fun W => Frac.topics_any Frac.add_ok W
  have DONE : Hid (∀ W, NA w3 w4.heap.size x y Ab bs W → Below w.heap.size w W) := Lib.hid fun W hW => G3.out.trans (hW.1.mono hz3)
  by_cases h0 : r0 = 0
  · subst h0
    obtain ⟨r1, hr1⟩ : ∃ r, skE l ⟨#[]⟩ s = r := ⟨_, rfl⟩
    obtain ⟨r2, hr2⟩ : ∃ r, waE l ⟨#[]⟩ ts = r := ⟨_, rfl⟩
    have HE := HWP.out.2 rfl
    rw [hr1, hr2] at HE
    have HER := Lib.hid HE
    have RR1 := Lib.hid hr1
    have RR2 := Lib.hid hr2
    clear HE HWP
    have C4 : Hid (∀ W, Below w3.heap.size w3 W → Calls Tryd.prog 11 #[.slice A n c, .slice A2 n2 c2] W fun e w' => e = .returned (.int .i64 r1) ∧ Below W.heap.size W w') := Lib.hid fun W hW => skillsfault_walk A n c l A2 n2 c2 s W HL.out (by omega) R0.out (TW.out W hW) (KW.out W hW) HL2.out (by omega) r1 RR1
    have C5 : Hid (∀ W, Below w3.heap.size w3 W → Calls Tryd.prog 12 #[.slice A n c, .slice A3 n3 c3] W fun e w' => e = .returned (.int .i64 r2) ∧ Below W.heap.size W w') := Lib.hid fun W hW => wantedfault_walk A n c l A3 n3 c3 ts W HL.out (by omega) R0.out (TW.out W hW) (SW.out W hW) HL3.out (by omega) r2 RR2
    clear hr1 hr2
    go_wp2_with fail
    refine (C4.out _ N6.out.1).mono ?_; rintro e w7 ⟨rfl, hB7⟩
    have N7 := Lib.hid (N6.out.below hB7)
    clear hB7 N6 C4
    go_wp2_with fail
    refine (C5.out _ N7.out.1).mono ?_; rintro e w8 ⟨rfl, hB8⟩
    have N8 := Lib.hid (N7.out.below hB8)
    have OR := Lib.hid (or_walk w8.heap.size r1 r2 34 _ (Blk.new w8 34 #[.int .i64 r1, .int .i64 r2]) r HER.out.symm)
    have N9 := Lib.hid (N8.out.below ((Below.refl _ _).alloc (Nat.le_refl _) (.cells #[.int .i64 r1, .int .i64 r2] 34)))
    clear hB8 N7 N8 C5
    go_wp2_with fail
    refine (OR.out).mono ?_; rintro e w9 ⟨rfl, rfl⟩
    by_cases hr0 : r = 0
    · subst hr0
      have HF := Lib.hid (rightF R0.out)
      obtain ⟨_, hsk, hwa⟩ := wantE_ok R.out
      have HOK := Lib.hid (skE_ok s _ hsk)
      have HTO := Lib.hid (waE_ok ts _ hwa)
      obtain ⟨p0, q0, hpq⟩ : ∃ p q, affN l s ts = (p, q) := ⟨_, _, rfl⟩
      obtain ⟨hx, hy⟩ := Q1.out rfl
      rw [hpq] at hx hy
      simp only at hx hy
      subst hx
      subst hy
      have hbs := Q2.out rfl
      have CA : Hid (∀ W, Below w3.heap.size w3 W → Calls Tryd.prog 14 #[.slice A n c, .slice A2 n2 c2, .slice A3 n3 c3] W fun e w' => e = .returned (.agg #[.int .i64 p0, .int .i64 q0]) ∧ Below W.heap.size W w') := Lib.hid fun W hW => affinityof_walk A n c l A2 n2 c2 s A3 n3 c3 ts W HL.out (by omega) (TW.out W hW) HF.out (KW.out W hW) HL2.out (by omega) HOK.out (SW.out W hW) HL3.out (by omega) HTO.out p0 q0 (Lib.hid hpq)
      have CB : Hid (∀ W, Below w3.heap.size w3 W → Calls Tryd.prog 16 #[.slice A n c, .slice A2 n2 c2, .slice A3 n3 c3] W (BListRet bs W)) := Lib.hid fun W hW => by rw [hbs]; exact becauseof_walk A n c l A2 n2 c2 s A3 n3 c3 ts W HL.out (by omega) (TW.out W hW) HF.out (KW.out W hW) HL2.out (by omega) HOK.out (SW.out W hW) HL3.out (by omega) HTO.out
      have HBL : Hid (bs.length ≤ 1000) := Lib.hid (by rw [hbs]; unfold becS; rw [List.length_map, HL3.out]; omega)
      obtain rfl := HBM.out
      have ex : ((p0 : Int) == (p0 : Int)) = true := by simp
      have ey : ((q0 : Int) == (q0 : Int)) = true := by simp
      clear hsk hwa hpq hbs er Q1 Q2
      go_wp2_with fail
      go_region_held3 (fun v => v.cell? ⟨w4.heap.size, 0, none⟩ = some (.int .i64 p0) ∧ v.cell? ⟨w4.heap.size, 1, none⟩ = some (.int .i64 q0) ∧ NA w3 w4.heap.size p0 q0 Ab bs v)
        (first
          | (go_split_ands; exact NA.cells (NA.below (by assumption) hB))
          | exact NA.cells (NA.drew N9.out)
          | exact NA.cells N9.out)
        (first
          | (go_at_call 13; go_split_ands; refine (CT.out _).mono ?_; rintro e w6 ⟨rfl, hB⟩)
          | (go_at_call 14; go_split_ands; refine (CA.out _ (And.left (by assumption : NA w3 w4.heap.size p0 q0 Ab bs _))).mono ?_; rintro e w6 ⟨rfl, hB⟩)
          | (go_at_call 16; go_split_ands; refine (CB.out _ (And.left (by assumption : NA w3 w4.heap.size p0 q0 Ab bs _))).mono ?_; rintro e w6 ⟨A7, c7, rfl, hb7, hB⟩)
          | (go_at_call 15; go_split_ands; refine (equalb_any Ab A7 cb c7 bs _ bs.length rfl HBL.out (And.right (And.right (by assumption : NA w3 w4.heap.size p0 q0 Ab bs _))) hb7).mono ?_; rintro e w7 ⟨rfl, hB⟩))
      all_goals
        go_split_ands
        have S6 : Hid (NA w3 w4.heap.size p0 q0 Ab bs _) := Lib.hid (by assumption)
        go_wp2_with fail
        go_ret
        exact ⟨rfl, DONE.out _ S6.out⟩
    · have hrb : (r != 0) = true := by rw [bne_iff_ne]; exact hr0
      clear hr0
      go_wp2_with fail
      refine (CT.out _).mono ?_; rintro e wa ⟨rfl, hB⟩
      have NN := Lib.hid (N9.out.below hB)
      clear hB
      go_wp2_with fail
      go_ret
      exact ⟨rfl, DONE.out _ NN.out⟩
  · obtain rfl : r = r0 := HWP.out.1 h0
    have hrb : (r != 0) = true := by rw [bne_iff_ne]; exact h0
    have hrc : (r == 0) = false := by simpa using h0
    clear h0
    go_wp2_with fail
    refine (CT.out _).mono ?_; rintro e wa ⟨rfl, hB⟩
    have NN := Lib.hid (N6.out.below hB)
    clear hB
    go_wp2_with fail
    go_ret
    exact ⟨rfl, DONE.out _ NN.out⟩
end Go.Proofs.YtanoojmgjinmfabDoor.For
