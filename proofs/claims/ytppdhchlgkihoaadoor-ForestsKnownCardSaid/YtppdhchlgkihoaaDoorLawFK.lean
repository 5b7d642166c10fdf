/-
  THE WALK OF THE LAW ForestsKnown, over its contracts.
-/
import Derived.Test.YtppdhchlgkihoaaDoorLaw
import Derived.Test.YtppdhchlgkihoaaDoorLawFA
import Derived.Test.YtppdhchlgkihoaaDoorForGen3
import Derived.Test.YtppdhchlgkihoaaDoorRefNear
import Derived.Test.YtppdhchlgkihoaaDoorTopAsk4
import Derived.Test.YtppdhchlgkihoaaDoorEqual
import Derived.Deep.RegionHeld3
import Derived.BigQuiet
namespace Go.Proofs.YtppdhchlgkihoaaDoor.For
open Go.ChangeShapes Go.WideShapes Go.ChangeAt Go.RowKit Stm Key
set_option linter.unusedVariables false

theorem top_some {l : List Tp} (h : RightF l) (s : ByteArray) : (topOf l s).isSome = (lk l s).isSome := by
  have h1 := topOf_none h.dist s
  cases h2 : topOf l s <;> cases h3 : lk l s <;> rw [h2, h3] at h1 <;> simp at h1 ⊢
theorem ask_cases (l : List Tp) (a b : ByteArray) :
    (forestE l ≠ 0 ∧ askE l a a = forestE l ∧ askE l a b = forestE l) ∨
    (forestE l = 0 ∧ (topOf l a).isSome = false ∧ askE l a a = 8 ∧ askE l a b = 8) ∨
    (forestE l = 0 ∧ (topOf l a).isSome = true ∧ (topOf l b).isSome = false ∧ askE l a a = 0 ∧ askE l a b = 8) ∨
    (forestE l = 0 ∧ (topOf l a).isSome = true ∧ (topOf l b).isSome = true ∧ askE l a a = 0 ∧ askE l a b = 0) := by
  by_cases h0 : forestE l = 0
  · refine Or.inr ?_
    have R := rightF h0
    rw [top_some R, top_some R]
    unfold askE twoE
    cases h1 : (lk l a).isSome <;> cases h2 : (lk l b).isSome <;> simp [h0]
  · refine Or.inl ⟨h0, ?_, ?_⟩ <;> (unfold askE; rw [if_pos h0])

theorem key_le {l : List Tp} (h : ∀ x ∈ l, x.k.size ≤ 1000 ∧ x.a.size ≤ 1000) (m : Int) : (if m = -1 then (⟨#[]⟩ : ByteArray) else (l.getD m.toNat ⟨⟨#[]⟩, ⟨#[]⟩⟩).k).size ≤ 1000 := by
  split
  · exact Nat.zero_le _
  · rcases Nat.lt_or_ge m.toNat l.length with h1 | h1
    · simp only [List.getD, List.getElem?_eq_getElem h1, Option.getD_some]; exact (h _ (List.getElem_mem h1)).1
    · simp [List.getD, List.getElem?_eq_none h1]; decide

/-- What stands when the answers are compared. -/
def NS (w3 : World) (N : Nat) (x y : Int) (v : World) : Prop := Below w3.heap.size w3 v ∧ Blk v N 37 #[.int .i64 x, .int .i64 y]
theorem NS.below {w3 v v' : World} {N : Nat} {x y : Int} (h : NS w3 N x y v) (hb : Below v.heap.size v v') : NS w3 N x y v' := ⟨h.1.trans (hb.mono h.1.size), h.2.below hb h.2.lt⟩
theorem NS.cells {w3 v : World} {N : Nat} {x y : Int} (h : NS w3 N x y v) : v.cell? ⟨N, 0, none⟩ = some (.int .i64 x) ∧ v.cell? ⟨N, 1, none⟩ = some (.int .i64 y) ∧ NS w3 N x y v := ⟨h.2.cell 0 _ rfl, h.2.cell 1 _ rfl, h⟩
theorem NS.drew {w3 v : World} {N : Nat} {x y : Int} (h : NS w3 N x y v) : NS w3 N x y v.drew := h.below (Below.refl _ _).drew

/-- A world in which this stands. -/
structure NW (w3 : World) (N : Nat) (x y : Int) where
  v : World
  h : NS w3 N x y v
/-- A region that draws its order, walked once, over a class of worlds. -/
theorem wp_quiet_class {P : Program} {C : World → Prop} {id : Nat} {Q : Exit → Act → World → Prop} {a : Act} {w : World} {l : List Oper} (hm : P.follows .mixedOrders = true) (hB : Region.lexB .any l.toArray = true) (hC : C w.drew)
    (h : wpQuiet P l.toArray C (fun a' => ∀ w', C w' → Q .normal a' w') l a) : (Code.region id l.toArray true).wp P Q a w :=
  wp_region_quiet (C := C) hm hB hC (by simpa using h)

set_option maxRecDepth 100000 in
set_option maxHeartbeats 8000000 in
theorem law_forests (a0 : Option Addr) (len0 cap0 : Nat) (z0 : List Int) (w : World) (w0 : IsRow .i64 w a0 len0 cap0 z0) :
    Calls Tryd.prog 3 #[.slice a0 len0 cap0] w fun e w' => e = .returned (.bool true) ∧ Below w.heap.size w w' := by
  have hs0 := strm_new w0
  have g0 : Below w.heap.size w (w.alloc (.cells #[.slice a0 len0 cap0, .int .i64 0] 25)) := (Below.refl _ _).alloc (Nat.le_refl _) _
  clear w0
  go_enter Tryd.func3, Tryd.ntmps3
  go_wp2_with fail
  refine (forest_any _ 0 _ hs0 (by omega)).mono ?_
  rintro e w1 ⟨A, n, c, l, rfl, hl, hn, hnc, htl, hat, hgr, hs⟩
  have G1 := Lib.hid (g0.trans (hgr.toBelow (Nat.le_refl _) (by simp)))
  have HL := Lib.hid hl
  have T1 := Lib.hid htl
  have AT := Lib.hid (show AtT w.heap.size A l.length by rw [hl]; exact hat)
  have S1 := Lib.hid hs
  have hz1 := G1.out.size
  clear hs0 g0 hgr hs hl htl hat
  go_wp2_with fail
  refine (topickey_any w.heap.size (0 + 20) _ S1.out (by omega)).mono ?_
  rintro e w2 ⟨a, ha, rfl, hgr, hs⟩
  have G2 := Lib.hid (G1.out.trans (hgr.toBelow (Nat.le_refl _) hz1))
  have T2 := Lib.hid (T1.out.gr AT.out hgr)
  have S2 := Lib.hid hs
  have hz2 := G2.out.size
  clear hgr hs G1 T1 S1 hz1
  go_wp2_with fail
  refine (topickey_any w.heap.size (0 + 20 + 1) _ S2.out (by omega)).mono ?_
  rintro e w3 ⟨b, hb, rfl, hgr, hs⟩
  have G3 := Lib.hid (G2.out.trans (hgr.toBelow (Nat.le_refl _) hz2))
  have T3 := Lib.hid (T2.out.gr AT.out hgr)
  have hz3 := G3.out.size
  clear hgr hs G2 T2 S2 hz2 AT
  have TW : Hid (∀ W, Below w3.heap.size w3 W → TL W A l) := Lib.hid fun W hW => T3.out.below hW
  obtain ⟨r0, hr0⟩ : ∃ r, forestE l = r := ⟨_, rfl⟩
  obtain ⟨r1, hr1⟩ : ∃ r, askE l a a = r := ⟨_, rfl⟩
  obtain ⟨r2, hr2⟩ : ∃ r, askE l a b = r := ⟨_, rfl⟩
  have R0 := Lib.hid hr0
  have R1 := Lib.hid hr1
  have R2 := Lib.hid hr2
  clear hr0 hr1 hr2
  have en : (r0 != r0) = false := by simp
  have en0 : (r0 == r0) = true := by simp
  have C1 := Lib.hid (faultE_walk A n c l w3 HL.out (by omega) hnc T3.out r0 R0)
  have C2 : Hid (∀ W, Below w3.heap.size w3 W → Calls Tryd.prog 7 #[.slice A n c] W fun e w' => e = .returned (.int .i64 r0) ∧ Below W.heap.size W w') := Lib.hid fun W hW => check_forest A n c l W HL.out (by omega) (TW.out W hW) r0 R0
  have C3 : Hid (∀ W, Below w3.heap.size w3 W → Calls Tryd.prog 8 #[.slice A n c, .string a] W (StrsRet r1 (fun ss => ∃ i, lk l a = some i ∧ ss = keysOf l (way (pars l) (i : Nat))) W)) := Lib.hid fun W hW => abovef_walk A n c l a W HL.out (by omega) (TW.out W hW) ha r1 R1
  have C4 : Hid (∀ W, Below w3.heap.size w3 W → Calls Tryd.prog 9 #[.slice A n c, .string a] W (StrsRet r1 (fun ss => ∃ i, lk l a = some i ∧ ss = belS l i l.length) W)) := Lib.hid fun W hW => belowf_walk A n c l a W HL.out (by omega) (TW.out W hW) ha r1 R1
  have C5 : Hid (∀ W, Below w3.heap.size w3 W → Calls Tryd.prog 10 #[.slice A n c, .string a, .string b] W (MeetRet l a b r2 W)) := Lib.hid fun W hW => meetf_walk A n c l a b W HL.out (by omega) (TW.out W hW) ha hb r2 R2
  have C6 : Hid (∀ W, Below w3.heap.size w3 W → Calls Tryd.prog 11 #[.slice A n c, .string a, .string b] W (NearRet l a b r2 W)) := Lib.hid fun W hW => nearf_walk A n c l a b W HL.out (by omega) (TW.out W hW) ha hb r2 R2
  go_wp2_with fail
  refine (C1.out).mono ?_; rintro e w4 ⟨rfl, hB4⟩
  have B4 := Lib.hid hB4
  clear hB4 C1
  go_wp2_with fail
  refine (C2.out _ B4.out).mono ?_; rintro e w5 ⟨rfl, hB⟩
  have B5 := Lib.hid (B4.out.trans (hB.mono B4.out.size))
  clear hB B4 C2
  go_wp2_with fail
  refine (C3.out _ B5.out).mono ?_; rintro e w6 ⟨X1, m1, c1, ss1, rfl, hm1, hm1k, hm1c, hsl1, hq1, hB⟩
  have B6 := Lib.hid (B5.out.trans (hB.mono B5.out.size))
  have M1 := Lib.hid hm1
  have L1 := Lib.hid hsl1
  have Q1 := Lib.hid hq1
  clear hB B5 C3 hm1 hsl1 hq1
  go_wp2_with fail
  refine (C4.out _ B6.out).mono ?_; rintro e w7 ⟨X2, m2, c2, ss2, rfl, hm2, hm2k, hm2c, hsl2, hq2, hB⟩
  have B7 := Lib.hid (B6.out.trans (hB.mono B6.out.size))
  have M2 := Lib.hid hm2
  have L1 := Lib.hid (L1.out.below hB)
  have L2 := Lib.hid hsl2
  have Q2 := Lib.hid hq2
  clear hB B6 C4 hm2 hsl2 hq2
  go_wp2_with fail
  refine (C5.out _ B7.out).mono ?_; rintro e w8 ⟨s, rfl, hq3, hB⟩
  have B8 := Lib.hid (B7.out.trans (hB.mono B7.out.size))
  have L1 := Lib.hid (L1.out.below hB)
  have L2 := Lib.hid (L2.out.below hB)
  have Q3 := Lib.hid hq3
  clear hB B7 C5 hq3
  go_wp2_with fail
  refine (C6.out _ B8.out).mono ?_; rintro e w9 ⟨x, y, rfl, hq4, hB⟩
  have B9 := Lib.hid (B8.out.trans (hB.mono B8.out.size))
  have L1 := Lib.hid ((L1.out.below hB).below ((Below.refl w9.heap.size w9).alloc (Nat.le_refl _) (.cells #[.int .i64 x, .int .i64 y] 37)))
  have L2 := Lib.hid ((L2.out.below hB).below ((Below.refl w9.heap.size w9).alloc (Nat.le_refl _) (.cells #[.int .i64 x, .int .i64 y] 37)))
  have Q4 := Lib.hid hq4
  have N9 := Lib.hid (show NS w3 w9.heap.size x y (w9.alloc (.cells #[.int .i64 x, .int .i64 y] 37)) from ⟨B9.out.alloc B9.out.size _, Blk.new w9 _ _⟩)
  clear hB B8 B9 C6 hq4
  have CH : ∀ (s : ByteArray) (r : Bool), (topOf l s).isSome = r → Hid (∀ W, Below w3.heap.size w3 W → Calls Tryd.prog 12 #[.slice A n c, .string s] W fun e w' => e = .returned (.bool r) ∧ Below W.heap.size W w') := fun s r hr => Lib.hid fun W hW => hastopic_walk A n c l s W HL.out (by omega) (TW.out W hW) r (Lib.hid hr)
  have CT : Hid (∀ W : World, Calls Tryd.prog 16 #[] W fun e w' => e = .returned (.bool true) ∧ Below W.heap.size W w') := Lib.hid fun W => Frac.topics_any Frac.add_ok W
  have DONE : Hid (∀ W, NS w3 w9.heap.size x y W → Below w.heap.size w W) := Lib.hid fun W hW => G3.out.trans (hW.1.mono hz3)
  have hz9 := N9.out.1.size
  have QT : Hid (∀ n : NW w3 w9.heap.size x y, Calls Tryd.prog 16 #[] n.v fun e w' => e = .returned (.bool true) ∧ ∃ m : NW w3 w9.heap.size x y, w' = m.v) := Lib.hid fun n => (CT.out n.v).mono fun e w' h => ⟨h.1, ⟨_, n.h.below h.2⟩, rfl⟩
  have hne : Nonempty (NW w3 w9.heap.size x y) := ⟨⟨_, N9.out⟩⟩
  have k0 : ∀ n : NW w3 w9.heap.size x y, n.v.cell? ⟨w9.heap.size, 0, none⟩ = some (.int .i64 x) := fun n => n.h.cells.1
  have k1 : ∀ n : NW w3 w9.heap.size x y, n.v.cell? ⟨w9.heap.size, 1, none⟩ = some (.int .i64 y) := fun n => n.h.cells.2.1
  clear CT
  have HC := ask_cases l a b
  rw [R0.out, R1.out, R2.out] at HC
  rcases HC with ⟨h0, h1, h2⟩ | ⟨h0, hta, h1, h2⟩ | ⟨h0, hta, htb, h1, h2⟩ | ⟨h0, hta, htb, h1, h2⟩
  · subst h1
    subst h2
    have e00 : (r2 == 0) = false := by simpa using h0
    have e01 : (r2 != 0) = true := by simpa using h0
    clear CH Q1 Q2 Q3 Q4 TW T3
    have NN := N9
    go_wp2_with fail
    refine wp_quiet_class (C := fun w' => ∃ n : NW w3 w9.heap.size x y, w' = n.v) (by kernel_rfl) (by kernel_rfl) ⟨⟨_, NN.out.drew⟩, rfl⟩ ?_
    repeat (go_big_quiet_step (first | exact QT.out _))
    refine wpQuiet_nil ?_
    rintro _ ⟨nq, rfl⟩
    go_wp2_with fail
    go_ret
    exact ⟨rfl, DONE.out _ nq.h⟩
  · subst h0
    subst h1
    subst h2
    have CA := CH a false hta
    clear CH Q1 Q2 Q3 Q4 TW T3 hta
    have N9B := N9.out.1
    go_wp2_with fail
    refine (CA.out _ N9B).mono ?_; rintro e wa ⟨rfl, hB⟩
    have NN := Lib.hid (N9.out.below hB)
    clear hB N9 N9B
    go_wp2_with fail
    refine wp_quiet_class (C := fun w' => ∃ n : NW w3 w9.heap.size x y, w' = n.v) (by kernel_rfl) (by kernel_rfl) ⟨⟨_, NN.out.drew⟩, rfl⟩ ?_
    repeat (go_big_quiet_step (first | exact QT.out _))
    refine wpQuiet_nil ?_
    rintro _ ⟨nq, rfl⟩
    go_wp2_with fail
    go_ret
    exact ⟨rfl, DONE.out _ nq.h⟩
  · subst h0
    subst h1
    subst h2
    have CA := CH a true hta
    have CB := CH b false htb
    clear CH hta htb
    obtain ⟨i, hi, hss1⟩ := Q1.out rfl
    obtain ⟨i', hi', hss2⟩ := Q2.out rfl
    obtain rfl : i = i' := by rw [hi] at hi'; exact Option.some.inj hi'
    have RF := Lib.hid (rightF R0.out)
    have HI := Lib.hid hi
    have K1 : Hid (abv l (n + 1) a = ss1) := Lib.hid (by rw [hss1, ← HL.out]; exact RF.out.above hi)
    have K2 : Hid (belR l a n = ss2) := Lib.hid (by rw [hss2, ← HL.out]; exact RF.out.below hi _ (Nat.le_refl _))
    have CU : Hid (∀ W, Below w3.heap.size w3 W → Calls Tryd.prog 14 #[.slice A n c, .string a] W (ListRet ss1 W)) := Lib.hid fun W hW => aboveof_walk A n c l a W HL.out (by omega) (TW.out W hW) ha ss1 K1
    have CD : Hid (∀ W, Below w3.heap.size w3 W → Calls Tryd.prog 15 #[.slice A n c, .string a] W (ListRet ss2 W)) := Lib.hid fun W hW => by have h := belowof_walk A n c l a W HL.out (by omega) (TW.out W hW); rw [K2.out] at h; exact h
    clear hi hi' hss1 hss2 Q1 Q2
    obtain rfl := M1.out
    obtain rfl := M2.out
    have N9B := N9.out.1
    go_wp2_with fail
    refine (CA.out _ N9B).mono ?_; rintro e wa ⟨rfl, hB⟩
    have NN := Lib.hid (N9.out.below hB)
    have L1 := Lib.hid (L1.out.below hB)
    have L2 := Lib.hid (L2.out.below hB)
    clear hB N9 N9B CA
    have NB := NN.out.1
    go_wp2_with fail
    refine (CB.out _ NB).mono ?_; rintro e wb ⟨rfl, hB⟩
    have NN := Lib.hid (NN.out.below hB)
    have L1 := Lib.hid (L1.out.below hB)
    have L2 := Lib.hid (L2.out.below hB)
    clear hB CB NB
    have NB := NN.out.1
    go_wp2_with fail
    refine (CU.out _ NB).mono ?_; rintro e wc ⟨Y1, d1, rfl, hd1, hsl, hB⟩
    have NN := Lib.hid (NN.out.below hB)
    have E1 := Lib.hid (equal_any X1 Y1 c1 d1 ss1 wc ss1.length rfl (by omega) (L1.out.below hB) hsl)
    have L2 := Lib.hid (L2.out.below hB)
    clear hB CU NB hsl
    go_wp2_with fail
    refine (E1.out).mono ?_; rintro e wd ⟨rfl, hB⟩
    have NN := Lib.hid (NN.out.below hB)
    have L2 := Lib.hid (L2.out.below hB)
    clear hB E1
    have NB := NN.out.1
    go_wp2_with fail
    refine (CD.out _ NB).mono ?_; rintro e we ⟨Y2, d2, rfl, hd2, hsl, hB⟩
    have NN := Lib.hid (NN.out.below hB)
    have E2 := Lib.hid (equal_any X2 Y2 c2 d2 ss2 we ss2.length rfl (by omega) (L2.out.below hB) hsl)
    clear hB CD NB hsl
    go_wp2_with fail
    refine (E2.out).mono ?_; rintro e wf ⟨rfl, hB⟩
    have NN := Lib.hid (NN.out.below hB)
    clear hB E2
    go_wp2_with fail
    refine wp_quiet_class (C := fun w' => ∃ n : NW w3 w9.heap.size x y, w' = n.v) (by kernel_rfl) (by kernel_rfl) ⟨⟨_, NN.out.drew⟩, rfl⟩ ?_
    repeat (go_big_quiet_step (first | exact QT.out _))
    refine wpQuiet_nil ?_
    rintro _ ⟨nq, rfl⟩
    go_wp2_with fail
    go_ret
    exact ⟨rfl, DONE.out _ nq.h⟩
  · subst h0
    subst h1
    subst h2
    have CA := CH a true hta
    have CB := CH b true htb
    clear CH hta htb
    obtain ⟨i, hi, hss1⟩ := Q1.out rfl
    obtain ⟨i', hi', hss2⟩ := Q2.out rfl
    obtain rfl : i = i' := by rw [hi] at hi'; exact Option.some.inj hi'
    have RF := Lib.hid (rightF R0.out)
    have HI := Lib.hid hi
    have K1 : Hid (abv l (n + 1) a = ss1) := Lib.hid (by rw [hss1, ← HL.out]; exact RF.out.above hi)
    have K2 : Hid (belR l a n = ss2) := Lib.hid (by rw [hss2, ← HL.out]; exact RF.out.below hi _ (Nat.le_refl _))
    have CU : Hid (∀ W, Below w3.heap.size w3 W → Calls Tryd.prog 14 #[.slice A n c, .string a] W (ListRet ss1 W)) := Lib.hid fun W hW => aboveof_walk A n c l a W HL.out (by omega) (TW.out W hW) ha ss1 K1
    have CD : Hid (∀ W, Below w3.heap.size w3 W → Calls Tryd.prog 15 #[.slice A n c, .string a] W (ListRet ss2 W)) := Lib.hid fun W hW => by have h := belowof_walk A n c l a W HL.out (by omega) (TW.out W hW); rw [K2.out] at h; exact h
    clear hi hi' hss1 hss2 Q1 Q2
    obtain rfl := M1.out
    obtain rfl := M2.out
    have N9B := N9.out.1
    go_wp2_with fail
    refine (CA.out _ N9B).mono ?_; rintro e wa ⟨rfl, hB⟩
    have NN := Lib.hid (N9.out.below hB)
    have L1 := Lib.hid (L1.out.below hB)
    have L2 := Lib.hid (L2.out.below hB)
    clear hB N9 N9B CA
    have NB := NN.out.1
    go_wp2_with fail
    refine (CB.out _ NB).mono ?_; rintro e wb ⟨rfl, hB⟩
    have NN := Lib.hid (NN.out.below hB)
    have L1 := Lib.hid (L1.out.below hB)
    have L2 := Lib.hid (L2.out.below hB)
    clear hB CB NB
    have NB := NN.out.1
    go_wp2_with fail
    refine (CU.out _ NB).mono ?_; rintro e wc ⟨Y1, d1, rfl, hd1, hsl, hB⟩
    have NN := Lib.hid (NN.out.below hB)
    have E1 := Lib.hid (equal_any X1 Y1 c1 d1 ss1 wc ss1.length rfl (by omega) (L1.out.below hB) hsl)
    have L2 := Lib.hid (L2.out.below hB)
    clear hB CU NB hsl
    go_wp2_with fail
    refine (E1.out).mono ?_; rintro e wd ⟨rfl, hB⟩
    have NN := Lib.hid (NN.out.below hB)
    have L2 := Lib.hid (L2.out.below hB)
    clear hB E1
    have NB := NN.out.1
    go_wp2_with fail
    refine (CD.out _ NB).mono ?_; rintro e we ⟨Y2, d2, rfl, hd2, hsl, hB⟩
    have NN := Lib.hid (NN.out.below hB)
    have E2 := Lib.hid (equal_any X2 Y2 c2 d2 ss2 we ss2.length rfl (by omega) (L2.out.below hB) hsl)
    clear hB CD NB hsl
    go_wp2_with fail
    refine (E2.out).mono ?_; rintro e wf ⟨rfl, hB⟩
    have NN := Lib.hid (NN.out.below hB)
    clear hB E2
    obtain ⟨i2, j2, hi2, hj2, hs3⟩ := Q3.out (by first | exact trivial | rfl)
    have HMS := Lib.hid (RF.out.meet hi2 hj2)
    have HMS2 : Hid (meetR l a b = s) := Lib.hid (by rw [hs3]; exact HMS.out)
    have HMZ : Hid (s.size ≤ 1000) := Lib.hid (by rw [hs3]; exact key_le T3.out.1 _)
    have HXY : Hid (x = ((nearRef l a b).1 : Int) ∧ y = ((nearRef l a b).2 : Int)) := Lib.hid (by
      rcases Q4.out with ⟨h, _⟩ | ⟨_, i3, j3, hi3, hj3, h⟩
      · exact absurd rfl h
      · have h4 := RF.out.near hi3 hj3
        rw [← h] at h4
        exact ⟨(congrArg Prod.fst h4).symm, (congrArg Prod.snd h4).symm⟩)
    have HAB : Hid (1 ≤ (abv l (n + 1) a).length) := Lib.hid (by
      obtain ⟨h1, h2⟩ := lk_some l a i HI.out
      rw [← h2]; exact abv_head n i h1)
    obtain ⟨r, hr⟩ : ∃ r, nearRef l a b = r := ⟨_, rfl⟩
    have CM : Hid (∀ W, Below w3.heap.size w3 W → Calls Tryd.prog 17 #[.slice A n c, .string a, .string b] W fun e w' => e = .returned (.string s) ∧ Below W.heap.size W w') := Lib.hid fun W hW => meetof_walk A n c l a b W HL.out (by omega) (TW.out W hW) ha hb s HMS2
    have CN : Hid (∀ W, Below w3.heap.size w3 W → Calls Tryd.prog 18 #[.slice A n c, .string a, .string b] W fun e w' => e = .returned (.agg #[.int .i64 x, .int .i64 y]) ∧ Below W.heap.size W w') := Lib.hid fun W hW => by
      have h := nearof_walk A n c l a b W HL.out (by omega) (TW.out W hW) ha hb HAB.out (by rw [HMS2.out]; exact HMZ.out) _ (Lib.hid rfl)
      rw [HXY.out.1, HXY.out.2]
      exact h
    clear hi2 hj2 hs3 Q3 Q4 HMS HMS2 HMZ HAB hr r
    have QM : Hid (∀ q : NW w3 w9.heap.size x y, Calls Tryd.prog 17 #[.slice A n c, .string a, .string b] q.v fun e w' => e = .returned (.string s) ∧ ∃ m : NW w3 w9.heap.size x y, w' = m.v) := Lib.hid fun q => (CM.out q.v q.h.1).mono fun e w' h => ⟨h.1, ⟨_, q.h.below h.2⟩, rfl⟩
    have QN : Hid (∀ q : NW w3 w9.heap.size x y, Calls Tryd.prog 18 #[.slice A n c, .string a, .string b] q.v fun e w' => e = .returned (.agg #[.int .i64 x, .int .i64 y]) ∧ ∃ m : NW w3 w9.heap.size x y, w' = m.v) := Lib.hid fun q => (CN.out q.v q.h.1).mono fun e w' h => ⟨h.1, ⟨_, q.h.below h.2⟩, rfl⟩
    have ex : (x == x) = true := by simp
    have ey : (y == y) = true := by simp
    have es : (s.toList == s.toList) = true := by simp
    go_wp2_with fail
    refine wp_quiet_class (C := fun w' => ∃ n : NW w3 w9.heap.size x y, w' = n.v) (by kernel_rfl) (by kernel_rfl) ⟨⟨_, NN.out.drew⟩, rfl⟩ ?_
    repeat (go_big_quiet_step (first | exact QT.out _ | exact QM.out _ | exact QN.out _))
    refine wpQuiet_nil ?_
    rintro _ ⟨nq, rfl⟩
    go_wp2_with fail
    go_ret
    exact ⟨rfl, DONE.out _ nq.h⟩
end Go.Proofs.YtppdhchlgkihoaaDoor.For
