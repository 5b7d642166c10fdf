/-
  THE WALK OF THE LAW AffinityGrows, over its contracts.
-/
import Derived.Test.YtebfndiaiaegmaaGreatDoorKnow3
import Derived.Test.YtebfndiaiaegmaaGreatDoorSkD
import Derived.Test.YtebfndiaiaegmaaGreatDoorGrowA
import Derived.Test.YtebfndiaiaegmaaGreatDoorGrowC
import Derived.Test.YtebfndiaiaegmaaGreatDoorSortK
import Derived.Deep.RegionLaw
import Derived.Deep.AppendLies
import Derived.Deep.DrawnRows
namespace Go.Proofs.YtebfndiaiaegmaaGreatDoor.For
open Go.ChangeShapes Go.WideShapes Go.ChangeAt Go.RowKit Stm Key
set_option linter.unusedVariables false
attribute [local go_sem ↓] Go.wp_at_zero Go.wp_at_succ

theorem StrD.strm {D : Nat} {S : List Int} {w : World} {B c : Nat} (h : StrD D S w B c) : Strm w B c := by
  obtain ⟨a, cap, h1, h3⟩ := h
  refine ⟨a, S.length, cap, c, h1, Nat.le_refl _, ?_⟩
  rcases h3 with h3 | ⟨b, o, ha, hbB, hDB, hl1, hl2, hz⟩
  · exact Or.inl h3
  · rcases Nat.eq_zero_or_pos S.length with h | h
    · exact Or.inl h
    · exact Or.inr ⟨b, o, ha, by omega, h, hl1, hl2, fun i hi => ⟨_, hz i hi⟩⟩
theorem BL.below {w w' : World} {A : Option Addr} {l : List Bc} (h : BL w A l) (hb : Below w.heap.size w w') : BL w' A l := fun h0 => by
  obtain ⟨g, hA, hlt, hc⟩ := h h0
  refine ⟨g, hA, Nat.lt_of_lt_of_le hlt hb.size, fun i hi => ?_⟩
  obtain ⟨d0, d1, d2, d3⟩ := hc i hi
  exact ⟨(hb.cell (p := ⟨g, i * 4, none⟩) hlt).trans d0, (hb.cell (p := ⟨g, i * 4 + 1, none⟩) hlt).trans d1, (hb.cell (p := ⟨g, i * 4 + 2, none⟩) hlt).trans d2, (hb.cell (p := ⟨g, i * 4 + 3, none⟩) hlt).trans d3⟩
theorem own_low {w : World} {base base' E S n : Nat} {v : Value} {xs : List Value} (h : w.ownsRow base' E S v n xs) (hb : base ≤ base') : w.ownsRow base E S v n xs := by
  refine ⟨h.1, ?_⟩
  rcases h.2 with h2 | ⟨g, cap, cur, e, hg, hh, h1, h3, h4, h5⟩
  · exact Or.inl h2
  · exact Or.inr ⟨g, cap, cur, e, Nat.le_trans hb hg, hh, h1, h3, h4, h5⟩
/-- What the sum of the parts is, after some of them. -/
def sumP (l : List Tp) (s : List Sk) (ts : List ByteArray) (k : Nat) : Nat × Nat := lowN (sumK l s (ts.take k)) 252000
theorem sumP_next {l : List Tp} {s : List Sk} {ts : List ByteArray} {k : Nat} (hR : RightF l) (hok : ∀ x ∈ s, (lk l x.t).isSome = true ∧ 1 ≤ x.n ∧ x.n ≤ 100) (hto : ∀ x ∈ ts, (lk l x).isSome = true) (h : k < ts.length) (h8 : ts.length ≤ 8) :
    Frac.addR ((sumP l s ts k).1 : Nat) ((sumP l s ts k).2 : Nat) (becN l s ts[k]).p (becN l s ts[k]).q = ((((sumP l s ts (k + 1)).1 : Nat) : Int), (((sumP l s ts (k + 1)).2 : Nat) : Int), (0 : Int)) := by
  unfold sumP becN
  rw [sumK_next h]
  have h1 := sumK_bd (s := s) (l := l) 252000 (ts.take k) (fun x hx => knS_one hR hok (num_lt (hto x (List.mem_of_mem_take hx))).1)
  have h2 := knS_one hR hok (num_lt (hto _ (List.getElem_mem h))).1 (s := s)
  have h3 : (ts.take k).length ≤ 8 := by rw [List.length_take]; omega
  have h4 : (ts.take k).length * 252000 ≤ 8 * 252000 := Nat.mul_le_mul_right _ h3
  exact add_low _ _ (by omega)
theorem sumP_bd {l : List Tp} {s : List Sk} {ts : List ByteArray} (k : Nat) : (sumP l s ts k).2 ≤ 252000 ∧ 1 ≤ (sumP l s ts k).2 := ⟨(lowN_le _ _).2, lowN_pos _ _ (by decide)⟩
theorem sumP_one {l : List Tp} {s : List Sk} {ts : List ByteArray} {k : Nat} (hR : RightF l) (hok : ∀ x ∈ s, (lk l x.t).isSome = true ∧ 1 ≤ x.n ∧ x.n ≤ 100) (hto : ∀ x ∈ ts, (lk l x).isSome = true) (h8 : ts.length ≤ 8) : (sumP l s ts k).1 ≤ 2016000 := by
  unfold sumP
  have h1 := sumK_bd (s := s) (l := l) 252000 (ts.take k) (fun x hx => knS_one hR hok (num_lt (hto x (List.mem_of_mem_take hx))).1)
  have h3 : (ts.take k).length ≤ 8 := by rw [List.length_take]; omega
  have h4 : (ts.take k).length * 252000 ≤ 8 * 252000 := Nat.mul_le_mul_right _ h3
  exact Nat.le_trans (lowN_le _ _).1 (by omega)
theorem aff_bd {l : List Tp} {s : List Sk} {a : List ByteArray} (h8 : a.length ≤ 8) : (affN l s a).2 ≤ 2016000 ∧ 1 ≤ (affN l s a).2 := by
  unfold affN
  have h1 : 252000 * max a.length 1 ≤ 252000 * 8 := Nat.mul_le_mul_left _ (by omega)
  exact ⟨Nat.le_trans (lowN_le _ _).2 (by omega), lowN_pos _ _ (by omega)⟩
theorem lk_self {l : List Tp} (h : Dist l) {i : Nat} (hi : i < l.length) : lk l l[i].k = some i := by
  cases hl : lk l l[i].k with
  | none => have := lk_none l _ hl l[i] (List.getElem_mem hi); unfold eqB at this; simp at this
  | some j =>
    obtain ⟨hj, he⟩ := lk_some l _ j hl
    rw [h.1 j i hj hi he]
theorem want_zero {l : List Tp} {s : List Sk} {ts : List ByteArray} (h0 : forestE l = 0) (h1 : skE l ⟨#[]⟩ s = 0) (h2 : waE l ⟨#[]⟩ ts = 0) : wantE l s ts = 0 := by
  have h3 : withE l s = 0 := by unfold withE; rw [if_neg (by simpa using h0)]; exact h1
  unfold wantE; rw [h3]; simpa using h2
theorem has_no {ss : List ByteArray} {t : ByteArray} (h : has ss t = false) : ∀ y ∈ ss, y.data.toList ≠ t.data.toList := fun y hy e => by
  have : has ss t = true := by
    unfold has eqB
    exact List.any_eq_true.2 ⟨y, hy, by rw [Lib.toList_data, Lib.toList_data, e]; simp⟩
  rw [this] at h; cases h
def AddL (l : List Tp) (s : List Sk) (ts : List ByteArray) : Prop := ∀ k, k < ts.length → ∀ W : World, Calls Tryz.prog 12 #[.agg #[.int .i64 ((sumP l s ts k).1 : Nat), .int .i64 ((sumP l s ts k).2 : Nat)], .agg #[.int .i64 (((becS l s ts).getD k ⟨⟨#[]⟩, ⟨#[]⟩, 0, 0⟩).p), .int .i64 (((becS l s ts).getD k ⟨⟨#[]⟩, ⟨#[]⟩, 0, 0⟩).q)]] W fun e w' =>
  e = .returned (.tuple #[.agg #[.int .i64 ((sumP l s ts (k + 1)).1 : Nat), .int .i64 ((sumP l s ts (k + 1)).2 : Nat)], .int .i64 0]) ∧ Below W.heap.size W w'
theorem add_l {l : List Tp} {s : List Sk} {ts : List ByteArray} (hR : RightF l) (hok : ∀ x ∈ s, (lk l x.t).isSome = true ∧ 1 ≤ x.n ∧ x.n ≤ 100) (hto : ∀ x ∈ ts, (lk l x).isSome = true) (h8 : ts.length ≤ 8) : AddL l s ts := fun k hk W => by
  have h := sumP_next hR hok hto hk h8
  have e : (becS l s ts).getD k ⟨⟨#[]⟩, ⟨#[]⟩, 0, 0⟩ = becN l s ts[k] := by unfold becS; simp [List.getD, hk]
  have c := Frac.add_ok ((sumP l s ts k).1 : Nat) ((sumP l s ts k).2 : Nat) (becN l s ts[k]).p (becN l s ts[k]).q W
  rw [h] at c
  rw [e]
  exact c

set_option maxRecDepth 100000 in
set_option maxHeartbeats 16000000 in
theorem law_affinitygrows (a0 : Option Addr) (len0 cap0 : Nat) (z0 : List Int) (w : World) (w0 : IsRow .i64 w a0 len0 cap0 z0) :
    Calls Tryz.prog 3 #[.slice a0 len0 cap0] w fun e w' => e = .returned (.bool true) ∧ Below w.heap.size w w' := by
  have hlo := row_lo w0
  have sa := strd_new w.heap.size w0 (Nat.le_refl _) hlo
  have g0 : Below w.heap.size w (w.alloc (.cells #[.slice a0 len0 cap0, .int .i64 0] 25)) := (Below.refl _ _).alloc (Nat.le_refl _) _
  have SA := Lib.hid sa
  have G0 := Lib.hid g0
  generalize z0.take len0 = S at *
  clear w0 hlo sa g0
  have hc1 := rfC_le S 0
  have HF0 := Lib.hid (rfL_ok S 0)
  have RF1 := Lib.hid (fun B W (hW : StrD w.heap.size S W B 0) => rightforest_det w.heap.size S B 0 W hW (by omega))
  generalize rfL S 0 = l at *
  generalize rfC S 0 = c1 at *
  go_enter Tryz.func3, Tryz.ntmps3
  go_wp2_with fail
  refine (RF1.out _ _ SA.out).mono ?_
  rintro e w1 ⟨A, n, c, rfl, hl, hn, hnc, htl, hat, hgr, hs⟩
  have G1 := Lib.hid (G0.out.trans (hgr.toBelow (Nat.le_refl _) (by simp)))
  have HL := Lib.hid hl
  have T1 := Lib.hid htl
  have AT := Lib.hid (show AtT w.heap.size A l.length by rw [hl]; exact hat.atT (by simp))
  have S1 := Lib.hid (For.StrD.strm hs)
  have hz1 := G1.out.size
  clear hgr hs hl htl hat SA G0 RF1
  go_wp2_with fail
  refine (skills_any w.heap.size c1 _ S1.out (by omega)).mono ?_
  rintro e w2 ⟨A2, n2, c2, s, rfl, hl2, hn2, hnc2, hkl, hat2, hgr, hs⟩
  have G2 := Lib.hid (G1.out.trans (hgr.toBelow (Nat.le_refl _) hz1))
  have T2 := Lib.hid (T1.out.gr AT.out hgr)
  have S2 := Lib.hid hs
  have HL2 := Lib.hid hl2
  have KL2 := Lib.hid hkl
  have AT2 := Lib.hid (show AtT w.heap.size A2 s.length by rw [hl2]; exact hat2)
  have hz2 := G2.out.size
  clear hgr hs G1 T1 S1 hz1 hl2 hkl hat2
  go_wp2_with fail
  refine (wanted_any w.heap.size (c1 + 12) _ S2.out (by omega)).mono ?_
  rintro e w3 ⟨A3, n3, c3, ts, rfl, hl3, hn3, hnc3, hsl, hat3, hgr, hs⟩
  have G3 := Lib.hid (G2.out.trans (hgr.toBelow (Nat.le_refl _) hz2))
  have T3 := Lib.hid (T2.out.gr AT.out hgr)
  have KL3 := Lib.hid (KL2.out.gr AT2.out hgr)
  have SL3 := Lib.hid hsl
  have HL3 := Lib.hid hl3
  have hz3 := G3.out.size
  have AN2 : Hid ((A2 = none ∧ n2 = 0) ∨ ∃ g, A2 = some ⟨g, 0, none⟩) := Lib.hid (by
    rcases AT2.out with ⟨h, h'⟩ | ⟨g, h, _⟩
    · exact Or.inl ⟨h, by rw [← HL2.out]; exact h'⟩
    · exact Or.inr ⟨g, h⟩)
  have AN3 : Hid ((A3 = none ∧ n3 = 0) ∨ ∃ g, A3 = some ⟨g, 0, none⟩) := Lib.hid (by
    rcases hat3 with h | ⟨g, h, _⟩
    · exact Or.inl h
    · exact Or.inr ⟨g, h⟩)
  clear hgr hs G2 T2 S2 hz2 AT AT2 KL2 hl3 hsl hat3
  have XW : Hid (∀ W, Below w3.heap.size w3 W → TL W A l ∧ KL W A2 s ∧ SL W A3 ts) := Lib.hid fun W hW => ⟨T3.out.below hW, KL3.out.below hW, SL3.out.below hW⟩
  have DONE : Hid (∀ W, Below w3.heap.size w3 W → Below w.heap.size w W) := Lib.hid fun W hW => G3.out.trans (hW.mono hz3)
  have CT : Hid (∀ W : World, Calls Tryz.prog 9 #[] W fun e w' => e = .returned (.bool true) ∧ Below W.heap.size W w') := Lib.hid fun W => topicsk_any W
  obtain ⟨r1, hr1⟩ : ∃ r, skE l ⟨#[]⟩ s = r := ⟨_, rfl⟩
  obtain ⟨r2, hr2⟩ : ∃ r, waE l ⟨#[]⟩ ts = r := ⟨_, rfl⟩
  have RR1 := Lib.hid hr1
  have RR2 := Lib.hid hr2
  have C4 : Hid (∀ W, Below w3.heap.size w3 W → Calls Tryz.prog 7 #[.slice A n c, .slice A2 n2 c2] W fun e w' => e = .returned (.int .i64 r1) ∧ Below W.heap.size W w') := Lib.hid fun W hW => skillsfault_walk A n c l A2 n2 c2 s W HL.out (by omega) HF0.out (XW.out W hW).1 (XW.out W hW).2.1 HL2.out (by omega) r1 RR1
  have C5 : Hid (∀ W, Below w3.heap.size w3 W → Calls Tryz.prog 8 #[.slice A n c, .slice A3 n3 c3] W fun e w' => e = .returned (.int .i64 r2) ∧ Below W.heap.size W w') := Lib.hid fun W hW => wantedfault_walk A n c l A3 n3 c3 ts W HL.out (by omega) HF0.out (XW.out W hW).1 (XW.out W hW).2.2 HL3.out (by omega) r2 RR2
  clear hr1 hr2 T3 KL3 SL3
  go_wp2_with fail
  refine (C4.out _ (Below.refl _ _)).mono ?_; rintro e w4 ⟨rfl, hB4⟩
  have B4 := Lib.hid hB4
  clear hB4 C4
  by_cases h1 : r1 = 0
  · subst h1
    go_wp2_with fail
    refine (C5.out _ B4.out).mono ?_; rintro e w5 ⟨rfl, hB5⟩
    have B5 := Lib.hid (B4.out.trans (hB5.mono B4.out.size))
    clear hB5 B4 C5
    by_cases h2 : r2 = 0
    · subst h2
      have HR := Lib.hid (rightF HF0.out)
      have HOK := Lib.hid (skE_ok s _ RR1.out)
      have HTO := Lib.hid (waE_ok ts _ RR2.out)
      have hW0 := want_zero HF0.out RR1.out RR2.out
      have C1 : Hid (∀ W, Below w3.heap.size w3 W → Calls Tryz.prog 10 #[.slice A n c, .slice A2 n2 c2, .slice A3 n3 c3] W (AffRet l s ts 0 W)) := Lib.hid fun W hW => affinityf_walk A n c l A2 n2 c2 s A3 n3 c3 ts W HL.out (by omega) (XW.out W hW).1 (XW.out W hW).2.1 HL2.out (by omega) (XW.out W hW).2.2 HL3.out (by omega) 0 (Lib.hid hW0)
      have C2 : Hid (∀ W, Below w3.heap.size w3 W → Calls Tryz.prog 11 #[.slice A n c, .slice A2 n2 c2, .slice A3 n3 c3] W (BecRet l s ts 0 W)) := Lib.hid fun W hW => reasons_walk A n c l A2 n2 c2 s A3 n3 c3 ts W HL.out (by omega) (XW.out W hW).1 (XW.out W hW).2.1 HL2.out (by omega) (XW.out W hW).2.2 HL3.out (by omega) 0 (Lib.hid hW0)
      clear hW0
      have hab := aff_bd (l := l) (s := s) (a := ts) (by rw [HL3.out]; omega)
      have ha1 := aff_one HR.out HOK.out HTO.out
      have HGR := Lib.hid (fun (s2 : List Sk) (b : List ByteArray) (t : ByteArray) (ht : (lk l t).isSome = true) (hs : ∀ x ∈ s, x ∈ s2) (hm : (⟨t, 100⟩ : Sk) ∈ s2) (hp : (ts ++ [t]).Perm b) => aff_grows HR.out HOK.out HTO.out ht hs hm hp)
      have HMN := Lib.hid (fun h => aff_mean (l := l) (s := s) (a := ts) h)
      obtain ⟨p0, q0, hpq⟩ : ∃ p q, affN l s ts = (p, q) := ⟨_, _, rfl⟩
      rw [hpq] at hab ha1 HGR HMN
      simp only at hab ha1
      have hp01 : decide ((p0 : Int) < 0) = false := by simp
      have hp02 : decide (q0 < p0) = false := by simp; omega
      go_wp2_with fail
      refine (C1.out _ B5.out).mono ?_; rintro e w6 ⟨x, y, rfl, hq1, hB6⟩
      obtain ⟨hx, hy⟩ := hq1 rfl
      rw [hpq] at hx hy
      simp only at hx hy
      subst hx
      subst hy
      have B6 := Lib.hid (B5.out.trans (hB6.mono B5.out.size))
      have K6 := Lib.hid (Blk.new w6 37 #[.int .i64 p0, .int .i64 q0])
      have B6b := Lib.hid (B6.out.alloc B6.out.size (.cells #[.int .i64 p0, .int .i64 q0] 37))
      clear hB6 hq1 C1 B5 hpq
      go_wp2_with fail
      refine (C2.out _ B6b.out).mono ?_; rintro e w7 ⟨Ab, m, cb, bs, rfl, hbm, hbl, hq2, hB7⟩
      have hbs := hq2 rfl
      have hmn : m = n3 := by rw [← hbm, hbs, ← HL3.out]; unfold becS; rw [List.length_map]
      subst hmn
      have B7 := Lib.hid (B6b.out.trans (hB7.mono B6b.out.size))
      have K7 := Lib.hid (K6.out.below hB7 (by simp))
      have HBL := Lib.hid hbl
      have HBS := Lib.hid hbs
      have HBM := Lib.hid hbm
      have k0 : w7.cell? ⟨w6.heap.size, 0, none⟩ = some (.int .i64 p0) := K7.out.cell 0 _ rfl
      have k1 : w7.cell? ⟨w6.heap.size, 1, none⟩ = some (.int .i64 q0) := K7.out.cell 1 _ rfl
      have hk7 := K7.out.lt
      clear hB7 hbl hbs hbm hq2 C2 B6 B6b K6
      have HAL := Lib.hid (add_l HR.out HOK.out HTO.out (by rw [HL3.out]; omega))
      have SB0 := Lib.hid (Blk.new w7 37 #[.int .i64 0, .int .i64 1])
      have BZ0 := Lib.hid ((Below.refl w7.heap.size w7).alloc (Nat.le_refl _) (.cells #[.int .i64 0, .int .i64 1] 37))
      go_wp2_with fail
      clear k0 k1 hp01 hp02
      go_loopw [85] (fun i wr => ∃ j : Nat, j ≤ m ∧ i = .int .i64 j ∧ Hid (Blk wr w7.heap.size 37 #[.int .i64 ((sumP l s ts j).1 : Nat), .int .i64 ((sumP l s ts j).2 : Nat)]) ∧ Hid (Below w7.heap.size w7 wr)) (fun i _ => m - (intOf i).toNat)
      case atStart => exact ⟨0, Nat.zero_le _, rfl, Lib.hid (by unfold sumP sumK; simp only [List.take_zero, List.map_nil, List.sum_nil]; rw [low_zero]; exact SB0.out), BZ0⟩
      case round =>
        obtain ⟨j, hj, rfl, HSB, HBW⟩ := hrel
        rename World => wv
        have hzv := HBW.out.size
        have hsv := HSB.out.lt
        by_cases hlt : j < m
        · have hjl : j < bs.length := by rw [HBM.out]; exact hlt
          obtain ⟨gb, hAb, hgl, hcb⟩ := (HBL.out.below HBW.out) (by omega)
          subst hAb
          obtain ⟨d0, d1, d2, d3⟩ := hcb j hjl
          have HA1 := Lib.hid (HAL.out j (by rw [HL3.out]; exact hlt))
          have e1 : (becS l s ts).getD j ⟨⟨#[]⟩, ⟨#[]⟩, 0, 0⟩ = bs[j] := by rw [← HBS.out]; simp [List.getD, hjl]
          rw [e1] at HA1
          generalize bs[j] = x at *
          obtain ⟨x1, x2, x3, x4⟩ := x
          simp only at d0 d1 d2 d3 HA1
          obtain ⟨v1, hv1⟩ : ∃ v, (sumP l s ts (j + 1)).1 = v := ⟨_, rfl⟩
          obtain ⟨v2, hv2⟩ : ∃ v, (sumP l s ts (j + 1)).2 = v := ⟨_, rfl⟩
          rw [hv1, hv2] at HA1
          have HV := Lib.hid (And.intro hv1 hv2)
          clear hv1 hv2
          have s0 := HSB.out.cell 0 _ rfl
          have s1 := HSB.out.cell 1 _ rfl
          generalize ((sumP l s ts j).1 : Nat) = aa1 at *
          generalize ((sumP l s ts j).2 : Nat) = aa2 at *
          have KX := Lib.hid (Blk.new wv 44 #[.string x1, .string x2, .int .i64 x3, .int .i64 x4])
          have BX := Lib.hid (HBW.out.alloc hzv (.cells #[.string x1, .string x2, .int .i64 x3, .int .i64 x4] 44))
          have SX := Lib.hid (HSB.out.alloc (.cells #[.string x1, .string x2, .int .i64 x3, .int .i64 x4] 44))
          have a0 : (0 : Int) ≤ (j : Int) := by omega
          have a1 : (j : Int) < (m : Int) := by omega
          clear hcb e1 HSB HBW
          go_wp2_with fail
          refine (HA1.out _).mono ?_; rintro e w8 ⟨rfl, hB⟩
          have S8 := Lib.hid (SX.out.below hB (by simp; omega))
          have B8 := Lib.hid (BX.out.trans (hB.mono BX.out.size))
          have hz8 := B8.out.size
          have hs8 := S8.out.lt
          have f0 := S8.out.frozen 0
          have f1 := S8.out.frozen 1
          have t0 := S8.out.cell 0 _ rfl
          have t1 := S8.out.cell 1 _ rfl
          have S9 := Lib.hid (((S8.out.set_ 0 (.int .i64 v1)).set_ 1 (.int .i64 v2)).alloc (.cells #[.int .i64 v1, .int .i64 v2] 37))
          have B9 := Lib.hid (((B8.out.setCell (p := ⟨w7.heap.size, 0, none⟩) (Nat.le_refl _) (.int .i64 v1)).setCell (p := ⟨w7.heap.size, 1, none⟩) (Nat.le_refl _) (.int .i64 v2)).alloc (by simpa using hz8) (.cells #[.int .i64 v1, .int .i64 v2] 37))
          clear hB S8 B8 KX BX SX s0 s1 d0 d1 d2 d3
          go_wp2_with fail
          go_roundw
          case rel => exact ⟨j + 1, by omega, by go_num, Lib.hid (by rw [HV.out.1, HV.out.2]; exact S9.out), B9⟩
          case measure => simp [intOf]; omega
        · have hjm : j = m := by omega
          subst hjm
          have hsum : sumP l s ts j = lowN (sumK l s ts) 252000 := by unfold sumP; rw [List.take_of_length_le (by rw [HL3.out]; exact Nat.le_refl _)]
          have hsb := sumP_bd (l := l) (s := s) (ts := ts) j
          have hs1 := sumP_one (k := j) HR.out HOK.out HTO.out (by rw [HL3.out]; omega)
          rw [← hsum] at HMN
          obtain ⟨aa1, haa1⟩ : ∃ v, (sumP l s ts j).1 = v := ⟨_, rfl⟩
          obtain ⟨aa2, haa2⟩ : ∃ v, (sumP l s ts j).2 = v := ⟨_, rfl⟩
          rw [haa1, haa2] at HSB HMN
          rw [haa2] at hsb
          rw [haa1] at hs1
          have s0 := HSB.out.cell 0 _ rfl
          have s1 := HSB.out.cell 1 _ rfl
          have KV := Lib.hid (K7.out.below HBW.out hk7)
          have k0 : wv.cell? ⟨w6.heap.size, 0, none⟩ = some (.int .i64 p0) := KV.out.cell 0 _ rfl
          have k1 : wv.cell? ⟨w6.heap.size, 1, none⟩ = some (.int .i64 q0) := KV.out.cell 1 _ rfl
          have hkv := KV.out.lt
          have BV := Lib.hid (B7.out.trans (HBW.out.mono B7.out.size))
          have HNE : Hid (0 < j → ((aa1 : Int) * (q0 : Int) != (p0 : Int) * (j : Int) * (aa2 : Int)) = false) := Lib.hid (fun h => by
            have e := HMN.out (by rw [HL3.out]; exact h)
            rw [HL3.out] at e
            have e2 : (aa1 : Int) * (q0 : Int) = (p0 : Int) * (j : Int) * (aa2 : Int) := by
              rw [← Int.natCast_mul, ← Int.natCast_mul, ← Int.natCast_mul, e]
            rw [e2]; simp)
          have m1 : (aa1 : Int) * (q0 : Int) ≤ 4611686018427387904 := by
            have : aa1 * q0 ≤ 2016000 * 2016000 := Nat.mul_le_mul hs1 hab.1
            rw [← Int.natCast_mul]; omega
          have m2 : (0 : Int) ≤ (aa1 : Int) * (q0 : Int) := Int.mul_nonneg (by omega) (by omega)
          have m3 : (p0 : Int) * (j : Int) ≤ 4611686018427387904 := by
            have : p0 * j ≤ 2016000 * 8 := Nat.mul_le_mul (by omega) (by omega)
            rw [← Int.natCast_mul]; omega
          have m4 : (0 : Int) ≤ (p0 : Int) * (j : Int) := Int.mul_nonneg (by omega) (by omega)
          have m5 : (p0 : Int) * (j : Int) * (aa2 : Int) ≤ 4611686018427387904 := by
            have : p0 * j * aa2 ≤ 2016000 * 8 * 252000 := Nat.mul_le_mul (Nat.mul_le_mul (by omega) (by omega)) hsb.1
            rw [← Int.natCast_mul, ← Int.natCast_mul]; omega
          have m6 : (0 : Int) ≤ (p0 : Int) * (j : Int) * (aa2 : Int) := Int.mul_nonneg m4 (by omega)
          clear hsum haa1 haa2 HMN HSB HBW K7 hs1 HAL HBL HBS HBM
          have h8 : ((j : Int) == 8) = false := by rw [beq_eq_false_iff_ne]; omega
          rcases Nat.eq_zero_or_pos j with h0 | h0
          · have hgt : decide (0 < j) = false := by simp; omega
            have HNE2 := HNE
            clear HNE h0
            go_wp2_with fail
            go_loopw [121] (fun i wr => ∃ k : Nat, k ≤ n ∧ i = .int .i64 k ∧ Hid (Below wv.heap.size wv wr)) (fun i _ => n - (intOf i).toNat)
            case atStart => exact ⟨0, Nat.zero_le _, rfl, Lib.hid (Below.refl _ _)⟩
            case round =>
              obtain ⟨k, hk, rfl, HBK⟩ := hrel
              rename World => wk
              have hzk := HBK.out.size
              have BK := Lib.hid (BV.out.trans (HBK.out.mono BV.out.size))
              by_cases hltk : k < n
              · have hkl : k < l.length := by rw [HL.out]; exact hltk
                obtain ⟨gf, hA1, hgl, hc⟩ := (XW.out _ BK.out).1.2 (by omega)
                obtain ⟨c0, c1'⟩ := hc k hkl
                have HIN := Lib.hid (show (lk l l[k].k).isSome = true by rw [lk_self HR.out.dist hkl]; rfl)
                have HKS := Lib.hid ((XW.out _ BK.out).1.1 _ (List.getElem_mem hkl)).1
                generalize l[k] = x at *
                obtain ⟨xk, xa⟩ := x
                simp only at c0 c1' HIN HKS
                have KT := Lib.hid (Blk.new wk 47 #[.string xk, .string xa])
                have BT := Lib.hid (HBK.out.alloc hzk (.cells #[.string xk, .string xa] 47))
                have a0 : (0 : Int) ≤ (k : Int) := by omega
                have a1 : (k : Int) < (n : Int) := by omega
                have BT3 := Lib.hid (BV.out.trans (BT.out.mono BV.out.size))
                obtain ⟨b1, hb1⟩ : ∃ b, hasT s xk = b := ⟨_, rfl⟩
                obtain ⟨b2, hb2⟩ : ∃ b, has ts xk = b := ⟨_, rfl⟩
                have HB1 := Lib.hid hb1
                have HB2 := Lib.hid hb2
                have CK := Lib.hid (containsk_walk wk.heap.size xk A2 n2 c2 s _ (KT.out.cell 0 _ rfl) KT.out.lt (XW.out _ BT3.out).2.1 HL2.out (by omega) b1 HB1)
                have CS : Hid (∀ W, Below w3.heap.size w3 W → Calls Tryz.prog 15 #[.slice A3 j c3, .string xk] W fun e w' => e = .returned (.bool b2) ∧ w' = W) := Lib.hid fun W hW => by
                  have h := hasS_walk A3 c3 ts xk W (XW.out W hW).2.2 (by rw [HL3.out]; omega)
                  rw [HL3.out, hb2] at h
                  exact h
                subst hA1
                clear hc hb1 hb2
                go_wp2_with fail
                refine (CK.out).mono ?_; rintro e wz ⟨rfl, hB⟩
                have BZ := Lib.hid (BT3.out.trans (hB.mono BT3.out.size))
                have BZV := Lib.hid (BT.out.trans (hB.mono BT.out.size))
                have KZ := Lib.hid (KT.out.below hB (by simp))
                have t0 : wz.cell? ⟨wk.heap.size, 0, none⟩ = some (.string xk) := KZ.out.cell 0 _ rfl
                have hkz := KZ.out.lt
                have hzz := BZV.out.size
                clear hB CK KT BT BT3 c0 c1'
                cases b1
                · go_wp2_with fail
                  refine (CS.out _ BZ.out).mono ?_; rintro e wz2 ⟨rfl, rfl⟩
                  rename World => wz
                  cases b2
                  · have CKL : Hid (∀ W, Below w3.heap.size w3 W → Calls Tryz.prog 16 #[.slice A2 n2 c2] W fun e w' => ∃ (A' : Option Addr) (c' : Nat), e = .returned (.slice A' n2 c') ∧ w'.ownsRow W.heap.size 50 2 (.slice A' n2 c') n2 (flatS s) ∧ Below W.heap.size W w') := Lib.hid fun W hW => clonek_any A2 n2 c2 s W (XW.out W hW).2.1 HL2.out (by omega) AN2.out
                    have CSL : Hid (∀ W, Below w3.heap.size w3 W → Calls Tryz.prog 19 #[.slice A3 j c3] W fun e w' => ∃ (A' : Option Addr) (c' : Nat), e = .returned (.slice A' j c') ∧ ((A' = none ∧ j = 0) ∨ ∃ g, A' = some ⟨g, 0, none⟩) ∧ w'.ownsRow W.heap.size 9 1 (.slice A' j c') j (ts.map Value.string) ∧ Below W.heap.size W w') := Lib.hid fun W hW => clones_any A3 j c3 ts W (XW.out W hW).2.2 HL3.out (by omega) AN3.out
                    obtain ⟨i0, hi0, hz0, hz1', hz2⟩ := info_parts infoK
                    have HI := Lib.hid hi0
                    have Z0 := Lib.hid hz0
                    have Z1 := Lib.hid hz1'
                    have Z2 := Lib.hid hz2
                    obtain ⟨i1, hi0b, hz0b, hz1b, hz2b⟩ := info_parts infoS
                    have HIb := Lib.hid hi0b
                    have Z0b := Lib.hid hz0b
                    have Z1b := Lib.hid hz1b
                    have Z2b := Lib.hid hz2b
                    clear hi0 hz0 hz1' hz2 hi0b hz0b hz1b hz2b CS
                    go_wp2_with fail
                    go_region_law ((first
                      | (go_simp; go_at_call 16
                         refine (CKL.out _ BZ.out.drew).mono ?_
                         rintro e w8 ⟨A6, c6, rfl, ho, hb⟩
                         have O8 := Lib.hid (own_low (base := wz.heap.size) ho (by simp))
                         have Z8 : Hid (Below wz.heap.size wz w8) := Lib.hid ((Below.refl _ _).drew.trans (hb.mono (by simp)))
                         have z8 := Z8.out.size
                         have t8 : w8.cell? ⟨wk.heap.size, 0, none⟩ = some (.string xk) := (Z8.out.cell (p := ⟨wk.heap.size, 0, none⟩) hkz).trans t0
                         clear ho hb)
                      | (go_simp; go_at_call 16
                         refine (CKL.out _ (BZ.out.drew.alloc (by have := BZ.out.size; simp; omega) _)).mono ?_
                         rintro e w8 ⟨A6, c6, rfl, ho, hb⟩
                         have O8 := Lib.hid (own_low (base := wz.heap.size) ho (by simp))
                         have Z8 : Hid (Below wz.heap.size wz w8) := Lib.hid (((Below.refl _ _).drew.alloc (by simp) _).trans (hb.mono (by simp)))
                         have z8 := Z8.out.size
                         have KN := Lib.hid ((Blk.new wz.drew 50 #[.string xk, .int .i64 100]).below hb (by simp))
                         clear ho hb)
                      | (refine step_append_lies _ (by rfl) _ _ _ (by rfl) wz.heap.size 50 i0 _ 2 24 Tryz.underlying28 HI.out Z0.out Z1.out Z2.out rfl (by omega) (.slice A6 n2 c6) n2 (flatS s) (by rfl) (O8.out.alloc _)
                           ⟨w8.heap.size, 0, none⟩ 1 1 [.string xk, .int .i64 100] (by rfl) (by rfl) (World.news_of_block (cs := #[.string xk, .int .i64 100]) (t := 50) (fr := (0, 0)) (heap_alloc_new w8 _)) (by simp [Value.oneCell'])
                           (by omega) (by unfold maxLen; omega) (by omega) (by simp; omega) (w8.heap.size + 1) (by simp) ?_
                         intro gg cap' w9 hown hgrow hat hgl
                         have O9 := Lib.hid (show w9.ownsRow wz.heap.size 50 2 _ (n2 + 1) (flatS (s ++ [⟨xk, 100⟩])) by rw [flatS_snoc]; exact hown)
                         have Z9 : Hid (Below wz.heap.size wz w9) := Lib.hid ((Z8.out.alloc z8 (.cells #[.string xk, .int .i64 100] 50)).trans (grown_below hgrow (fun g e => by have := (O8.out.lt g e).1; omega) (by simp; omega)))
                         clear hown hgrow hat hgl)
                      | (refine step_append_lies _ (by rfl) _ _ _ (by rfl) wz.heap.size 50 i0 _ 2 24 Tryz.underlying28 HI.out Z0.out Z1.out Z2.out rfl (by omega) (.slice A6 n2 c6) n2 (flatS s) (by rfl) O8.out
                           ⟨wz.heap.size, 0, none⟩ 1 1 [.string xk, .int .i64 100] (by rfl) (by rfl) (World.news_of_block (cs := #[.string xk, .int .i64 100]) (t := 50) (fr := (0, 0)) KN.out) (by simp [Value.oneCell'])
                           (by omega) (by unfold maxLen; omega) (by omega) z8 w8.heap.size rfl ?_
                         intro gg cap' w9 hown hgrow hat hgl
                         have O9 := Lib.hid (show w9.ownsRow wz.heap.size 50 2 _ (n2 + 1) (flatS (s ++ [⟨xk, 100⟩])) by rw [flatS_snoc]; exact hown)
                         have Z9 : Hid (Below wz.heap.size wz w9) := Lib.hid (Z8.out.trans (grown_below hgrow (fun g e => by have := (O8.out.lt g e).1; omega) z8))
                         clear hown hgrow hat hgl)))
                    all_goals
                      have hg9 := (O9.out.lt gg rfl).1
                      have SK9 := Lib.hid (sortk_any wz.heap.size gg (n2 + 1) cap' (s ++ [⟨xk, 100⟩]) w9 (by rw [List.length_append, HL2.out]; rfl) (by omega) (snocS (XW.out _ BZ.out).2.1.1 HKS.out (show (0 : Int) ≤ 100 ∧ (100 : Int) ≤ 101 by decide)) O9.out hg9)
                      have BV9 := Lib.hid (BZV.out.trans (Z9.out.mono BZV.out.size))
                      go_wp2_with fail
                      refine (SK9.out).mono ?_; rintro e w10 ⟨rfl, s2, hsrt, hk2, hB⟩
                      have Z10 : Hid (Below wz.heap.size wz w10) := Lib.hid (Z9.out.trans (hB.mono (Nat.le_refl _)))
                      have B10 := Lib.hid (BZ.out.trans (Z10.out.mono BZ.out.size))
                      have HSR := Lib.hid hsrt
                      have HK2 := Lib.hid hk2
                      have z10 := Z10.out.size
                      have y0 : w10.cell? ⟨wk.heap.size, 0, none⟩ = some (.string xk) := (Z10.out.cell (p := ⟨wk.heap.size, 0, none⟩) hkz).trans t0
                      have hk10 : wk.heap.size < w10.heap.size := by omega
                      have b10 := B10.out.size
                      clear hB hsrt hk2 SK9 O9 Z9 BV9
                      go_wp2_with fail
                      go_region_law ((first
                        | (go_simp; go_at_call 19
                           refine (CSL.out _ B10.out.drew).mono ?_
                           rintro e v8 ⟨A7, c7, rfl, _, ho, hb⟩
                           have P8 := Lib.hid (own_low (base := w10.heap.size) ho (by simp))
                           have Y8 : Hid (Below w10.heap.size w10 v8) := Lib.hid ((Below.refl _ _).drew.trans (hb.mono (by simp)))
                           have y8 := Y8.out.size
                           have x8 : v8.cell? ⟨wk.heap.size, 0, none⟩ = some (.string xk) := (Y8.out.cell (p := ⟨wk.heap.size, 0, none⟩) hk10).trans y0
                           clear ho hb)
                        | (go_simp; go_at_call 19
                           refine (CSL.out _ (B10.out.drew.alloc (by simp; omega) _)).mono ?_
                           rintro e v8 ⟨A7, c7, rfl, _, ho, hb⟩
                           have P8 := Lib.hid (own_low (base := w10.heap.size) ho (by simp))
                           have Y8 : Hid (Below w10.heap.size w10 v8) := Lib.hid (((Below.refl _ _).drew.alloc (by simp) _).trans (hb.mono (by simp)))
                           have y8 := Y8.out.size
                           have KN2 := Lib.hid ((Blk.new w10.drew 9 #[.string xk]).below hb (by simp))
                           clear ho hb)
                        | (refine step_append_lies _ (by rfl) _ _ _ (by rfl) w10.heap.size 9 i1 _ 1 16 Tryz.underlying30 HIb.out Z0b.out Z1b.out Z2b.out rfl (by omega) (.slice A7 j c7) j (ts.map Value.string) (by rfl) (P8.out.alloc _)
                             ⟨v8.heap.size, 0, none⟩ 1 1 [.string xk] (by rfl) (by rfl) (World.news_of_block (cs := #[.string xk]) (t := 9) (fr := (0, 0)) (heap_alloc_new v8 _)) (by simp [Value.oneCell'])
                             (by omega) (by unfold maxLen; omega) (by omega) (by simp; omega) (v8.heap.size + 1) (by simp) ?_
                           intro g2 cap2 v9 hown hgrow hat hgl
                           have P9 := Lib.hid (show v9.ownsRow w10.heap.size 9 1 _ (j + 1) ((ts ++ [xk]).map Value.string) by rw [List.map_append]; exact hown)
                           have Y9 : Hid (Below w10.heap.size w10 v9) := Lib.hid ((Y8.out.alloc y8 (.cells #[.string xk] 9)).trans (grown_below hgrow (fun g e => by have := (P8.out.lt g e).1; omega) (by simp; omega)))
                           clear hown hgrow hat hgl)
                        | (refine step_append_lies _ (by rfl) _ _ _ (by rfl) w10.heap.size 9 i1 _ 1 16 Tryz.underlying30 HIb.out Z0b.out Z1b.out Z2b.out rfl (by omega) (.slice A7 j c7) j (ts.map Value.string) (by rfl) P8.out
                             ⟨w10.heap.size, 0, none⟩ 1 1 [.string xk] (by rfl) (by rfl) (World.news_of_block (cs := #[.string xk]) (t := 9) (fr := (0, 0)) KN2.out) (by simp [Value.oneCell'])
                             (by omega) (by unfold maxLen; omega) (by omega) y8 v8.heap.size rfl ?_
                           intro g2 cap2 v9 hown hgrow hat hgl
                           have P9 := Lib.hid (show v9.ownsRow w10.heap.size 9 1 _ (j + 1) ((ts ++ [xk]).map Value.string) by rw [List.map_append]; exact hown)
                           have Y9 : Hid (Below w10.heap.size w10 v9) := Lib.hid (Y8.out.trans (grown_below hgrow (fun g e => by have := (P8.out.lt g e).1; omega) y8))
                           clear hown hgrow hat hgl)))
                      all_goals
                        have hg92 := (P9.out.lt g2 rfl).1
                        have TS9 := Lib.hid (sorts_any w10.heap.size g2 (j + 1) cap2 (ts ++ [xk]) v9 (by rw [List.length_append, HL3.out]; rfl) (by omega) (fun y hy => by
                          rcases List.mem_append.1 hy with h | h
                          · exact (XW.out _ BZ.out).2.2.1 y h
                          · simp at h; subst h; exact HKS.out) P9.out hg92)
                        go_wp2_with fail
                        refine (TS9.out).mono ?_; rintro e v10 ⟨rfl, ts2, hsrt2, hs2, hB⟩
                        have Y10 : Hid (Below w10.heap.size w10 v10) := Lib.hid (Y9.out.trans hB)
                        have B11 := Lib.hid (B10.out.trans (Y10.out.mono B10.out.size))
                        have K11 := Lib.hid (HK2.out.below Y10.out)
                        have hl2' : s2.length = n2 + 1 := by rw [HSR.out.1.length_eq, List.length_append, HL2.out]; rfl
                        have hl3' : ts2.length = j + 1 := by rw [hsrt2.1.length_eq, List.length_append, HL3.out]; rfl
                        have hwant := grow_checks HF0.out RR1.out RR2.out HIN.out (hasT_no HB1.out) (has_no HB2.out) HSR.out.1 HSR.out.2 hsrt2.1 hsrt2.2
                        have hgrw := HGR.out s2 ts2 xk HIN.out (fun x hx => HSR.out.1.mem_iff.2 (by simp [hx])) (HSR.out.1.mem_iff.2 (by simp)) hsrt2.1.symm
                        have hok2 := wantE_ok hwant
                        have hone := aff_one HR.out (skE_ok s2 _ hok2.2.1) (waE_ok ts2 _ hok2.2.2)
                        have hbd := aff_bd (l := l) (s := s2) (a := ts2) (by rw [hl3']; omega)
                        have CA := Lib.hid (affinityf_walk (some ⟨gf, 0, none⟩) n c l (some ⟨gg, 0, none⟩) (n2 + 1) cap' s2 (some ⟨g2, 0, none⟩) (j + 1) cap2 ts2 v10 HL.out (by omega) (XW.out _ B11.out).1 K11.out hl2' (by omega) hs2 hl3' (by omega) 0 (Lib.hid hwant))
                        obtain ⟨p1, q1, hpq1⟩ : ∃ p q, affN l s2 ts2 = (p, q) := ⟨_, _, rfl⟩
                        rw [hpq1] at hgrw hone hbd
                        simp only at hgrw hone hbd
                        have HPQ1 := Lib.hid hpq1
                        have b11 := B11.out.size
                        have ZV := Lib.hid (BZV.out.trans ((Z10.out.trans (Y10.out.mono z10)).mono BZV.out.size))
                        clear hB hsrt2 hs2 hwant hok2 hpq1 TS9 P9 Y9 hl2' hl3' K11
                        go_wp2_with fail
                        refine (CA.out).mono ?_; rintro e v11 ⟨x, y, rfl, hq1, hB⟩
                        obtain ⟨hx, hy⟩ := hq1 rfl
                        rw [HPQ1.out] at hx hy
                        simp only at hx hy
                        subst hx
                        subst hy
                        have ZV11 := Lib.hid (ZV.out.trans (hB.mono ZV.out.size))
                        have hz11 := ZV11.out.size
                        have KC := Lib.hid (Blk.new v11 37 #[.int .i64 p1, .int .i64 q1])
                        have KA := Lib.hid ((KV.out.below ZV11.out hkv).alloc (.cells #[.int .i64 p1, .int .i64 q1] 37))
                        have BC := Lib.hid (ZV11.out.alloc hz11 (.cells #[.int .i64 p1, .int .i64 q1] 37))
                        have f0 : (v11.alloc (.cells #[.int .i64 p1, .int .i64 q1] 37)).cell? ⟨w6.heap.size, 0, none⟩ = some (.int .i64 p0) := KA.out.cell 0 _ rfl
                        have f1 : (v11.alloc (.cells #[.int .i64 p1, .int .i64 q1] 37)).cell? ⟨w6.heap.size, 1, none⟩ = some (.int .i64 q0) := KA.out.cell 1 _ rfl
                        have f2 : (v11.alloc (.cells #[.int .i64 p1, .int .i64 q1] 37)).cell? ⟨v11.heap.size, 0, none⟩ = some (.int .i64 p1) := KC.out.cell 0 _ rfl
                        have f3 : (v11.alloc (.cells #[.int .i64 p1, .int .i64 q1] 37)).cell? ⟨v11.heap.size, 1, none⟩ = some (.int .i64 q1) := KC.out.cell 1 _ rfl
                        have e1 : (p1 : Int) * (q0 : Int) ≤ 4611686018427387904 := by
                          have : p1 * q0 ≤ 2016000 * 2016000 := Nat.mul_le_mul (by omega) hab.1
                          rw [← Int.natCast_mul]; omega
                        have e2 : (0 : Int) ≤ (p1 : Int) * (q0 : Int) := Int.mul_nonneg (by omega) (by omega)
                        have e3 : (p0 : Int) * (q1 : Int) ≤ 4611686018427387904 := by
                          have : p0 * q1 ≤ 2016000 * 2016000 := Nat.mul_le_mul (by omega) hbd.1
                          rw [← Int.natCast_mul]; omega
                        have e4 : (0 : Int) ≤ (p0 : Int) * (q1 : Int) := Int.mul_nonneg (by omega) (by omega)
                        have e5 : decide ((p1 : Int) * (q0 : Int) < (p0 : Int) * (q1 : Int)) = false := by
                          rw [decide_eq_false_iff_not, ← Int.natCast_mul, ← Int.natCast_mul]; omega
                        have e6 : (p0 : Int) * (q1 : Int) ≤ (p1 : Int) * (q0 : Int) := by rw [← Int.natCast_mul, ← Int.natCast_mul]; omega
                        clear hB hq1 CA ZV ZV11
                        go_wp2_with fail
                        go_roundw
                        case rel => exact ⟨k + 1, by omega, by go_num, BC⟩
                        case measure => simp [intOf]; omega
                  · go_wp2_with fail
                    go_roundw
                    case rel => exact ⟨k + 1, by omega, by go_num, BZV⟩
                    case measure => simp [intOf]; omega
                · go_wp2_with fail
                  go_roundw
                  case rel => exact ⟨k + 1, by omega, by go_num, BZV⟩
                  case measure => simp [intOf]; omega
              · have hkn : k = n := by omega
                subst hkn
                go_wp2_with fail
                refine (CT.out _).mono ?_; rintro e wa ⟨rfl, hB⟩
                have NN := Lib.hid (BK.out.trans (hB.mono BK.out.size))
                clear hB
                go_wp2_with fail
                go_ret
                exact ⟨rfl, DONE.out _ NN.out⟩
          · have hgt : decide (0 < j) = true := by simp; omega
            have hne := HNE.out h0
            clear HNE h0
            go_wp2_with fail
            go_loopw [121] (fun i wr => ∃ k : Nat, k ≤ n ∧ i = .int .i64 k ∧ Hid (Below wv.heap.size wv wr)) (fun i _ => n - (intOf i).toNat)
            case atStart => exact ⟨0, Nat.zero_le _, rfl, Lib.hid (Below.refl _ _)⟩
            case round =>
              obtain ⟨k, hk, rfl, HBK⟩ := hrel
              rename World => wk
              have hzk := HBK.out.size
              have BK := Lib.hid (BV.out.trans (HBK.out.mono BV.out.size))
              by_cases hltk : k < n
              · have hkl : k < l.length := by rw [HL.out]; exact hltk
                obtain ⟨gf, hA1, hgl, hc⟩ := (XW.out _ BK.out).1.2 (by omega)
                obtain ⟨c0, c1'⟩ := hc k hkl
                have HIN := Lib.hid (show (lk l l[k].k).isSome = true by rw [lk_self HR.out.dist hkl]; rfl)
                have HKS := Lib.hid ((XW.out _ BK.out).1.1 _ (List.getElem_mem hkl)).1
                generalize l[k] = x at *
                obtain ⟨xk, xa⟩ := x
                simp only at c0 c1' HIN HKS
                have KT := Lib.hid (Blk.new wk 47 #[.string xk, .string xa])
                have BT := Lib.hid (HBK.out.alloc hzk (.cells #[.string xk, .string xa] 47))
                have a0 : (0 : Int) ≤ (k : Int) := by omega
                have a1 : (k : Int) < (n : Int) := by omega
                have BT3 := Lib.hid (BV.out.trans (BT.out.mono BV.out.size))
                obtain ⟨b1, hb1⟩ : ∃ b, hasT s xk = b := ⟨_, rfl⟩
                obtain ⟨b2, hb2⟩ : ∃ b, has ts xk = b := ⟨_, rfl⟩
                have HB1 := Lib.hid hb1
                have HB2 := Lib.hid hb2
                have CK := Lib.hid (containsk_walk wk.heap.size xk A2 n2 c2 s _ (KT.out.cell 0 _ rfl) KT.out.lt (XW.out _ BT3.out).2.1 HL2.out (by omega) b1 HB1)
                have CS : Hid (∀ W, Below w3.heap.size w3 W → Calls Tryz.prog 15 #[.slice A3 j c3, .string xk] W fun e w' => e = .returned (.bool b2) ∧ w' = W) := Lib.hid fun W hW => by
                  have h := hasS_walk A3 c3 ts xk W (XW.out W hW).2.2 (by rw [HL3.out]; omega)
                  rw [HL3.out, hb2] at h
                  exact h
                subst hA1
                clear hc hb1 hb2
                go_wp2_with fail
                refine (CK.out).mono ?_; rintro e wz ⟨rfl, hB⟩
                have BZ := Lib.hid (BT3.out.trans (hB.mono BT3.out.size))
                have BZV := Lib.hid (BT.out.trans (hB.mono BT.out.size))
                have KZ := Lib.hid (KT.out.below hB (by simp))
                have t0 : wz.cell? ⟨wk.heap.size, 0, none⟩ = some (.string xk) := KZ.out.cell 0 _ rfl
                have hkz := KZ.out.lt
                have hzz := BZV.out.size
                clear hB CK KT BT BT3 c0 c1'
                cases b1
                · go_wp2_with fail
                  refine (CS.out _ BZ.out).mono ?_; rintro e wz2 ⟨rfl, rfl⟩
                  rename World => wz
                  cases b2
                  · have CKL : Hid (∀ W, Below w3.heap.size w3 W → Calls Tryz.prog 16 #[.slice A2 n2 c2] W fun e w' => ∃ (A' : Option Addr) (c' : Nat), e = .returned (.slice A' n2 c') ∧ w'.ownsRow W.heap.size 50 2 (.slice A' n2 c') n2 (flatS s) ∧ Below W.heap.size W w') := Lib.hid fun W hW => clonek_any A2 n2 c2 s W (XW.out W hW).2.1 HL2.out (by omega) AN2.out
                    have CSL : Hid (∀ W, Below w3.heap.size w3 W → Calls Tryz.prog 19 #[.slice A3 j c3] W fun e w' => ∃ (A' : Option Addr) (c' : Nat), e = .returned (.slice A' j c') ∧ ((A' = none ∧ j = 0) ∨ ∃ g, A' = some ⟨g, 0, none⟩) ∧ w'.ownsRow W.heap.size 9 1 (.slice A' j c') j (ts.map Value.string) ∧ Below W.heap.size W w') := Lib.hid fun W hW => clones_any A3 j c3 ts W (XW.out W hW).2.2 HL3.out (by omega) AN3.out
                    obtain ⟨i0, hi0, hz0, hz1', hz2⟩ := info_parts infoK
                    have HI := Lib.hid hi0
                    have Z0 := Lib.hid hz0
                    have Z1 := Lib.hid hz1'
                    have Z2 := Lib.hid hz2
                    obtain ⟨i1, hi0b, hz0b, hz1b, hz2b⟩ := info_parts infoS
                    have HIb := Lib.hid hi0b
                    have Z0b := Lib.hid hz0b
                    have Z1b := Lib.hid hz1b
                    have Z2b := Lib.hid hz2b
                    clear hi0 hz0 hz1' hz2 hi0b hz0b hz1b hz2b CS
                    go_wp2_with fail
                    go_region_law ((first
                      | (go_simp; go_at_call 16
                         refine (CKL.out _ BZ.out.drew).mono ?_
                         rintro e w8 ⟨A6, c6, rfl, ho, hb⟩
                         have O8 := Lib.hid (own_low (base := wz.heap.size) ho (by simp))
                         have Z8 : Hid (Below wz.heap.size wz w8) := Lib.hid ((Below.refl _ _).drew.trans (hb.mono (by simp)))
                         have z8 := Z8.out.size
                         have t8 : w8.cell? ⟨wk.heap.size, 0, none⟩ = some (.string xk) := (Z8.out.cell (p := ⟨wk.heap.size, 0, none⟩) hkz).trans t0
                         clear ho hb)
                      | (go_simp; go_at_call 16
                         refine (CKL.out _ (BZ.out.drew.alloc (by have := BZ.out.size; simp; omega) _)).mono ?_
                         rintro e w8 ⟨A6, c6, rfl, ho, hb⟩
                         have O8 := Lib.hid (own_low (base := wz.heap.size) ho (by simp))
                         have Z8 : Hid (Below wz.heap.size wz w8) := Lib.hid (((Below.refl _ _).drew.alloc (by simp) _).trans (hb.mono (by simp)))
                         have z8 := Z8.out.size
                         have KN := Lib.hid ((Blk.new wz.drew 50 #[.string xk, .int .i64 100]).below hb (by simp))
                         clear ho hb)
                      | (refine step_append_lies _ (by rfl) _ _ _ (by rfl) wz.heap.size 50 i0 _ 2 24 Tryz.underlying28 HI.out Z0.out Z1.out Z2.out rfl (by omega) (.slice A6 n2 c6) n2 (flatS s) (by rfl) (O8.out.alloc _)
                           ⟨w8.heap.size, 0, none⟩ 1 1 [.string xk, .int .i64 100] (by rfl) (by rfl) (World.news_of_block (cs := #[.string xk, .int .i64 100]) (t := 50) (fr := (0, 0)) (heap_alloc_new w8 _)) (by simp [Value.oneCell'])
                           (by omega) (by unfold maxLen; omega) (by omega) (by simp; omega) (w8.heap.size + 1) (by simp) ?_
                         intro gg cap' w9 hown hgrow hat hgl
                         have O9 := Lib.hid (show w9.ownsRow wz.heap.size 50 2 _ (n2 + 1) (flatS (s ++ [⟨xk, 100⟩])) by rw [flatS_snoc]; exact hown)
                         have Z9 : Hid (Below wz.heap.size wz w9) := Lib.hid ((Z8.out.alloc z8 (.cells #[.string xk, .int .i64 100] 50)).trans (grown_below hgrow (fun g e => by have := (O8.out.lt g e).1; omega) (by simp; omega)))
                         clear hown hgrow hat hgl)
                      | (refine step_append_lies _ (by rfl) _ _ _ (by rfl) wz.heap.size 50 i0 _ 2 24 Tryz.underlying28 HI.out Z0.out Z1.out Z2.out rfl (by omega) (.slice A6 n2 c6) n2 (flatS s) (by rfl) O8.out
                           ⟨wz.heap.size, 0, none⟩ 1 1 [.string xk, .int .i64 100] (by rfl) (by rfl) (World.news_of_block (cs := #[.string xk, .int .i64 100]) (t := 50) (fr := (0, 0)) KN.out) (by simp [Value.oneCell'])
                           (by omega) (by unfold maxLen; omega) (by omega) z8 w8.heap.size rfl ?_
                         intro gg cap' w9 hown hgrow hat hgl
                         have O9 := Lib.hid (show w9.ownsRow wz.heap.size 50 2 _ (n2 + 1) (flatS (s ++ [⟨xk, 100⟩])) by rw [flatS_snoc]; exact hown)
                         have Z9 : Hid (Below wz.heap.size wz w9) := Lib.hid (Z8.out.trans (grown_below hgrow (fun g e => by have := (O8.out.lt g e).1; omega) z8))
                         clear hown hgrow hat hgl)))
                    all_goals
                      have hg9 := (O9.out.lt gg rfl).1
                      have SK9 := Lib.hid (sortk_any wz.heap.size gg (n2 + 1) cap' (s ++ [⟨xk, 100⟩]) w9 (by rw [List.length_append, HL2.out]; rfl) (by omega) (snocS (XW.out _ BZ.out).2.1.1 HKS.out (show (0 : Int) ≤ 100 ∧ (100 : Int) ≤ 101 by decide)) O9.out hg9)
                      have BV9 := Lib.hid (BZV.out.trans (Z9.out.mono BZV.out.size))
                      go_wp2_with fail
                      refine (SK9.out).mono ?_; rintro e w10 ⟨rfl, s2, hsrt, hk2, hB⟩
                      have Z10 : Hid (Below wz.heap.size wz w10) := Lib.hid (Z9.out.trans (hB.mono (Nat.le_refl _)))
                      have B10 := Lib.hid (BZ.out.trans (Z10.out.mono BZ.out.size))
                      have HSR := Lib.hid hsrt
                      have HK2 := Lib.hid hk2
                      have z10 := Z10.out.size
                      have y0 : w10.cell? ⟨wk.heap.size, 0, none⟩ = some (.string xk) := (Z10.out.cell (p := ⟨wk.heap.size, 0, none⟩) hkz).trans t0
                      have hk10 : wk.heap.size < w10.heap.size := by omega
                      have b10 := B10.out.size
                      clear hB hsrt hk2 SK9 O9 Z9 BV9
                      go_wp2_with fail
                      go_region_law ((first
                        | (go_simp; go_at_call 19
                           refine (CSL.out _ B10.out.drew).mono ?_
                           rintro e v8 ⟨A7, c7, rfl, _, ho, hb⟩
                           have P8 := Lib.hid (own_low (base := w10.heap.size) ho (by simp))
                           have Y8 : Hid (Below w10.heap.size w10 v8) := Lib.hid ((Below.refl _ _).drew.trans (hb.mono (by simp)))
                           have y8 := Y8.out.size
                           have x8 : v8.cell? ⟨wk.heap.size, 0, none⟩ = some (.string xk) := (Y8.out.cell (p := ⟨wk.heap.size, 0, none⟩) hk10).trans y0
                           clear ho hb)
                        | (go_simp; go_at_call 19
                           refine (CSL.out _ (B10.out.drew.alloc (by simp; omega) _)).mono ?_
                           rintro e v8 ⟨A7, c7, rfl, _, ho, hb⟩
                           have P8 := Lib.hid (own_low (base := w10.heap.size) ho (by simp))
                           have Y8 : Hid (Below w10.heap.size w10 v8) := Lib.hid (((Below.refl _ _).drew.alloc (by simp) _).trans (hb.mono (by simp)))
                           have y8 := Y8.out.size
                           have KN2 := Lib.hid ((Blk.new w10.drew 9 #[.string xk]).below hb (by simp))
                           clear ho hb)
                        | (refine step_append_lies _ (by rfl) _ _ _ (by rfl) w10.heap.size 9 i1 _ 1 16 Tryz.underlying30 HIb.out Z0b.out Z1b.out Z2b.out rfl (by omega) (.slice A7 j c7) j (ts.map Value.string) (by rfl) (P8.out.alloc _)
                             ⟨v8.heap.size, 0, none⟩ 1 1 [.string xk] (by rfl) (by rfl) (World.news_of_block (cs := #[.string xk]) (t := 9) (fr := (0, 0)) (heap_alloc_new v8 _)) (by simp [Value.oneCell'])
                             (by omega) (by unfold maxLen; omega) (by omega) (by simp; omega) (v8.heap.size + 1) (by simp) ?_
                           intro g2 cap2 v9 hown hgrow hat hgl
                           have P9 := Lib.hid (show v9.ownsRow w10.heap.size 9 1 _ (j + 1) ((ts ++ [xk]).map Value.string) by rw [List.map_append]; exact hown)
                           have Y9 : Hid (Below w10.heap.size w10 v9) := Lib.hid ((Y8.out.alloc y8 (.cells #[.string xk] 9)).trans (grown_below hgrow (fun g e => by have := (P8.out.lt g e).1; omega) (by simp; omega)))
                           clear hown hgrow hat hgl)
                        | (refine step_append_lies _ (by rfl) _ _ _ (by rfl) w10.heap.size 9 i1 _ 1 16 Tryz.underlying30 HIb.out Z0b.out Z1b.out Z2b.out rfl (by omega) (.slice A7 j c7) j (ts.map Value.string) (by rfl) P8.out
                             ⟨w10.heap.size, 0, none⟩ 1 1 [.string xk] (by rfl) (by rfl) (World.news_of_block (cs := #[.string xk]) (t := 9) (fr := (0, 0)) KN2.out) (by simp [Value.oneCell'])
                             (by omega) (by unfold maxLen; omega) (by omega) y8 v8.heap.size rfl ?_
                           intro g2 cap2 v9 hown hgrow hat hgl
                           have P9 := Lib.hid (show v9.ownsRow w10.heap.size 9 1 _ (j + 1) ((ts ++ [xk]).map Value.string) by rw [List.map_append]; exact hown)
                           have Y9 : Hid (Below w10.heap.size w10 v9) := Lib.hid (Y8.out.trans (grown_below hgrow (fun g e => by have := (P8.out.lt g e).1; omega) y8))
                           clear hown hgrow hat hgl)))
                      all_goals
                        have hg92 := (P9.out.lt g2 rfl).1
                        have TS9 := Lib.hid (sorts_any w10.heap.size g2 (j + 1) cap2 (ts ++ [xk]) v9 (by rw [List.length_append, HL3.out]; rfl) (by omega) (fun y hy => by
                          rcases List.mem_append.1 hy with h | h
                          · exact (XW.out _ BZ.out).2.2.1 y h
                          · simp at h; subst h; exact HKS.out) P9.out hg92)
                        go_wp2_with fail
                        refine (TS9.out).mono ?_; rintro e v10 ⟨rfl, ts2, hsrt2, hs2, hB⟩
                        have Y10 : Hid (Below w10.heap.size w10 v10) := Lib.hid (Y9.out.trans hB)
                        have B11 := Lib.hid (B10.out.trans (Y10.out.mono B10.out.size))
                        have K11 := Lib.hid (HK2.out.below Y10.out)
                        have hl2' : s2.length = n2 + 1 := by rw [HSR.out.1.length_eq, List.length_append, HL2.out]; rfl
                        have hl3' : ts2.length = j + 1 := by rw [hsrt2.1.length_eq, List.length_append, HL3.out]; rfl
                        have hwant := grow_checks HF0.out RR1.out RR2.out HIN.out (hasT_no HB1.out) (has_no HB2.out) HSR.out.1 HSR.out.2 hsrt2.1 hsrt2.2
                        have hgrw := HGR.out s2 ts2 xk HIN.out (fun x hx => HSR.out.1.mem_iff.2 (by simp [hx])) (HSR.out.1.mem_iff.2 (by simp)) hsrt2.1.symm
                        have hok2 := wantE_ok hwant
                        have hone := aff_one HR.out (skE_ok s2 _ hok2.2.1) (waE_ok ts2 _ hok2.2.2)
                        have hbd := aff_bd (l := l) (s := s2) (a := ts2) (by rw [hl3']; omega)
                        have CA := Lib.hid (affinityf_walk (some ⟨gf, 0, none⟩) n c l (some ⟨gg, 0, none⟩) (n2 + 1) cap' s2 (some ⟨g2, 0, none⟩) (j + 1) cap2 ts2 v10 HL.out (by omega) (XW.out _ B11.out).1 K11.out hl2' (by omega) hs2 hl3' (by omega) 0 (Lib.hid hwant))
                        obtain ⟨p1, q1, hpq1⟩ : ∃ p q, affN l s2 ts2 = (p, q) := ⟨_, _, rfl⟩
                        rw [hpq1] at hgrw hone hbd
                        simp only at hgrw hone hbd
                        have HPQ1 := Lib.hid hpq1
                        have b11 := B11.out.size
                        have ZV := Lib.hid (BZV.out.trans ((Z10.out.trans (Y10.out.mono z10)).mono BZV.out.size))
                        clear hB hsrt2 hs2 hwant hok2 hpq1 TS9 P9 Y9 hl2' hl3' K11
                        go_wp2_with fail
                        refine (CA.out).mono ?_; rintro e v11 ⟨x, y, rfl, hq1, hB⟩
                        obtain ⟨hx, hy⟩ := hq1 rfl
                        rw [HPQ1.out] at hx hy
                        simp only at hx hy
                        subst hx
                        subst hy
                        have ZV11 := Lib.hid (ZV.out.trans (hB.mono ZV.out.size))
                        have hz11 := ZV11.out.size
                        have KC := Lib.hid (Blk.new v11 37 #[.int .i64 p1, .int .i64 q1])
                        have KA := Lib.hid ((KV.out.below ZV11.out hkv).alloc (.cells #[.int .i64 p1, .int .i64 q1] 37))
                        have BC := Lib.hid (ZV11.out.alloc hz11 (.cells #[.int .i64 p1, .int .i64 q1] 37))
                        have f0 : (v11.alloc (.cells #[.int .i64 p1, .int .i64 q1] 37)).cell? ⟨w6.heap.size, 0, none⟩ = some (.int .i64 p0) := KA.out.cell 0 _ rfl
                        have f1 : (v11.alloc (.cells #[.int .i64 p1, .int .i64 q1] 37)).cell? ⟨w6.heap.size, 1, none⟩ = some (.int .i64 q0) := KA.out.cell 1 _ rfl
                        have f2 : (v11.alloc (.cells #[.int .i64 p1, .int .i64 q1] 37)).cell? ⟨v11.heap.size, 0, none⟩ = some (.int .i64 p1) := KC.out.cell 0 _ rfl
                        have f3 : (v11.alloc (.cells #[.int .i64 p1, .int .i64 q1] 37)).cell? ⟨v11.heap.size, 1, none⟩ = some (.int .i64 q1) := KC.out.cell 1 _ rfl
                        have e1 : (p1 : Int) * (q0 : Int) ≤ 4611686018427387904 := by
                          have : p1 * q0 ≤ 2016000 * 2016000 := Nat.mul_le_mul (by omega) hab.1
                          rw [← Int.natCast_mul]; omega
                        have e2 : (0 : Int) ≤ (p1 : Int) * (q0 : Int) := Int.mul_nonneg (by omega) (by omega)
                        have e3 : (p0 : Int) * (q1 : Int) ≤ 4611686018427387904 := by
                          have : p0 * q1 ≤ 2016000 * 2016000 := Nat.mul_le_mul (by omega) hbd.1
                          rw [← Int.natCast_mul]; omega
                        have e4 : (0 : Int) ≤ (p0 : Int) * (q1 : Int) := Int.mul_nonneg (by omega) (by omega)
                        have e5 : decide ((p1 : Int) * (q0 : Int) < (p0 : Int) * (q1 : Int)) = false := by
                          rw [decide_eq_false_iff_not, ← Int.natCast_mul, ← Int.natCast_mul]; omega
                        have e6 : (p0 : Int) * (q1 : Int) ≤ (p1 : Int) * (q0 : Int) := by rw [← Int.natCast_mul, ← Int.natCast_mul]; omega
                        clear hB hq1 CA ZV ZV11
                        go_wp2_with fail
                        go_roundw
                        case rel => exact ⟨k + 1, by omega, by go_num, BC⟩
                        case measure => simp [intOf]; omega
                  · go_wp2_with fail
                    go_roundw
                    case rel => exact ⟨k + 1, by omega, by go_num, BZV⟩
                    case measure => simp [intOf]; omega
                · go_wp2_with fail
                  go_roundw
                  case rel => exact ⟨k + 1, by omega, by go_num, BZV⟩
                  case measure => simp [intOf]; omega
              · have hkn : k = n := by omega
                subst hkn
                go_wp2_with fail
                refine (CT.out _).mono ?_; rintro e wa ⟨rfl, hB⟩
                have NN := Lib.hid (BK.out.trans (hB.mono BK.out.size))
                clear hB
                go_wp2_with fail
                go_ret
                exact ⟨rfl, DONE.out _ NN.out⟩
    · have hrb : (r2 != 0) = true := by rw [bne_iff_ne]; exact h2
      go_wp2_with fail
      refine (CT.out _).mono ?_; rintro e wa ⟨rfl, hB⟩
      have NN := Lib.hid (B5.out.trans (hB.mono B5.out.size))
      clear hB
      go_wp2_with fail
      go_ret
      exact ⟨rfl, DONE.out _ NN.out⟩
  · have hrb : (r1 != 0) = true := by rw [bne_iff_ne]; exact h1
    go_wp2_with fail
    refine (CT.out _).mono ?_; rintro e wa ⟨rfl, hB⟩
    have NN := Lib.hid (B4.out.trans (hB.mono B4.out.size))
    clear hB
    go_wp2_with fail
    go_ret
    exact ⟨rfl, DONE.out _ NN.out⟩
end Go.Proofs.YtebfndiaiaegmaaGreatDoor.For
