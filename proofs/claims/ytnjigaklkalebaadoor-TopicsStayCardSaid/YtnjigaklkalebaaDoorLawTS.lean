/-
  THE WALK OF THE LAW TopicsStay, over its contracts.
-/
import Derived.Test.YtnjigaklkalebaaDoorSkD
import Derived.Test.YtnjigaklkalebaaDoorEqualT
namespace Go.Proofs.YtnjigaklkalebaaDoor.For
open Go.ChangeShapes Go.WideShapes Go.ChangeAt Go.RowKit Stm Key
set_option linter.unusedVariables false

/-- Memory that is written over: behind a base. -/
def NBb (base : Nat) (v : World) (A : Option Addr) (m S : Nat) (T : TypeId) : Prop := (A = none ∧ m = 0) ∨ ∃ g cs, A = some ⟨g, 0, none⟩ ∧ base ≤ g ∧ Blk v g T cs ∧ m * S ≤ cs.size
theorem NB.base {w w' : World} {A : Option Addr} {m S base : Nat} {T : TypeId} (h : NB w w' A m S T) (hb : base ≤ w.heap.size) : NBb base w' A m S T := by
  rcases h with h | ⟨g, cs, h1, h2, h3, h4⟩
  · exact Or.inl h
  · exact Or.inr ⟨g, cs, h1, Nat.le_trans hb h2, h3, h4⟩
/-- What is needed to write one cell, and what stands behind it. -/
theorem NBb.at {base : Nat} {v : World} {A : Option Addr} {m S : Nat} {T : TypeId} (h : NBb base v A m S T) {j o : Nat} (hj : j < m) (ho : o < S) :
    ∃ g u, A = some ⟨g, 0, none⟩ ∧ base ≤ g ∧ g < v.heap.size ∧ v.cell? ⟨g, j * S + o, none⟩ = some u ∧ v.frozen? ⟨g, j * S + o, none⟩ = false ∧ ∀ x, NBb base (v.setCell ⟨g, j * S + o, none⟩ x) (some ⟨g, 0, none⟩) m S T := by
  rcases h with ⟨_, h0⟩ | ⟨g, cs, h1, h2, h3, h4⟩
  · omega
  · have hlt : j * S + o < cs.size := by
      have : (j + 1) * S ≤ m * S := Nat.mul_le_mul_right _ hj
      rw [Nat.add_mul] at this
      omega
    exact ⟨g, cs[j * S + o], h1, h2, h3.lt, h3.cell _ _ (by rw [Array.getElem?_eq_getElem hlt]), h3.frozen _, fun x => Or.inr ⟨g, _, rfl, h2, h3.set_ (j * S + o) x, by simpa using h4⟩⟩
theorem NB.lt {w w' : World} {A : Option Addr} {m S : Nat} {T : TypeId} (h : NB w w' A m S T) : ∀ g, A = some ⟨g, 0, none⟩ → g < w'.heap.size := by
  intro g hA
  rcases h with ⟨h1, _⟩ | ⟨g', cs, h1, _, h3, _⟩
  · rw [h1] at hA; cases hA
  · rw [h1] at hA; injection hA with hA; injection hA with hA; subst hA; exact h3.lt
theorem NBb.below {base : Nat} {v v' : World} {A : Option Addr} {m S : Nat} {T : TypeId} (h : NBb base v A m S T) (hb : Below v.heap.size v v') : NBb base v' A m S T := by
  rcases h with h | ⟨g, cs, h1, h2, h3, h4⟩
  · exact Or.inl h
  · exact Or.inr ⟨g, cs, h1, h2, h3.below hb h3.lt, h4⟩
theorem NBb.far {base : Nat} {v : World} {A : Option Addr} {m S : Nat} {T : TypeId} (h : NBb base v A m S T) {p : Addr} (hp : p.block < base) (x : Value) : NBb base (v.setCell p x) A m S T := by
  rcases h with h | ⟨g, cs, h1, h2, h3, h4⟩
  · exact Or.inl h
  · exact Or.inr ⟨g, cs, h1, h2, h3.far (by omega) x, h4⟩
theorem NBb.mono {base base' : Nat} {v : World} {A : Option Addr} {m S : Nat} {T : TypeId} (h : NBb base v A m S T) (hb : base' ≤ base) : NBb base' v A m S T := by
  rcases h with h | ⟨g, cs, h1, h2, h3, h4⟩
  · exact Or.inl h
  · exact Or.inr ⟨g, cs, h1, Nat.le_trans hb h2, h3, h4⟩
theorem askE_self {l : List Tp} (h0 : forestE l = 0) {i : Nat} (hi : i < l.length) : askE l l[i].k l[i].k = 0 := by
  have hs := num_self (rightF h0).dist hi
  unfold askE twoE
  rw [if_neg (by simpa using h0), if_pos (by rw [hs]; simp)]
theorem spE_one {l : List Tp} {s : List Sk} (h0 : forestE l = 0) (h : skE l ⟨#[]⟩ s = 0) : spE l s 1 = 0 := by
  have h1 : withE l s = 0 := by unfold withE; rw [if_neg (by simpa using h0)]; exact h
  unfold spE
  rw [h1]
  decide

set_option maxRecDepth 100000 in
set_option maxHeartbeats 8000000 in
theorem law_topicsstay (a0 : Option Addr) (len0 cap0 : Nat) (z0 : List Int) (w : World) (w0 : IsRow .i64 w a0 len0 cap0 z0) :
    Calls Tryd.prog 3 #[.slice a0 len0 cap0] w fun e w' => e = .returned (.bool true) ∧ Below w.heap.size w w' := by
  have hlo := row_lo w0
  have sa := strd_new w.heap.size w0 (Nat.le_refl _) hlo
  have sb := strd_new w.heap.size (isrow_alloc w0 (.cells #[.slice a0 len0 cap0, .int .i64 0] 25)) (by simp) hlo
  have g0 : Below w.heap.size w ((w.alloc (.cells #[.slice a0 len0 cap0, .int .i64 0] 25)).alloc (.cells #[.slice a0 len0 cap0, .int .i64 0] 25)) := ((Below.refl _ _).alloc (Nat.le_refl _) _).alloc (by simp) _
  have hbs : (w.alloc (.cells #[.slice a0 len0 cap0, .int .i64 0] 25)).heap.size = w.heap.size + 1 := by simp
  rw [hbs] at sb
  have SA := Lib.hid (sa.keep (show Below (w.heap.size + 1) _ ((w.alloc (.cells #[.slice a0 len0 cap0, .int .i64 0] 25)).alloc (.cells #[.slice a0 len0 cap0, .int .i64 0] 25)) from (Below.refl _ _).alloc (by simp) _))
  have SB := Lib.hid sb
  have G0 := Lib.hid g0
  generalize z0.take len0 = S at *
  clear w0 hlo sa sb g0 hbs
  have hc1 := rfC_le S 0
  have HF0 := Lib.hid (rfL_ok S 0)
  have RF1 := Lib.hid (fun B W (hW : StrD w.heap.size S W B 0) => rightforest_det w.heap.size S B 0 W hW (by omega))
  generalize rfL S 0 = l at *
  generalize rfC S 0 = c1 at *
  have RS1 := Lib.hid (fun B W (hW : StrD w.heap.size S W B c1) => skills_det w.heap.size S B c1 W hW (by omega))
  obtain ⟨ks, c2, hsk⟩ : ∃ ks c2, skF S c1 = (ks, c2) := ⟨_, _, rfl⟩
  rw [hsk] at RS1
  clear hsk hc1
  go_enter Tryd.func3, Tryd.ntmps3
  go_wp2_with fail
  refine (RF1.out _ _ SA.out).mono ?_
  rintro e w1 ⟨A1, n, d1, rfl, hl, hn, hnc, htl, hat, hgr, hs⟩
  have G1 := Lib.hid (G0.out.trans (hgr.toBelow (Nat.le_refl _) (by simp; omega)))
  have HL := Lib.hid hl
  have T1 := Lib.hid htl
  have AT1 := Lib.hid (show AtT w.heap.size A1 l.length ∧ AtT (w.heap.size + 1) A1 l.length by rw [hl]; exact ⟨hat.atT (by simp; omega), hat.atT (by simp)⟩)
  have SA1 := Lib.hid hs
  have SB1 := Lib.hid (SB.out.gr hgr (by omega) (Nat.le_refl _))
  have hz1 : w.heap.size + 2 ≤ w1.heap.size := by have := hgr.size; simp at this; omega
  clear hgr hs hl htl hat SA SB G0
  go_wp2_with fail
  refine (RF1.out _ _ SB1.out).mono ?_
  rintro e w2 ⟨A2, n', d2, rfl, hl, hn', hnc', htl, hat, hgr, hs⟩
  obtain rfl : n = n' := by rw [← HL.out, hl]
  have G2 := Lib.hid (G1.out.trans (hgr.toBelow (by omega) (by omega)))
  have T1b := Lib.hid (T1.out.gr AT1.out.2 hgr)
  have T2 := Lib.hid htl
  have AT2 := Lib.hid (show AtT w.heap.size A2 l.length ∧ AtT (w.heap.size + 1) A2 l.length by rw [hl]; exact ⟨hat.atT (by omega), hat.atT (by omega)⟩)
  have SA2 := Lib.hid (SA1.out.gr hgr (by omega) (by omega))
  have SB2 := Lib.hid hs
  have hz2 : w.heap.size + 2 ≤ w2.heap.size := by have := hgr.size; omega
  clear hgr hs hl htl hat SA1 SB1 G1 T1 RF1
  go_wp2_with fail
  refine (RS1.out _ _ SA2.out).mono ?_
  rintro e w3 ⟨A3, n3, d3, rfl, hl3, hn3, hnc3, hkl, hat, hgr, hs⟩
  have G3 := Lib.hid (G2.out.trans (hgr.toBelow (Nat.le_refl _) (by omega)))
  have T1c := Lib.hid (T1b.out.gr AT1.out.1 hgr)
  have T2c := Lib.hid (T2.out.gr AT2.out.1 hgr)
  have HL3 := Lib.hid hl3
  have K3 := Lib.hid hkl
  have AT3 := Lib.hid (show AtT (w.heap.size + 1) A3 ks.length by rw [hl3]; exact hat.atT (by omega))
  have SB3 := Lib.hid (SB2.out.gr hgr (by omega) (Nat.le_refl _))
  have hz3 : w.heap.size + 2 ≤ w3.heap.size := by have := hgr.size; omega
  clear hgr hs hl3 hkl hat SA2 SB2 G2 T1b T2
  go_wp2_with fail
  refine (RS1.out _ _ SB3.out).mono ?_
  rintro e w5 ⟨A4, n4, d4, rfl, hl4, hn4, hnc4, hkl, hat, hgr, hs⟩
  obtain rfl : n3 = n4 := by rw [← HL3.out, hl4]
  have G5 := Lib.hid (G3.out.trans (hgr.toBelow (by omega) (by omega)))
  have T1d := Lib.hid (T1c.out.gr AT1.out.2 hgr)
  have T2d := Lib.hid (T2c.out.gr AT2.out.2 hgr)
  have K3d := Lib.hid (K3.out.gr AT3.out hgr)
  have K4d := Lib.hid hkl
  have hz5 : w.heap.size ≤ w5.heap.size := by have := hgr.size; omega
  clear hgr hs hl4 hkl hat SB3 G3 T1c T2c K3 AT1 AT2 AT3 RS1 hz1 hz2 hz3
  have XW : Hid (∀ W, Below w5.heap.size w5 W → TL W A1 l ∧ TL W A2 l ∧ KL W A3 ks ∧ KL W A4 ks) := Lib.hid fun W hW => ⟨T1d.out.below hW, T2d.out.below hW, K3d.out.below hW, K4d.out.below hW⟩
  obtain ⟨r, hr⟩ : ∃ r, skE l ⟨#[]⟩ ks = r := ⟨_, rfl⟩
  have C1 : Hid (∀ W, Below w5.heap.size w5 W → Calls Tryd.prog 6 #[.slice A1 n d1, .slice A3 n3 d3] W fun e w' => e = .returned (.int .i64 r) ∧ Below W.heap.size W w') := Lib.hid fun W hW => skillsfault_walk A1 n d1 l A3 n3 d3 ks W HL.out (by omega) HF0.out (XW.out W hW).1 (XW.out W hW).2.2.1 HL3.out (by omega) r (Lib.hid hr)
  have DONE : Hid (∀ W, Below w5.heap.size w5 W → Below w.heap.size w W) := Lib.hid fun W hW => G5.out.trans (hW.mono hz5)
  have CT : Hid (∀ W : World, Calls Tryd.prog 7 #[] W fun e w' => e = .returned (.bool true) ∧ Below W.heap.size W w') := Lib.hid fun W => topicsk_any W
  have HR := Lib.hid hr
  clear hr T1d T2d K3d K4d
  go_wp2_with fail
  refine (C1.out _ (Below.refl _ _)).mono ?_; rintro e w6 ⟨rfl, hB6⟩
  have B6 := Lib.hid hB6
  clear hB6 C1
  by_cases hr0 : r = 0
  · subst hr0
    have HOK := Lib.hid (skE_ok ks _ HR.out)
    have C2 : Hid (∀ W, Below w5.heap.size w5 W → Calls Tryd.prog 8 #[.slice A1 n d1, .slice A3 n3 d3, .int .i64 1] W (SkRet2 0 (spreadP l ks 1 n) W)) := Lib.hid fun W hW => spread_new A1 n d1 l A3 n3 d3 ks 1 W HL.out (by omega) (XW.out W hW).1 (XW.out W hW).2.2.1 HL3.out (by omega) (by omega) (by omega) 0 (Lib.hid (spE_one HF0.out HR.out))
    have C3 : Hid (∀ W, Below w5.heap.size w5 W → Calls Tryd.prog 13 #[.slice A2 n d2, .slice A4 n3 d4, .int .i64 1] W (SkLRet (spreadP l ks 1 n) W)) := Lib.hid fun W hW => spreadof_walk A2 n d2 l A4 n3 d4 ks 1 W HL.out (by omega) (XW.out W hW).2.1 (rightF HF0.out) (XW.out W hW).2.2.2 HL3.out (by omega) HOK.out (by omega) (by omega)
    have C4 : Hid (∀ W, Below w5.heap.size w5 W → Calls Tryd.prog 11 #[.slice A1 n d1, .slice A2 n d2] W fun e w' => e = .returned (.bool true) ∧ Below W.heap.size W w') := Lib.hid fun W hW => equalt_any A1 A2 d1 d2 l W n HL.out (by omega) (XW.out W hW).1 (XW.out W hW).2.1
    have C5 : Hid (∀ W, Below w5.heap.size w5 W → Calls Tryd.prog 12 #[.slice A3 n3 d3, .slice A4 n3 d4] W fun e w' => e = .returned (.bool true) ∧ Below W.heap.size W w') := Lib.hid fun W hW => equalk_any A3 A4 d3 d4 ks W n3 HL3.out (by omega) (XW.out W hW).2.2.1.2 (XW.out W hW).2.2.2.2
    have C6 : Hid (∀ (k : Nat) (hk : k < l.length) W, Below w5.heap.size w5 W → Calls Tryd.prog 9 #[.slice A1 n d1, .string l[k].k] W (StrsRet2 0 (fun ss => ∃ i, lk l l[k].k = some i ∧ ss = keysOf l (way (pars l) (i : Nat))) W)) := Lib.hid fun k hk W hW => abovef_new A1 n d1 l l[k].k W HL.out (by omega) (XW.out W hW).1 ((XW.out W hW).1.1 _ (List.getElem_mem hk)).1 0 (Lib.hid (askE_self HF0.out hk))
    have C7 : Hid (∀ (k : Nat) (hk : k < l.length) W, Below w5.heap.size w5 W → Calls Tryd.prog 10 #[.slice A1 n d1, .string l[k].k] W (StrsRet2 0 (fun ss => ∃ i, lk l l[k].k = some i ∧ ss = belS l i l.length) W)) := Lib.hid fun k hk W hW => belowf_new A1 n d1 l l[k].k W HL.out (by omega) (XW.out W hW).1 ((XW.out W hW).1.1 _ (List.getElem_mem hk)).1 0 (Lib.hid (askE_self HF0.out hk))
    go_wp2_with fail
    refine (C2.out _ B6.out).mono ?_; rintro e w7 ⟨X, m, dx, rfl, _, hmq, hB, hnb⟩
    have hm6 : m ≤ 6 := by have := (hmq rfl).1; have := spread_len l ks 1 n; omega
    clear hmq
    have B7 := Lib.hid (B6.out.trans (hB.mono B6.out.size))
    have N7 := Lib.hid (hnb.base B6.out.size)
    clear hB hnb B6
    go_wp2_with fail
    go_loopw [50] (fun i wr => ∃ j : Nat, j ≤ m ∧ i = .int .i64 j ∧ Hid (NBb w5.heap.size wr X m 2 36) ∧ Hid (Below w5.heap.size w5 wr)) (fun i _ => m - (intOf i).toNat)
    case atStart => exact ⟨0, Nat.zero_le _, rfl, N7, B7⟩
    case round =>
      obtain ⟨j, hj, rfl, HNB, HB⟩ := hrel
      rename World => wv
      by_cases hlt : j < m
      · obtain ⟨g, u, hA, hbg, hgl, hc, hf, hset⟩ := HNB.out.at hlt (show 0 < 2 by decide)
        simp only [Nat.add_zero] at hc hf hset
        subst hA
        have N2 := Lib.hid (hset (.string ⟨#[115, 112, 111, 105, 108, 116]⟩))
        have B2 := Lib.hid (HB.out.setCell (p := ⟨g, j * 2, none⟩) hbg (.string ⟨#[115, 112, 111, 105, 108, 116]⟩))
        have a0 : (0 : Int) ≤ (j : Int) := by omega
        have a1 : (j : Int) < (m : Int) := by omega
        clear hset HNB HB
        go_wp2_with fail
        go_roundw
        case rel => exact ⟨j + 1, by omega, by go_num, N2, B2⟩
        case measure => simp [intOf]; omega
      · have hjm : j = m := by omega
        have BL := HB
        clear HNB HB
        subst hjm
        go_wp2_with fail
        go_loopw [60] (fun i wr => ∃ k : Nat, k ≤ n ∧ i = .int .i64 k ∧ Hid (Below w5.heap.size w5 wr)) (fun i _ => n - (intOf i).toNat)
        case atStart => exact ⟨0, Nat.zero_le _, rfl, BL⟩
        case round =>
          obtain ⟨k, hk, rfl, HBK⟩ := hrel
          rename World => wk
          have hzk := HBK.out.size
          by_cases hltk : k < n
          · have hkl : k < l.length := by rw [HL.out]; exact hltk
            obtain ⟨gf, hA1, hgl, hc⟩ := (XW.out _ HBK.out).1.2 (by omega)
            obtain ⟨c0, c1'⟩ := hc k hkl
            have D6 := Lib.hid (C6.out k hkl)
            have D7 := Lib.hid (C7.out k hkl)
            generalize l[k] = x at *
            obtain ⟨xk, xa⟩ := x
            simp only at c0 c1' D6 D7
            have KT := Lib.hid (Blk.new wk 38 #[.string xk, .string xa])
            have BT := Lib.hid (HBK.out.alloc hzk (.cells #[.string xk, .string xa] 38))
            have a0 : (0 : Int) ≤ (k : Int) := by omega
            have a1 : (k : Int) < (n : Int) := by omega
            subst hA1
            clear hc HBK BL
            go_wp2_with fail
            refine (D6.out _ BT.out).mono ?_; rintro e w8 ⟨Y, m1, dy, ss, rfl, _, hm1, _, _, _, hB, hnb⟩
            have B8 := Lib.hid (BT.out.trans (hB.mono BT.out.size))
            have N8 := Lib.hid (hnb.base BT.out.size)
            have HYL := Lib.hid (hnb.lt)
            have K8 := Lib.hid (KT.out.below hB (by simp))
            have t0 : w8.cell? ⟨wk.heap.size, 0, none⟩ = some (.string xk) := K8.out.cell 0 _ rfl
            have hk8 := K8.out.lt
            clear hB hnb D6 BT KT c0 c1'
            go_wp2_with fail
            refine (D7.out _ B8.out).mono ?_; rintro e w9 ⟨Z, m2, dz, ss2, rfl, _, hm2, _, _, _, hB, hnb⟩
            have B9 := Lib.hid (B8.out.trans (hB.mono B8.out.size))
            have N9 := Lib.hid (hnb.base (Nat.le_refl _))
            have B8s := B8.out.size
            have N8b := Lib.hid (N8.out.below hB)
            clear hB hnb D7 B8 N8 t0
            go_wp2_with fail
            go_loopw [86] (fun i wr => ∃ j : Nat, j ≤ m1 ∧ i = .int .i64 j ∧ Hid (NBb w5.heap.size wr Y m1 1 9) ∧ Hid (NBb w8.heap.size wr Z m2 1 9) ∧ Hid (Below w5.heap.size w5 wr)) (fun i _ => m1 - (intOf i).toNat)
            case atStart => exact ⟨0, Nat.zero_le _, rfl, N8b, N9, B9⟩
            case round =>
              obtain ⟨j, hj, rfl, HNB, HNZ, HB⟩ := hrel
              rename World => wv
              by_cases hlt : j < m1
              · obtain ⟨g, u, hA, hbg, hgl, hc, hf, hset⟩ := HNB.out.at hlt (show 0 < 1 by decide)
                simp only [Nat.add_zero, Nat.mul_one] at hc hf hset
                have hYg := HYL.out g hA
                have NZ := Lib.hid (HNZ.out.far (p := ⟨g, j, none⟩) hYg (.string ⟨#[115, 112, 111, 105, 108, 116]⟩))
                subst hA
                have N2 := Lib.hid (hset (.string ⟨#[115, 112, 111, 105, 108, 116]⟩))
                have B2 := Lib.hid (HB.out.setCell (p := ⟨g, j, none⟩) hbg (.string ⟨#[115, 112, 111, 105, 108, 116]⟩))
                have a0 : (0 : Int) ≤ (j : Int) := by omega
                have a1 : (j : Int) < (m1 : Int) := by omega
                clear hset HNB HB
                go_wp2_with fail
                go_roundw
                case rel => exact ⟨j + 1, by omega, by go_num, N2, NZ, B2⟩
                case measure => simp [intOf]; omega
              · have hjm : j = m1 := by omega
                have BL := HB
                have HN9X := Lib.hid (HNZ.out.mono B8s)
                clear HNB HNZ HB
                subst hjm
                clear K8
                go_wp2_with fail
                go_loopw [95] (fun i wr => ∃ j : Nat, j ≤ m2 ∧ i = .int .i64 j ∧ Hid (NBb w5.heap.size wr Z m2 1 9) ∧ Hid (Below w5.heap.size w5 wr)) (fun i _ => m2 - (intOf i).toNat)
                case atStart => exact ⟨0, Nat.zero_le _, rfl, HN9X, BL⟩
                case round =>
                  obtain ⟨j, hj, rfl, HNB, HB⟩ := hrel
                  rename World => wv
                  by_cases hlt : j < m2
                  · obtain ⟨g, u, hA, hbg, hgl, hc, hf, hset⟩ := HNB.out.at hlt (show 0 < 1 by decide)
                    simp only [Nat.add_zero, Nat.mul_one] at hc hf hset
                    subst hA
                    have N2 := Lib.hid (hset (.string ⟨#[115, 112, 111, 105, 108, 116]⟩))
                    have B2 := Lib.hid (HB.out.setCell (p := ⟨g, j, none⟩) hbg (.string ⟨#[115, 112, 111, 105, 108, 116]⟩))
                    have a0 : (0 : Int) ≤ (j : Int) := by omega
                    have a1 : (j : Int) < (m2 : Int) := by omega
                    clear hset HNB HB
                    go_wp2_with fail
                    go_roundw
                    case rel => exact ⟨j + 1, by omega, by go_num, N2, B2⟩
                    case measure => simp [intOf]; omega
                  · have hjm : j = m2 := by omega
                    have BL := HB
                    clear HNB HB
                    subst hjm
                    go_wp2_with fail
                    go_roundw
                    case rel => exact ⟨k + 1, by omega, by go_num, BL⟩
                    case measure => simp [intOf]; omega
          · have hkn : k = n := by omega
            subst hkn
            clear BL C6 C7
            go_wp2_with fail
            refine (C2.out _ HBK.out).mono ?_; rintro e wa ⟨Y, my, dy, rfl, _, hq, hB, _⟩
            obtain ⟨hmy, hky⟩ := hq rfl
            subst hmy
            have BA := Lib.hid (HBK.out.trans (hB.mono HBK.out.size))
            have KY := Lib.hid hky
            clear hB hky hq HBK C2
            go_wp2_with fail
            refine (CT.out _).mono ?_; rintro e wb ⟨rfl, hB⟩
            have BB := Lib.hid (BA.out.trans (hB.mono BA.out.size))
            have KY := Lib.hid (KY.out.below hB)
            clear hB BA
            go_wp2_with fail
            refine (C4.out _ BB.out).mono ?_; rintro e wc ⟨rfl, hB⟩
            have BC := Lib.hid (BB.out.trans (hB.mono BB.out.size))
            have KY := Lib.hid (KY.out.below hB)
            clear hB BB
            go_wp2_with fail
            refine (C5.out _ BC.out).mono ?_; rintro e wd ⟨rfl, hB⟩
            have BD := Lib.hid (BC.out.trans (hB.mono BC.out.size))
            have KY := Lib.hid (KY.out.below hB)
            clear hB BC
            go_wp2_with fail
            refine (C3.out _ BD.out).mono ?_; rintro e we ⟨Z, dz, rfl, hkz, hB⟩
            have BE := Lib.hid (BD.out.trans (hB.mono BD.out.size))
            have EQ := Lib.hid (equalk_any Y Z dy dz (spreadP l ks 1 k) we _ rfl (by have := spread_len l ks 1 k; omega) (KY.out.below hB) hkz)
            clear hB BD hkz KY
            go_wp2_with fail
            refine (EQ.out).mono ?_; rintro e wf ⟨rfl, hB⟩
            have BF := Lib.hid (BE.out.trans (hB.mono BE.out.size))
            clear hB BE EQ
            go_wp2_with fail
            go_ret
            exact ⟨rfl, DONE.out _ BF.out⟩
  · have hrb : (r != 0) = true := by simpa using hr0
    clear hr0
    go_wp2_with fail
    refine (CT.out _).mono ?_; rintro e wa ⟨rfl, hB⟩
    have BA := Lib.hid (B6.out.trans (hB.mono B6.out.size))
    clear hB
    go_wp2_with fail
    go_ret
    exact ⟨rfl, DONE.out _ BA.out⟩
end Go.Proofs.YtnjigaklkalebaaDoor.For
