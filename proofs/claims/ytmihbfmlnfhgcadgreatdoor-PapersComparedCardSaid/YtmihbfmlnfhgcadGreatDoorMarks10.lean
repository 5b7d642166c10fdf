/-
  THE MAKER OF MARKS, the tenth house's way (Stream.Marks10).
-/
import Derived.Test.YtmihbfmlnfhgcadGreatDoorPairG
namespace Go.Proofs.YtmihbfmlnfhgcadGreatDoor.Cal
open Go.ChangeShapes Go.WideShapes Go.ChangeAt Go.RowKit Stm Key
set_option linter.unusedVariables false

theorem infoMk : (Tryz.prog.info? 51).map (fun i => (i.zero, i.size, i.bytes)) = some (some (.agg #[.string ⟨#[]⟩, .string ⟨#[]⟩, .int .i64 0]), 3, 40) := by kernel_rfl
theorem mkret_from {B k k' d d' M : Nat} {w wp w' : World} {e : Ending} (h : MkRet B k' d' M wp e w') (hg : Gr B w wp) (hk : k' + d' ≤ k + d) : MkRet B k d M w e w' := by
  obtain ⟨A, n, c, l, he, hl, hn, hc, hm, hat, hgr, hs⟩ := h
  exact ⟨A, n, c, l, he, hl, hn, hc, hm, hat, hg.trans hgr, hs.mono hk⟩
theorem ch_blk {W : World} {b : Nat} {t : TypeId} {zs : List ByteArray} (h : Blk W b t (zs.map Value.string).toArray) : Ch W b zs := fun i hi => h.cell i _ (by simp [hi])
/-- The state in the loop: the stream, the row of marks. -/
def M1St (w : World) (B : Nat) (A : Option Addr) (m c : Nat) (l : List Mk) (q : Nat) (W : World) : Prop :=
  Strm W B q ∧ W.ownsRow (w.heap.size + 1) 51 3 (.slice A m c) m (flatM l) ∧ Gr B w W
theorem m1_far {w W w7 : World} {B : Nat} {A A' : Option Addr} {m c m' c' : Nat} {l l' : List Mk} {q : Nat} (h : M1St w B A m c l q W) (hB : B < w.heap.size) (hb : Below w.heap.size W w7)
    (ho : w7.ownsRow (w.heap.size + 1) 51 3 (.slice A' m' c') m' (flatM l')) : M1St w B A' m' c' l' q w7 :=
  ⟨h.1.keep (hb.mono hB), ho, gr_far h.2.2 hb⟩
theorem m1_app {w : World} {B : Nat} {A : Option Addr} {m c : Nat} {l : List Mk} {q : Nat} {W w7 : World} {gg cap7 : Nat} {o : Obj} (h : M1St w B A m c l q W) (hB : B < w.heap.size) (x : Mk)
    (hown : w7.ownsRow (w.heap.size + 1) 51 3 (.slice (some ⟨gg, 0, none⟩) (m + 1) cap7) (m + 1) (flatM l ++ mv x)) (hgrow : (W.alloc o).grownBy w7 (Value.slice A m c).ownBlock) :
    M1St w B (some ⟨gg, 0, none⟩) (m + 1) cap7 (l ++ [x]) q w7 :=
  m1_far h hB ((((Below.refl W.heap.size W).mono h.2.2.size).alloc h.2.2.size o).grown hgrow (by simp; have := h.2.2.size; omega) (fun j hj => by have := (h.2.1.lt j hj).1; omega)) (by rw [flatM_snoc]; exact hown)
/-- A world that is the old one with the eight numbers in a new block, drawn from or not. -/
def Eight (w W : World) : Prop := W.heap = (w.alloc (.cells #[.int .i64 0, .int .i64 3, .int .i64 5, .int .i64 5, .int .i64 6, .int .i64 7, .int .i64 8, .int .i64 10] 3)).heap ∧ W.os = w.os ∧ W.tape = w.tape ∧ W.output = w.output
theorem Eight.below {w W : World} (h : Eight w W) : Below w.heap.size w W :=
  ⟨h.2.1, h.2.2.1, h.2.2.2, by rw [h.1]; simp, fun i hi => by rw [h.1]; exact ((Below.refl w.heap.size w).alloc (Nat.le_refl _) _).block i hi⟩
theorem pick_eight {w wa : World} {B : Nat} {A : Option Addr} {m c : Nat} {l : List Mk} {q bx : Nat} {xp xh : ByteArray} (W : World) (h : M1St w B A m c l q wa) (hB : B < w.heap.size) (hq : q ≤ 1000000) (hX : Blk wa bx 49 #[.string xp, .string xh]) (hbx : w.heap.size ≤ bx) (hW : Eight wa W) :
    Calls Tryz.prog 7 #[.pointer (Option.some ⟨B, 0, none⟩), .slice (Option.some ⟨wa.heap.size, 0, none⟩) 8 8] W fun e w' => ∃ r : Int, 0 ≤ r ∧ r ≤ 10 ∧ e = .returned (.int .i64 r) ∧ M1St w B A m c l (q + 1) w' ∧ Blk w' bx 49 #[.string xp, .string xh] := by
  have hS : Strm W B q := h.1.keep (hW.below.mono (by have := h.1.lt; omega))
  refine (pick_any B q wa.heap.size 8 [0, 3, 5, 5, 6, 7, 8, 10] _ (0, 0) W hS (by omega) (by have := h.1.lt; omega) (by rw [hW.1]; exact heap_alloc_new wa _) (by simp) (by simp)).mono ?_
  rintro e w' ⟨r, hr, he, ho, hs⟩
  have hgr : Gr B wa w' := (Gr.below hW.below).trans (Gr.only ho)
  refine ⟨r, ?_, ?_, he, ⟨hs, own_gr h.2.1 hgr (by omega), h.2.2.trans hgr⟩, (hgr.block bx hX.lt (fun e => by injection e with e; omega)).trans hX⟩ <;> (simp only [List.mem_cons, List.mem_nil_iff, or_false] at hr; omega)
set_option maxRecDepth 100000 in
set_option maxHeartbeats 8000000 in
theorem marks10_any (B k : Nat) (w : World) (hs : Strm w B k) (hk : k ≤ 600000) :
    Calls Tryz.prog 5 #[.pointer (some ⟨B, 0, none⟩)] w (MkRet B k 60 256 w) := by
  have hB := hs.lt
  have HS := Lib.hid hs
  clear hs
  go_enter Tryz.func5, Tryz.ntmps5
  go_wp2_with fail
  refine (range_any B k 0 14 _ (HS.out.keep (by go_grown)) (by omega) (by omega) (by omega) (by omega)).mono ?_
  rintro e w1 ⟨r, r0, r1, rfl, ho, hs⟩
  obtain ⟨r, rfl⟩ : ∃ z : Nat, r = z := ⟨r.toNat, by omega⟩
  have hz1 : w.heap.size + 2 ≤ w1.heap.size := by rw [ho.size]; simp
  have K1 := Lib.hid (((Blk.new w 9 #[.string ⟨#[112, 97]⟩, .string ⟨#[112, 98]⟩, .string ⟨#[112, 99]⟩, .string ⟨#[112, 100]⟩, .string ⟨#[112, 101]⟩]).alloc (.cells #[.string ⟨#[97, 110, 110]⟩, .string ⟨#[98, 111, 98]⟩, .string ⟨#[99, 105, 100]⟩, .string ⟨#[100, 101, 101]⟩] 9)).only ho (show w.heap.size ≠ B by omega))
  have K2 : Hid (Blk w1 (w.heap.size + 1) 9 #[.string ⟨#[97, 110, 110]⟩, .string ⟨#[98, 111, 98]⟩, .string ⟨#[99, 105, 100]⟩, .string ⟨#[100, 101, 101]⟩]) := Lib.hid (by
    have h := (Blk.new (w.alloc (.cells #[.string ⟨#[112, 97]⟩, .string ⟨#[112, 98]⟩, .string ⟨#[112, 99]⟩, .string ⟨#[112, 100]⟩, .string ⟨#[112, 101]⟩] 9)) 9 #[.string ⟨#[97, 110, 110]⟩, .string ⟨#[98, 111, 98]⟩, .string ⟨#[99, 105, 100]⟩, .string ⟨#[100, 101, 101]⟩]).only ho (by simp; omega)
    simpa using h)
  have G1 := Lib.hid ((((Gr.refl B w).alloc (.cells #[.string ⟨#[112, 97]⟩, .string ⟨#[112, 98]⟩, .string ⟨#[112, 99]⟩, .string ⟨#[112, 100]⟩, .string ⟨#[112, 101]⟩] 9)).alloc (.cells #[.string ⟨#[97, 110, 110]⟩, .string ⟨#[98, 111, 98]⟩, .string ⟨#[99, 105, 100]⟩, .string ⟨#[100, 101, 101]⟩] 9)).trans (Gr.only ho))
  have HPA := Lib.hid (pairs10_any B (k + 1) w.heap.size (w.heap.size + 1) 5 4 5 4 r [⟨#[112, 97]⟩, ⟨#[112, 98]⟩, ⟨#[112, 99]⟩, ⟨#[112, 100]⟩, ⟨#[112, 101]⟩] [⟨#[97, 110, 110]⟩, ⟨#[98, 111, 98]⟩, ⟨#[99, 105, 100]⟩, ⟨#[100, 101, 101]⟩] w1 hs (by omega) rfl rfl (by omega) (by omega) (by omega) (by omega) (by omega) (by omega) (by omega) (ch_blk K1.out) (ch_blk K2.out) K1.out.lt K2.out.lt)
  clear hs ho HS K1 K2
  go_wp2_with fail
  refine (HPA.out).mono ?_
  rintro e w2 ⟨A, m, c, d, rfl, hd, hm, hx, hpos, hs2, hg2⟩
  have G2 := Lib.hid (G1.out.trans hg2)
  have hz2 : w.heap.size + 2 ≤ w2.heap.size := Nat.le_trans hz1 hg2.size
  have HX := Lib.hid (show ∀ x ∈ d, x.p.size ≤ 1000 ∧ x.h.size ≤ 1000 from fun x h => ⟨le_all (m := 1000) (by decide +kernel) _ (hx x h).1, le_all (m := 1000) (by decide +kernel) _ (hx x h).2⟩)
  have HP := Lib.hid (show 0 < m → ∃ g, A = some ⟨g, 0, none⟩ ∧ g ≠ B ∧ PB w2 g d from fun h => by
    obtain ⟨g, e1, e2, e3⟩ := hpos h
    exact ⟨g, e1, by omega, e3⟩)
  have J := Lib.hid (show M1St w2 B none 0 0 [] (k + 1 + 2 * r) w2 from ⟨hs2, World.ownsRow_nil _ _ _ _, Gr.refl _ _⟩)
  have HD := Lib.hid hd
  have hB2 : B < w2.heap.size := by omega
  have hm14 : m ≤ 14 := by omega
  clear hd hx hpos hs2 hg2 HPA G1
  obtain ⟨i0, hi0, hz0', hz1', hz2'⟩ := info_parts infoMk
  have HI := Lib.hid hi0
  have Z0 := Lib.hid hz0'
  have Z1 := Lib.hid hz1'
  have Z2 := Lib.hid hz2'
  clear hi0 hz0' hz1' hz2'
  go_wp2_with fail
  go_loopw [3, 14] (fun o i wr => ∃ (ii : Nat) (A' : Option Addr) (c' : Nat) (l : List Mk), ii ≤ m ∧ i = .int .i64 ii ∧ o = .slice A' ii c' ∧ l.length = ii ∧ Hid (∀ x ∈ l, mOk x) ∧ Hid (M1St w2 B A' ii c' l (k + 1 + 2 * r + ii) wr)) (fun _ i _ => m - (intOf i).toNat)
  case atStart => exact ⟨0, none, 0, [], Nat.zero_le _, rfl, rfl, rfl, Lib.hid (by simp), J⟩
  case round =>
    clear J
    obtain ⟨ii, A', c', l, hii, rfl, rfl, hl, HXL, J0⟩ := hrel
    have HL := Lib.hid hl
    clear hl
    by_cases hlt : ii < m
    · have hid : ii < d.length := by rw [HD.out]; exact hlt
      obtain ⟨g, hA, hgB, hgl, hcl⟩ := HP.out (by omega)
      subst hA
      obtain ⟨c0, c1, _, _⟩ := hcl ii hid
      replace c0 := (J0.out.2.2.cell g (ii * 2) hgl hgB).trans c0
      replace c1 := (J0.out.2.2.cell g (ii * 2 + 1) hgl hgB).trans c1
      have hxx := HX.out _ (List.getElem_mem hid)
      generalize d[ii] = x at *
      obtain ⟨xp, xh⟩ := x
      simp only at c0 c1 hxx
      have XB := Lib.hid (Blk.new wr 49 #[.string xp, .string xh])
      have hbx := J0.out.2.2.size
      have J1 := Lib.hid (m1_far (w7 := wr.alloc (.cells #[.string xp, .string xh] 49)) J0.out hB2 (((Below.refl wr.heap.size wr).mono hbx).alloc hbx _) (World.ownsRow.alloc J0.out.2.1 _))
      have a0 : (0 : Int) ≤ (ii : Int) := by omega
      have a1 : (ii : Int) < (m : Int) := by omega
      clear hcl
      go_upto_region 5 with fail
      generalize hwa : wr.alloc (.cells #[.string xp, .string xh] 49) = wa at *
      clear hwa c0 c1 J0
      have J2 := Lib.hid J1.out
      have x0 := XB.out.cell 0 _ rfl
      have x1 := XB.out.cell 1 _ rfl
      have xl := XB.out.lt
      go_region_law ((first
        | (go_simp; go_at_call 7
           refine (pick_eight _ J1.out hB2 (by omega) XB.out hbx ⟨by rfl, by rfl, by rfl, by rfl⟩).mono ?_
           rintro e w5 ⟨sc, s0, s1, rfl, jj5, xb5⟩
           have J5 := Lib.hid jj5
           have y0 := xb5.cell 0 _ rfl
           have y1 := xb5.cell 1 _ rfl
           have yl := xb5.lt
           have hz5 := jj5.2.2.size
           clear jj5 xb5 J1)
        | (refine step_append_lies _ (by rfl) _ _ _ (by rfl) (w2.heap.size + 1) 51 i0 _ 3 40 Tryz.underlying29 HI.out Z0.out Z1.out Z2.out rfl (by omega) (.slice A' ii c') ii (flatM l) (by rfl) (World.ownsRow.alloc J5.out.2.1 _)
               ⟨w5.heap.size, 0, none⟩ 1 1 [.string xp, .string xh, .int .i64 sc] (by rfl) (by rfl) (World.news_of_block (cs := #[.string xp, .string xh, .int .i64 sc]) (t := 51) (fr := (0, 0)) (new_at (by simp))) (by simp [Value.oneCell']) (by omega) (by unfold maxLen; omega) (by omega) (by simp; omega) (w5.heap.size + 1) (by simp) ?_
           intro gg7 cap7 w7 hown hgrow hat hgl
           have J7 := Lib.hid (m1_app J5.out hB2 ⟨xp, xh, sc⟩ hown hgrow)
           clear hown hgrow hat hgl)))
      all_goals
        have HX7 : Hid (∀ x ∈ l ++ [⟨xp, xh, sc⟩], mOk x) := Lib.hid (fun x hx => by
          rcases List.mem_append.1 hx with h | h
          · exact HXL.out x h
          · obtain rfl := List.mem_singleton.1 h; exact ⟨hxx.1, hxx.2, by show -1099511627776 ≤ sc; omega, by show sc ≤ 1099511627776; omega⟩)
        clear y0 y1 yl J5 J2 s0 s1
        go_wp2_with fail
        go_roundw
        case rel => exact ⟨ii + 1, _, _, l ++ [⟨xp, xh, sc⟩], by omega, by go_num, rfl, by rw [List.length_append, HL.out]; rfl, HX7, J7⟩
        case measure => simp [intOf]; omega
    · obtain rfl : ii = m := by omega
      have hz3 := J0.out.2.2.size
      have hB3 := J0.out.1.lt
      have FIN := Lib.hid (mkret_from (k := k) (d := 60) (mk_fin (k := k + 1 + 2 * r + ii) (d := 0) hB2 J0.out.2.1 HL.out HXL.out (by omega) J0.out.2.2 (J0.out.1.mono (by omega))) G2.out (by omega))
      clear HP HX HD
      by_cases hm0 : ii = 0
      · subst hm0
        clear J0
        go_wp2_with fail
        go_ret
        exact FIN.out
      · have hnp : (ii : Int) > 0 := by omega
        have hnd : decide ((ii : Int) > 0) = true := by simp; omega
        go_wp2_with fail
        refine (flip_any B (k + 1 + 2 * r + ii) 20 _ J0.out.1 (by omega) (by omega) (by omega)).mono ?_
        rintro e w3 ⟨fl, rfl, ho, hs⟩
        have O3 := Lib.hid (own_gr J0.out.2.1 (Gr.only ho) (by omega))
        have G3 := Lib.hid (J0.out.2.2.trans (Gr.only ho))
        have S3 := Lib.hid hs
        have hB3' := hs.lt
        have hz3' := G3.out.size
        have FIN3 := Lib.hid (mkret_from (k := k) (d := 60) (mk_fin (k := k + 1 + 2 * r + ii + 1) (d := 0) hB2 O3.out HL.out HXL.out (by omega) G3.out (S3.out.mono (by omega))) G2.out (by omega))
        clear ho hs J0 FIN hB3 hz3
        cases fl
        · go_wp2_with fail
          go_ret
          exact FIN3.out
        · clear FIN3
          obtain ⟨g, cap', hv, hgw, hlt2⟩ := O3.out.form (by omega)
          obtain ⟨rfl, _, rfl⟩ : A' = some ⟨g, 0, none⟩ ∧ True ∧ c' = cap' := by injection hv with a b c; exact ⟨a, trivial, c⟩
          clear hv
          go_wp2_with fail
          refine (next_any B (k + 1 + 2 * r + ii + 1) ii _ S3.out (by omega) (by omega) (by omega)).mono ?_
          rintro e w4 ⟨j, h0, h1, rfl, ho, hs⟩
          obtain ⟨j, rfl⟩ : ∃ z : Nat, j = z := ⟨j.toNat, by omega⟩
          have O4 := Lib.hid (own_gr O3.out (Gr.only ho) (by omega))
          have G4 := Lib.hid (G3.out.trans (Gr.only ho))
          have S4 := Lib.hid hs
          have hB4 := hs.lt
          have hz4 := G4.out.size
          have hjm : j < ii := by omega
          have hg4 := (O4.out.lt g rfl).2
          have j0 : (0 : Int) ≤ (j : Int) := by omega
          clear ho hs O3 G3 S3
          go_wp2_with fail
          refine (next_any B (k + 1 + 2 * r + ii + 1 + 1) 3 _ S4.out (by omega) (by omega) (by omega)).mono ?_
          rintro e w5 ⟨z, z0, z1, rfl, ho, hs⟩
          have O5 := Lib.hid (own_gr O4.out (Gr.only ho) (by omega))
          have G5 := Lib.hid (G4.out.trans (Gr.only ho))
          have S5 := Lib.hid hs
          have hB5 := hs.lt
          have hz5 := G5.out.size
          have hg5 := (O5.out.lt g rfl).2
          clear ho hs O4 G4 S4
          have hjl : j < l.length := by have := HL.out; omega
          have HXJ := Lib.hid (HXL.out _ (List.getElem_mem hjl))
          rcases (by omega : z = 0 ∨ z = 1 ∨ z = 2) with rfl | rfl | rfl
          · go_wp2_with fail
            refine (odd10_any B (k + 1 + 2 * r + ii + 1 + 1 + 1) 0 10 _ S5.out (by omega) (by omega) (by omega) (by omega)).mono ?_
            rintro e w6 ⟨x, x0, x1, rfl, hgr, hs⟩
            have O6 := Lib.hid (own_gr O5.out hgr (by omega))
            have G6 := Lib.hid (G5.out.trans hgr)
            have S6 := Lib.hid hs
            obtain ⟨v, cv⟩ : ∃ v, w6.cell? ⟨g, j * 3 + 2, none⟩ = some v := ⟨_, by have h := O6.out.cells (g := g) rfl _ _ (flatM_get l j hjl).2.2; rw [row_add'] at h; exact h⟩
            have fv := own_frozen O6.out (j * 3 + 2)
            have FIN := Lib.hid (mkret_from (k := k) (d := 60) (mk_set (k := k + 1 + 2 * r + ii + 1 + 1 + 1 + 2) (d := 0) (j := j) (p := j * 3 + 2) hB2 O6.out HL.out HXL.out (by omega) G6.out (S6.out.mono (by omega)) hgw (by omega) (flatM_set2 l j x hjl) ⟨HXJ.out.1, HXJ.out.2.1, x0, x1⟩) G2.out (by omega))
            clear hgr hs O5 G5 S5
            go_wp2_with fail
            go_ret
            exact FIN.out
          · go_wp2_with fail
            refine (some10_le 1000 B (k + 1 + 2 * r + ii + 1 + 1 + 1) _ _ [⟨#[]⟩, ⟨#[65]⟩, ⟨#[112, 122]⟩] _ _ _ (S5.out.keep (by go_grown)) (by omega) (by omega) (new_at rfl) (by simp) (by simp) (le_all (by decide +kernel))).mono ?_
            rintro e w6 ⟨x, hx, rfl, ho, hs⟩
            have Q6 := Lib.hid (((Gr.refl B w5).alloc (.cells #[.string ⟨#[]⟩, .string ⟨#[65]⟩, .string ⟨#[112, 122]⟩] 9)).trans (Gr.only ho))
            have O6 := Lib.hid (own_gr O5.out Q6.out (by omega))
            have G6 := Lib.hid (G5.out.trans Q6.out)
            have S6 := Lib.hid hs
            obtain ⟨v, cv⟩ : ∃ v, w6.cell? ⟨g, j * 3, none⟩ = some v := ⟨_, by have h := O6.out.cells (g := g) rfl _ _ (flatM_get l j hjl).1; rw [row_add'] at h; exact h⟩
            have fv := own_frozen O6.out (j * 3)
            have FIN := Lib.hid (mkret_from (k := k) (d := 60) (mk_set (k := k + 1 + 2 * r + ii + 1 + 1 + 1 + 1) (d := 0) (j := j) (p := j * 3) hB2 O6.out HL.out HXL.out (by omega) G6.out (S6.out.mono (by omega)) hgw (by omega) (flatM_set0 l j x hjl) ⟨hx, HXJ.out.2.1, HXJ.out.2.2⟩) G2.out (by omega))
            clear ho hs O5 G5 S5
            go_wp2_with fail
            go_ret
            exact FIN.out
          · have h0l : 0 < l.length := by omega
            have HX0 := Lib.hid (HXL.out _ (List.getElem_mem h0l))
            obtain ⟨e0, e1, e2⟩ := flatM_get l 0 h0l
            have q0 := O5.out.cells (g := g) rfl _ _ e0
            have q1 := O5.out.cells (g := g) rfl _ _ e1
            have q2 := O5.out.cells (g := g) rfl _ _ e2
            rw [row_add'] at q0 q1 q2
            generalize l[0] = y at *
            obtain ⟨yp, yh, ys⟩ := y
            simp only [Nat.zero_mul, Nat.zero_add] at q0 q1 q2
            have b1 : (0 : Int) < (ii : Int) := by omega
            clear e0 e1 e2
            go_wp2_with (at_builtin; (refine wpList_append_lies _ rfl _ _ _ rfl (w2.heap.size + 1) 51 i0 _ 3 40 Tryz.underlying29 HI.out Z0.out Z1.out Z2.out rfl (by omega) (.slice (some ⟨g, 0, none⟩) ii c') ii (flatM l) rfl (O5.out.alloc _) ⟨w5.heap.size, 0, none⟩ 1 1 [.string yp, .string yh, .int .i64 ys] rfl rfl (World.news_of_block (cs := #[.string yp, .string yh, .int .i64 ys]) (t := 51) (fr := (0, 0)) (heap_alloc_new w5 _)) (by simp [Value.oneCell']) (by omega) (by unfold maxLen; omega) (by omega) (by simp; omega) (w5.heap.size + 1) (by simp) ?_); intro gg cap7 w7 hown hgrow hat hgl; (have J7 := Lib.hid (m1_app (⟨S5.out, O5.out, G5.out⟩ : M1St w2 B _ ii _ l _ w5) hB2 ⟨yp, yh, ys⟩ hown hgrow)); clear hown hgrow hat hgl)
            have HX7 : Hid (∀ x ∈ l ++ [⟨yp, yh, ys⟩], mOk x) := Lib.hid (fun x hx => by
              rcases List.mem_append.1 hx with h | h
              · exact HXL.out x h
              · obtain rfl := List.mem_singleton.1 h; exact HX0.out)
            have FIN := Lib.hid (mkret_from (k := k) (d := 60) (mk_fin (k := k + 1 + 2 * r + ii + 1 + 1 + 1) (d := 0) hB2 J7.out.2.1 (by rw [List.length_append, HL.out]; rfl) HX7.out (by omega) J7.out.2.2 (J7.out.1.mono (by omega))) G2.out (by omega))
            go_wp2_with fail
            go_ret
            exact FIN.out
end Go.Proofs.YtmihbfmlnfhgcadGreatDoor.Cal
