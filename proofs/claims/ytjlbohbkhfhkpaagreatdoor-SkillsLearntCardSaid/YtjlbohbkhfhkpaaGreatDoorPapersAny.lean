/-
  THE WALK OF THE MAKER OF PAPERS.
-/
import Derived.Test.YtjlbohbkhfhkpaaGreatDoorPapersGen
namespace Go.Proofs.YtjlbohbkhfhkpaaGreatDoor.Stm
open Go.ChangeShapes Go.WideShapes Go.ChangeAt Go.RowKit Key
set_option linter.unusedVariables false
attribute [local go_sem ↓] Go.wp_at_zero Go.wp_at_succ

theorem infoPap : (Tryz.prog.info? 56).map (fun i => (i.zero, i.size, i.bytes)) = some (some (.agg #[.string ⟨#[]⟩, .string ⟨#[]⟩, .string ⟨#[]⟩, .slice none 0 0, .slice none 0 0]), 5, 96) := by kernel_rfl
def names4 : List ByteArray := [⟨#[97, 110, 110]⟩, ⟨#[98, 111]⟩, ⟨#[99, 121]⟩, ⟨#[100, 101, 101]⟩]

theorem below_two (w : World) (o o' : Obj) : Below w.heap.size w ((w.alloc o).alloc o').drew := (((Below.refl _ _).alloc (Nat.le_refl _) _).alloc (by simp) _).drew
theorem new_two (w : World) (o : Obj) (cs : Array Value) {t : TypeId} : ((w.alloc o).alloc (.cells cs t)).drew.heap[w.heap.size + 1]? = some (.cells cs t (0, 0)) := new_at (w := w.alloc o) (by simp)
/-- What Papers hands back. -/
def PGRet (B k : Nat) (w : World) (e : Ending) (w' : World) : Prop :=
  ∃ (A : Option Addr) (n c : Nat) (xs : List Pap), e = .returned (.slice A n c) ∧ xs.length = n ∧ n ≤ 5 ∧ n ≤ c ∧ (n = 0 ∨ ∃ g, A = some ⟨g, 0, none⟩ ∧ g ≠ B ∧ PB w' g xs) ∧ (∀ x ∈ xs, PapN w' B 7 x ∧ ∀ C, w'.heap.size ≤ C → AtB C x.A x.au.length ∧ AtB C x.B x.tp.length) ∧ Gr B w w' ∧ Strm w' B (k + 200)

set_option maxRecDepth 100000 in
set_option maxHeartbeats 16000000 in
theorem papers_gen (B k : Nat) (w : World) (hs : Strm w B k) (hk : k ≤ 900000) :
    Calls Tryz.prog 6 #[.pointer (some ⟨B, 0, none⟩), .int .i64 5] w (PGRet B k w) := by
  have hB := hs.lt
  have HS := Lib.hid hs
  clear hs
  go_enter Tryz.func6, Tryz.ntmps6
  go_wp2_with fail
  refine (next_any B k 6 _ HS.out (by omega) (by omega) (by omega)).mono ?_
  rintro e w0 ⟨r, r0, r1, rfl, ho, hs⟩
  obtain ⟨N, rfl⟩ : ∃ N : Nat, r = N := ⟨r.toNat, by omega⟩
  have G0 := Lib.hid (Gr.only ho)
  have HS0 := Lib.hid hs
  clear ho hs HS
  go_wp2_with fail
  go_loopw [5, 15] (fun out i wr => ∃ (j : Nat) (A : Option Addr) (c : Nat) (xs : List Pap), j ≤ N ∧ i = .int .i64 j ∧ out = .slice A j c ∧ xs.length = j ∧ Hid (∀ x ∈ xs, PapA wr (B :: (Value.slice A j c).ownBlock.toList) 6 x) ∧
    Hid (wr.ownsRow w.heap.size 56 5 (.slice A j c) j (flatP xs)) ∧ Hid (Gr B w wr) ∧ Hid (Strm wr B (k + 1 + j * 20))) (fun _ i _ => N - (intOf i).toNat)
  case atStart => exact ⟨0, none, 0, [], Nat.zero_le _, rfl, rfl, rfl, Lib.hid (by simp), Lib.hid (World.ownsRow_nil _ _ _ _), G0, HS0⟩
  case round =>
    obtain ⟨wo, rfl⟩ : ∃ wo : World, wo = wr := ⟨_, rfl⟩
    obtain ⟨j, A, c, xs, hj, rfl, rfl, hl, HX, HO, HG, HST⟩ := hrel
    have HL := Lib.hid hl
    have hz := HG.out.size
    have hBr := HST.out.lt
    clear hl G0 HS0
    by_cases hlt : j < N
    · have hen := enc_le j (by omega)
      have hsum : (⟨#[112]⟩ : ByteArray).size + (Utf8.encode (97 + (j : Int))).size ≤ 9223372036854775807 := by
        have : (⟨#[112]⟩ : ByteArray).size = 1 := rfl
        omega
      have hidz : ((⟨#[112]⟩ : ByteArray) ++ Utf8.encode (97 + (j : Int))).size ≤ 1000 := by
        rw [ByteArray.size_append]
        have : (⟨#[112]⟩ : ByteArray).size = 1 := rfl
        omega
      have hw32 : IntKind.i32.wrap (97 + (j : Int)) = 97 + (j : Int) := by
        rcases (by omega : j = 0 ∨ j = 1 ∨ j = 2 ∨ j = 3 ∨ j = 4) with rfl | rfl | rfl | rfl | rfl <;> rfl
      go_wp2_with fail
      clear hsum hw32 hen
      generalize (⟨#[112]⟩ : ByteArray) ++ Utf8.encode (97 + (j : Int)) = id at hidz ⊢
      refine (h06_le 1000 B (k + 1 + j * 20) _ _ [⟨#[109, 97, 105, 110]⟩, ⟨#[115, 105, 100, 101]⟩] _ _ _ (HST.out.keep (by go_grown)) (by omega) (by omega) (new_at (by simp)) (by simp) (by simp) (le_all (by decide +kernel))).mono ?_
      rintro e w1 ⟨tr, htr, rfl, ho, hs⟩
      have G1 := Lib.hid (((Gr.refl B wo).alloc (.cells #[.string ⟨#[109, 97, 105, 110]⟩, .string ⟨#[115, 105, 100, 101]⟩] 9)).trans (Gr.only ho))
      have S1 := Lib.hid hs
      have hB1 := hs.lt
      have z1 := G1.out.size
      clear ho hs
      go_wp2_with fail
      refine (h06_le 1000 B (k + 1 + j * 20 + 1) _ _ [⟨#[79, 110, 32, 98, 114, 101, 97, 100]⟩, ⟨#[84]⟩] _ _ _ (S1.out.keep (by go_grown)) (by omega) (by omega) (new_at (by simp)) (by simp) (by simp) (le_all (by decide +kernel))).mono ?_
      rintro e w2 ⟨ti, hti, rfl, ho, hs⟩
      have G2 := Lib.hid ((G1.out.alloc (.cells #[.string ⟨#[79, 110, 32, 98, 114, 101, 97, 100]⟩, .string ⟨#[84]⟩] 9)).trans (Gr.only ho))
      have S2 := Lib.hid hs
      have hB2 := hs.lt
      have z2 := G2.out.size
      clear ho hs G1 S1 hB1 z1
      go_wp2_with fail
      refine (topics_any _).mono ?_
      rintro e w3 ⟨rfl, rfl⟩
      go_wp2_with fail
      refine (some_any B (k + 1 + j * 20 + 1 + 1) w2.heap.size 6 6 3 topics6 _ _ _ (S2.out.keep (by go_grown)) (by omega) (by omega) (by simp) (heap_alloc_new w2 _) rfl (by omega) (by omega) (by omega) topics_le).mono ?_
      rintro e w4 ⟨Tb, tn, tc, tp, rfl, htl, htn, htz, hown, hgr, hs⟩
      have TL := Lib.hid htl
      have TZ := Lib.hid htz
      have TO := Lib.hid hown
      have G4 := Lib.hid ((G2.out.alloc (.cells (topics6.map Value.string).toArray 9)).trans hgr)
      have S4 := Lib.hid hs
      have hB4 := hs.lt
      have z4 := G4.out.size
      have zt : wo.heap.size ≤ (w2.alloc (.cells (topics6.map Value.string).toArray 9)).heap.size := by simp; omega
      clear hgr hs G2 S2 hB2 htl htz hown
      go_wp2_with fail
      refine (order_any B (k + 1 + j * 20 + 1 + 1 + 6) 4 _ (S4.out.keep (by go_grown)) (by omega) (by omega) (by omega)).mono ?_
      rintro e w5 ⟨g, gc, cs, rfl, hgc, hgl, hbk, hnum, hgr, hs⟩
      have C5 := Lib.hid ((Blk.new w4 56 #[.string id, .string tr, .string ti, .slice none 0 0, .slice Tb tn tc]))
      have B5 : Blk w5 w4.heap.size 56 #[.string id, .string tr, .string ti, .slice none 0 0, .slice Tb tn tc] := (hgr.block w4.heap.size (by simp) (by simp; omega)).trans C5.out
      have hg4 : w4.heap.size < g := by simp at hgl; omega
      have A5 := Lib.hid (show AS w4 B (k + 1 + j * 20 + 12) w4.heap.size g 0 id tr ti Tb tn tc w5 from ⟨none, 0, 0, [], cs, rfl, Nat.le_refl _, by simp, B5, World.ownsRow_nil _ _ _ _, hbk, hnum, ((Gr.refl B w4).alloc _).trans hgr, hs.mono (by omega)⟩)
      clear hbk hnum hgr hs C5 B5 S4
      go_wp2_with fail
      go_loopw [36] (fun i2 wy => ∃ a : Nat, a ≤ 4 ∧ i2 = .int .i64 a ∧ Hid (AS w4 B (k + 1 + j * 20 + 12 + a) w4.heap.size g a id tr ti Tb tn tc wy)) (fun i2 _ => 4 - (intOf i2).toNat)
      case atStart => exact ⟨0, by omega, rfl, A5⟩
      case round =>
        clear A5
        obtain ⟨a, ha, rfl, HA⟩ := hrel
        obtain ⟨Aa, m, ac, au, cs, q1, q2, q3, q4, q5, q6, q7, q8, q9⟩ := HA.out
        have QL := Lib.hid q1
        have QZ := Lib.hid q3
        have QB := Lib.hid q4
        have QO := Lib.hid q5
        have QG := Lib.hid q6
        have QN := Lib.hid q7
        have QR := Lib.hid q8
        have QS := Lib.hid q9
        have hBy := q9.lt
        have hPy := q4.lt
        clear q1 q3 q4 q5 q6 q7 q8 q9
        by_cases halt : a < 4
        · obtain ⟨z, hz4, hcz⟩ := QN.out a halt
          have cz := QG.out.cell a _ hcz
          have c3 : wr.cell? ⟨w4.heap.size, 3, none⟩ = some (.slice Aa m ac) := QB.out.cell 3 _ rfl
          obtain ⟨x, hx⟩ : ∃ x, names4[z]? = some x := ⟨_, List.getElem?_eq_getElem (show z < names4.length from hz4)⟩
          have hx2 : x.size ≤ 1000 := by
            rcases (by omega : z = 0 ∨ z = 1 ∨ z = 2 ∨ z = 3) with rfl | rfl | rfl | rfl <;> (injection hx with hx; subst hx; decide)
          have i0 : (0 : Int) ≤ (z : Int) := by omega
          have i1 : (z : Int) < 4 := by omega
          have HC4 : ∀ W : World, (W.alloc (.cells #[.string ⟨#[97, 110, 110]⟩, .string ⟨#[98, 111]⟩, .string ⟨#[99, 121]⟩, .string ⟨#[100, 101, 101]⟩] 9)).cell? ⟨W.heap.size, z, none⟩ = some (.string x) := fun W => by
            have hb := Blk.new W 9 #[.string ⟨#[97, 110, 110]⟩, .string ⟨#[98, 111]⟩, .string ⟨#[99, 121]⟩, .string ⟨#[100, 101, 101]⟩]
            refine hb.cell z _ ?_
            rcases (by omega : z = 0 ∨ z = 1 ∨ z = 2 ∨ z = 3) with rfl | rfl | rfl | rfl <;> (injection hx with hx; subst hx; rfl)
          have HCC := Lib.hid HC4
          clear hx HC4 hcz
          by_cases hm0 : m = 0
          · subst hm0
            clear c3
            have zc := HCC.out wr
            have c3 : wr.cell? ⟨w4.heap.size, 3, none⟩ = some (.slice Aa 0 ac) := QB.out.cell 3 _ rfl
            have f3 := QB.out.frozen 3
            go_wp2_with fail
            go_region_law ((first
              | (refine step_author (wq := w4) (v := wr) (B := B) (K := k + 1 + j * 20 + 12 + a) (Bp := w4.heap.size) (g := g) (a := a) (id := id) (tr := tr) (ti := ti) (Tb := Tb) (tn := tn) (tc := tc) (A := Aa) (m := 0) (c := ac) (au := au) (cs := cs) (x := x) _ _ (by rfl) (by rfl) (by rfl) (by rfl) (below_two wr _ _) (new_two wr _ _) hx2 QL.out (by omega) (by omega) QZ.out QB.out QO.out QG.out QN.out QR.out QS.out (Nat.le_refl _) hB4 ?_
                 intro gg cap' w9 has c39 y39
                 have HP := Lib.hid has
                 clear has)))
            all_goals
              go_wp2_with fail
              go_roundw
              case rel => exact ⟨a + 1, by omega, by go_num, Lib.hid (HP.out.mono (by omega) (Nat.le_refl _))⟩
              case measure => simp [intOf]; omega
          · have hmb : ((m : Int) == 0) = false := by simp; omega
            go_wp2_with fail
            refine (flip_any B (k + 1 + j * 20 + 12 + a) 3 _ QS.out (by omega) (by omega) (by omega)).mono ?_
            rintro e wz ⟨fl, rfl, ho, hs⟩
            cases fl
            · go_wp2_with fail
              go_roundw
              case rel => exact ⟨a + 1, by omega, by go_num, Lib.hid ⟨Aa, m, ac, au, cs, QL.out, by omega, QZ.out, QB.out.only ho (by omega), row_only QO.out ho (by omega), QG.out.only ho (by omega), QN.out, QR.out.trans (Gr.only ho), hs⟩⟩
              case measure => simp [intOf]; omega
            · replace QB := Lib.hid (QB.out.only ho (by omega))
              replace QO := Lib.hid (row_only QO.out ho (by omega))
              replace QG := Lib.hid (QG.out.only ho (by omega))
              replace QR := Lib.hid (QR.out.trans (Gr.only ho))
              replace QS := Lib.hid hs
              have hPz := QB.out.lt
              clear ho hs c3 cz hBy hPy hmb
              have zc := HCC.out wz
              have c3 : wz.cell? ⟨w4.heap.size, 3, none⟩ = some (.slice Aa m ac) := QB.out.cell 3 _ rfl
              have f3 := QB.out.frozen 3
              go_wp2_with fail
              go_region_law ((first
                | (refine step_author (wq := w4) (v := wz) (B := B) (K := k + 1 + j * 20 + 12 + a + 1) (Bp := w4.heap.size) (g := g) (a := a) (id := id) (tr := tr) (ti := ti) (Tb := Tb) (tn := tn) (tc := tc) (A := Aa) (m := m) (c := ac) (au := au) (cs := cs) (x := x) _ _ (by rfl) (by rfl) (by rfl) (by rfl) (below_two wz _ _) (new_two wz _ _) hx2 QL.out (by omega) (by omega) QZ.out QB.out QO.out QG.out QN.out QR.out QS.out (Nat.le_refl _) hB4 ?_
                   intro gg cap' w9 has c39 y39
                   have HP := Lib.hid has
                   clear has)))
              all_goals
                go_wp2_with fail
                go_roundw
                case rel => exact ⟨a + 1, by omega, by go_num, Lib.hid (HP.out.mono (by omega) (Nat.le_refl _))⟩
                case measure => simp [intOf]; omega
        · have ha4 : a = 4 := by omega
          subst ha4
          have d0 := QB.out.cell 0 _ rfl
          have d1 := QB.out.cell 1 _ rfl
          have d2 := QB.out.cell 2 _ rfl
          have d3 := QB.out.cell 3 _ rfl
          have d4 := QB.out.cell 4 _ rfl
          have GO := Lib.hid (G4.out.trans QR.out)
          have OO := Lib.hid (row_gr2 HO.out GO.out hB)
          have zo := GO.out.size
          have TT := Lib.hid (row_la (bad := B :: (Value.slice A j c).ownBlock.toList) (row_gr2 TO.out QR.out (by omega)) TL.out TZ.out (fun i hi => by
            rcases List.mem_cons.1 hi with e | e
            · omega
            · rcases hb : (Value.slice A j c).ownBlock with _ | g'
              · rw [hb] at e; simp at e
              · rw [hb] at e; simp at e; have := HO.out.lt g' hb; omega))
          have AU := Lib.hid (row_la (bad := B :: (Value.slice A j c).ownBlock.toList) QO.out QL.out QZ.out (fun i hi => by
            rcases List.mem_cons.1 hi with e | e
            · omega
            · rcases hb : (Value.slice A j c).ownBlock with _ | g'
              · rw [hb] at e; simp at e
              · rw [hb] at e; simp at e; have := HO.out.lt g' hb; omega))
          have cap1 := row_cap QO.out
          have cap2 := row_cap TO.out
          have NEW := Lib.hid (show PapA wr (B :: (Value.slice A j c).ownBlock.toList) 6 ⟨id, tr, ti, Aa, Tb, ac, tc, au, tp⟩ from ⟨hidz, htr, hti, by show au.length ≤ 6; rw [QL.out]; omega, by show tp.length ≤ 6; rw [TL.out]; omega, by show au.length ≤ ac; rw [QL.out]; omega, by show tp.length ≤ tc; rw [TL.out]; omega, AU.out, TT.out⟩)
          have OLD := Lib.hid (fun y (hy : y ∈ xs) => (HX.out y hy).kp (Kp.gr GO.out (by simp)))
          have FL := Lib.hid (show flatP (xs ++ [⟨id, tr, ti, Aa, Tb, ac, tc, au, tp⟩]) = flatP xs ++ [.string id, .string tr, .string ti, .slice Aa m ac, .slice Tb tn tc] by rw [flatP_snoc]; unfold Pap.cells; rw [QL.out, TL.out])
          obtain ⟨i0, hi0, hz0, hz1', hz2⟩ := info_parts infoPap
          have HI := Lib.hid hi0
          have Z0 := Lib.hid hz0
          have Z1 := Lib.hid hz1'
          have Z2 := Lib.hid hz2
          clear hi0 hz0 hz1' hz2 TT AU HX HO HA QB QG QN QO QZ TO TZ hidz htr hti
          go_wp2_with (at_builtin; (refine wpList_append_lies _ rfl _ _ _ rfl w.heap.size 56 i0 _ 5 96 Tryz.underlying30 HI.out Z0.out Z1.out Z2.out rfl (by omega) (.slice A j c) j (flatP xs) rfl (OO.out.alloc _) ⟨wr.heap.size, 0, none⟩ 1 1 [.string id, .string tr, .string ti, .slice Aa m ac, .slice Tb tn tc] rfl rfl (World.news_of_block (cs := #[.string id, .string tr, .string ti, .slice Aa m ac, .slice Tb tn tc]) (t := 56) (fr := (0, 0)) (heap_alloc_new wr _)) (by simp [Value.oneCell']) (by omega) (by unfold maxLen; omega) (by omega) (by simp; omega) (wr.heap.size + 1) (by simp) ?_); intro gg cap' w7 hown hgrow hat hgl; (have O2 := Lib.hid (show w7.ownsRow w.heap.size 56 5 _ (j + 1) (flatP (xs ++ [⟨id, tr, ti, Aa, Tb, ac, tc, au, tp⟩])) by rw [FL.out]; exact hown)); (have G2 := Lib.hid (row_gr ((HG.out.trans GO.out).alloc (.cells #[.string id, .string tr, .string ti, .slice Aa m ac, .slice Tb tn tc] 56)) hgrow (fun g e => (OO.out.lt g e).1))); (have S2 := Lib.hid (QS.out.keep (((Below.refl _ _).alloc (by omega) (.cells #[.string id, .string tr, .string ti, .slice Aa m ac, .slice Tb tn tc] 56)).trans (grown_below hgrow (fun g e => by have := (OO.out.lt g e).1; omega) (by simp; omega))))); (have X2 := Lib.hid (show ∀ y ∈ xs ++ [(⟨id, tr, ti, Aa, Tb, ac, tc, au, tp⟩ : Pap)], PapA w7 [B, gg] 6 y from fun y hy => by rcases List.mem_append.1 hy with h | h; exact papA_push (OLD.out y h) hgrow hat; (simp at h; subst h; exact papA_push NEW.out hgrow hat))); clear hown hgrow hat)
          go_roundw
          case rel => exact ⟨j + 1, some ⟨gg, 0, none⟩, cap', xs ++ [⟨id, tr, ti, Aa, Tb, ac, tc, au, tp⟩], by omega, by go_num, rfl, by simp [HL.out], X2, O2, G2, Lib.hid (S2.out.mono (by omega))⟩
          case measure => simp [intOf]; omega
    · have hjN : j = N := by omega
      subst hjN
      go_wp2_with fail
      refine (flip_any B (k + 1 + j * 20) 12 _ HST.out (by omega) (by omega) (by omega)).mono ?_
      rintro e w7 ⟨fl, rfl, ho, hs⟩
      have G7 := Lib.hid (HG.out.trans (Gr.only ho))
      have X7 := Lib.hid (fun y (hy : y ∈ xs) => (HX.out y hy).kp (Kp.gr (Gr.only ho) (by simp)))
      have O7 := Lib.hid (row_only HO.out ho hB)
      have S7 := Lib.hid hs
      clear ho hs HG HX HO HST
      by_cases hj0 : j = 0
      · subst hj0
        have FIN := Lib.hid (show PGRet B k w (.returned (.slice A 0 c)) w7 from ⟨A, 0, c, xs, rfl, HL.out, by omega, by omega, Or.inl rfl, fun y hy => ⟨((X7.out y hy).papN (by simp) (by omega)).mono (by omega), (X7.out y hy).far⟩, G7.out, S7.out.mono (by omega)⟩)
        cases fl
        all_goals
          go_wp2_with fail
          go_ret
          exact FIN.out
      obtain ⟨g, cap', hv, hgw, hlt2⟩ := O7.out.form (by omega)
      obtain ⟨rfl, _, rfl⟩ : A = some ⟨g, 0, none⟩ ∧ True ∧ c = cap' := by injection hv with a b c; exact ⟨a, trivial, c⟩
      have P7 := Lib.hid (row_pb O7.out HL.out)
      have hcap := row_cap O7.out
      cases fl
      · have FIN := Lib.hid (show PGRet B k w (.returned (.slice (some ⟨g, 0, none⟩) j c)) w7 from ⟨_, j, c, xs, rfl, HL.out, by omega, hcap, Or.inr ⟨g, rfl, by omega, P7.out⟩, fun y hy => ⟨((X7.out y hy).papN (by simp) (by omega)).mono (by omega), (X7.out y hy).far⟩, G7.out, S7.out.mono (by omega)⟩)
        go_wp2_with fail
        go_ret
        exact FIN.out
      · have hjp : (j : Int) > 0 := by omega
        clear hv
        go_wp2_with fail
        refine (next_any B (k + 1 + j * 20 + 1) j _ S7.out (by omega) (by omega) (by omega)).mono ?_
        rintro e w8 ⟨kk, h0, h1, rfl, ho, hs⟩
        obtain ⟨kk, rfl⟩ : ∃ z : Nat, kk = z := ⟨kk.toNat, by omega⟩
        have hkk : kk < xs.length := by have := HL.out; omega
        have G8 := Lib.hid (G7.out.trans (Gr.only ho))
        have X8 := Lib.hid (fun y (hy : y ∈ xs) => (X7.out y hy).kp (Kp.gr (Gr.only ho) (by simp)))
        have P8 := Lib.hid (P7.out.gr (Gr.only ho) (by omega))
        have S8 := Lib.hid hs
        have hg8 : g < w8.heap.size := P8.out.lt
        clear ho hs G7 X7 P7 S7 O7
        obtain ⟨c0, c1, c2, c3, c4⟩ := P8.out.cell kk hkk
        have NX := Lib.hid ((X8.out _ (List.getElem_mem hkk)).papN (B := B) (by simp) (by omega))
        have AX := Lib.hid (X8.out _ (List.getElem_mem hkk))
        generalize hxx : xs[kk] = x at *
        clear hxx
        have HSP := Lib.hid (spoiled_any B (k + 1 + j * 20 + 1 + 1) 6 x w8 S8.out (by omega) NX.out (by omega))
        unfold Pap.cells at HSP
        go_wp2_with fail
        refine (HSP.out).mono ?_
        rintro e w9 ⟨y, rfl, hyN, hgr, hs, hat⟩
        obtain ⟨hA, hBt⟩ := hat g (Or.inl hg8) (AX.out.2.2.2.2.2.2.2.1.atB (by simp [Value.ownBlock])) (AX.out.2.2.2.2.2.2.2.2.atB (by simp [Value.ownBlock]))
        have P9 := Lib.hid (P8.out.gr hgr (by omega))
        have X9 := Lib.hid (fun y (hy : y ∈ xs) => (X8.out y hy).kp (Kp.gr hgr (by simp)))
        have G9 := Lib.hid (G8.out.trans hgr)
        have S9 := Lib.hid hs
        have YN := Lib.hid hyN
        have YA := Lib.hid hA
        have YB := Lib.hid hBt
        have YF := Lib.hid (fun C (hC : w9.heap.size ≤ C) => hat C (Or.inr hC) (AX.out.far C (Nat.le_trans hgr.size hC)).1 (AX.out.far C (Nat.le_trans hgr.size hC)).2)
        obtain ⟨yp, yt, yti, yA, yB, yca, ycb, yau, ytp⟩ := y
        clear hgr hs hyN hA hBt hat c0 c1 c2 c3 c4 G8 X8 P8 S8 HSP NX AX
        obtain ⟨c0, c1, c2, c3, c4⟩ := P9.out.cell kk hkk
        have f0 := P9.out.frozen (kk * 5)
        have f1 := P9.out.frozen (kk * 5 + 1)
        have f2 := P9.out.frozen (kk * 5 + 2)
        have f3 := P9.out.frozen (kk * 5 + 3)
        have f4 := P9.out.frozen (kk * 5 + 4)
        unfold Pap.cells
        go_wp2_with fail
        go_ret
        refine ⟨_, j, c, xs.set kk ⟨yp, yt, yti, yA, yB, yca, ycb, yau, ytp⟩, rfl, by rw [List.length_set]; exact HL.out, by omega, hcap, Or.inr ⟨g, rfl, by omega, P9.out.set kk hkk ⟨yp, yt, yti, yA, yB, yca, ycb, yau, ytp⟩⟩, fun z hz => ?_, gr_far5 G9.out hgw _ _ _ _ _, (S9.out.keep (bel_far5 (by omega) _ _ _ _ _)).mono (by omega)⟩
        rcases List.mem_or_eq_of_mem_set hz with h | h
        · have hN := (X9.out z h)
          exact ⟨(PapN.far5 (hN.papN (B := B) (by simp) (by omega)) (hN.2.2.2.2.2.2.2.1.atB (by simp [Value.ownBlock])) (hN.2.2.2.2.2.2.2.2.atB (by simp [Value.ownBlock])) _ _ _ _ _).mono (by omega), fun C hC => hN.far C (by simpa using hC)⟩
        · subst h; exact ⟨PapN.far5 YN.out YA.out YB.out _ _ _ _ _, fun C hC => YF.out C (by simpa using hC)⟩
end Go.Proofs.YtjlbohbkhfhkpaaGreatDoor.Stm
