/-
  THE CONTRACT OF THE MAKER Answers.
-/
import Derived.Test.YthglfcfnejjpjaaGreatDoorSheetGen
import Derived.Deep.RegionLaw
import Derived.Deep.CutBlock
import Derived.Deep.DeepCutAuto
namespace Go.Proofs.YthglfcfnejjpjaaGreatDoor.Rev
open Go.ChangeShapes Go.WideShapes Go.ChangeAt Go.RowKit Stm Key
set_option linter.unusedVariables false

theorem infoA : (Tryz.prog.info? 51).map (fun i => (i.zero, i.size, i.bytes)) = some (some (.agg #[.string ⟨#[]⟩, .int .i64 0, .string ⟨#[]⟩, .string ⟨#[]⟩]), 4, 56) := by kernel_rfl
/-- What the maker of answers hands back. -/
def AnRet (B k d M : Nat) (w : World) (e : Ending) (w' : World) : Prop := ∃ (A : Option Addr) (n c : Nat) (l : List An), e = .returned (.slice A n c) ∧ l.length = n ∧ n ≤ M ∧ n ≤ c ∧ AL w' A l ∧ AtB B A n ∧ Gr B w w' ∧ Strm w' B (k + d)

theorem own_le {w : World} {base E S n cap : Nat} {A : Option Addr} {xs : List Value} (h : w.ownsRow base E S (.slice A n cap) n xs) : n ≤ cap := by
  rcases h.2 with ⟨e, e0⟩ | ⟨g', cap', cur, e, hb, hh, h1, _⟩
  · omega
  · injection e with e1 e2 e3; subst e3; exact h1
theorem only_undrew {B : Nat} {w w' : World} (h : Only B w.drew w') : Only B w w' := ⟨h.os, h.tape, h.output, h.size, h.block⟩
theorem strm_drew {B k : Nat} {w : World} (h : Strm w B k) : Strm w.drew B k := h.keep ((Below.refl _ _).drew)
/-- Behind the switch: the answer is made. -/
def AnJ (B K g : Nat) (w : World) (qk : ByteArray) (v : Value) (m : Nat) (xs : List Value) (wx : World) : Prop := ∃ (x : Int) (y z : ByteArray), (-1099511627776 ≤ x ∧ x ≤ 1099511627776) ∧ y.size ≤ 1000 ∧ z.size ≤ 1000 ∧
  Blk wx g 51 #[.string qk, .int .i64 x, .string y, .string z] ∧ Gr B w wx ∧ Strm wx B K ∧ wx.ownsRow w.heap.size 51 4 v m xs
theorem an_set {B K g : Nat} {w wx : World} {qk : ByteArray} {v : Value} {m : Nat} {xs : List Value} {x x' : Int} {y z y' z' : ByteArray} {i : Nat} {u : Value} (hB : B < w.heap.size) (hg : w.heap.size ≤ g) (hx : -1099511627776 ≤ x' ∧ x' ≤ 1099511627776) (hy : y'.size ≤ 1000) (hz : z'.size ≤ 1000)
    (K0 : Blk wx g 51 #[.string qk, .int .i64 x, .string y, .string z]) (G : Gr B w wx) (S : Strm wx B K) (O : wx.ownsRow w.heap.size 51 4 v m xs) (hO : v.ownBlock ≠ some g)
    (he : (#[Value.string qk, .int .i64 x, .string y, .string z]).setIfInBounds i u = #[.string qk, .int .i64 x', .string y', .string z']) : AnJ B K g w qk v m xs (wx.setCell ⟨g, i, none⟩ u) :=
  ⟨x', y', z', hx, hy, hz, by have := K0.set_ i u; rwa [he] at this, G.setCell hg u, S.keep ((Below.refl _ _).setCell (p := ⟨g, i, none⟩) (show B + 1 ≤ g by omega) u), O.kept (grown_set u) (Or.inr hO)⟩

set_option maxRecDepth 100000 in
set_option maxHeartbeats 16000000 in
theorem answers_any (B k : Nat) (A : Option Addr) (n c : Nat) (qs : List Qs) (w : World) (hs : Strm w B k) (hk : k ≤ 700000) (hn : qs.length = n) (hn2 : n ≤ 5) (hq : QL B w A qs) :
    Calls Tryz.prog 5 #[.pointer (some ⟨B, 0, none⟩), .slice A n c] w (AnRet B k 21 6 w) := by
  have hB := hs.lt
  have HS := Lib.hid hs
  have HQ := Lib.hid hq
  have HN := Lib.hid hn
  clear hs hq hn
  obtain ⟨i0, hi0, hz0, hz1, hz2⟩ := info_parts infoA
  have HI := Lib.hid hi0
  have Z0 := Lib.hid hz0
  have Z1 := Lib.hid hz1
  have Z2 := Lib.hid hz2
  clear hi0 hz0 hz1 hz2
  go_enter Tryz.func5, Tryz.ntmps5
  go_wp2_with fail
  go_loopw [5, 12] (fun o i wr => ∃ (j : Nat) (Ax : Option Addr) (m cx : Nat) (l : List An), j ≤ n ∧ i = .int .i64 j ∧ o = .slice Ax m cx ∧ m ≤ j ∧ Hid (l.length = m ∧ ∀ x ∈ l, aOk x) ∧ Hid (wr.ownsRow w.heap.size 51 4 (.slice Ax m cx) m (flatA l)) ∧ Hid (Gr B w wr) ∧ Hid (Strm wr B (k + 3 * j))) (fun _ i _ => n - (intOf i).toNat)
  case atStart => exact ⟨0, none, 0, 0, [], Nat.zero_le _, rfl, rfl, Nat.zero_le _, Lib.hid ⟨rfl, by simp⟩, Lib.hid (World.ownsRow_nil _ _ _ _), Lib.hid (Gr.refl _ _), HS⟩
  case round =>
    obtain ⟨j, Ax, m, cx, l, hj, rfl, rfl, hmj, HL, HO, HG, HT⟩ := hrel
    rename World => w1
    have hz1 := HG.out.size
    have hB1 := HT.out.lt
    by_cases hlt : j < n
    · have hjl : j < qs.length := by rw [HN.out]; exact hlt
      obtain ⟨hok, hcells⟩ := HQ.out.gr HG.out
      obtain ⟨b, hA, hbl, hbB, hc⟩ := hcells (by omega)
      obtain ⟨c0, c1, c2, ⟨v, c3, ho3⟩, c4, c5⟩ := hc j hjl
      have hqk := hok _ (List.getElem_mem hjl)
      generalize qs[j] = q at *
      obtain ⟨qk, qd, qm, qo, nd, sc⟩ := q
      obtain ⟨Ao, co, hv, hco, hsl, hab⟩ := ho3
      subst hv
      obtain ⟨hq0, hq1, hq2, hq3⟩ := hqk
      obtain ⟨hq1a, hq1b⟩ := hq1
      obtain ⟨hq2a, hq2b⟩ := hq2
      simp only at c0 c1 c2 c3 c4 c5 hq0 hq1a hq1b hq2a hq2b hq3 hco hsl hab
      have OS := Lib.hid hsl
      have OA := Lib.hid hab
      have a0 : (0 : Int) ≤ (j : Int) := by omega
      have a1 : (j : Int) < (n : Int) := by omega
      subst hA
      have KQ := Lib.hid (Blk.new w1 45 #[.string qk, .int .i64 qd, .int .i64 qm, .slice Ao qo.length co, .bool nd, .bool sc])
      have G1 := Lib.hid (HG.out.alloc (.cells #[.string qk, .int .i64 qd, .int .i64 qm, .slice Ao qo.length co, .bool nd, .bool sc] 45))
      have S1 := Lib.hid (HT.out.keep (show Below (B + 1) w1 (w1.alloc (.cells #[.string qk, .int .i64 qd, .int .i64 qm, .slice Ao qo.length co, .bool nd, .bool sc] 45)) by go_grown))
      have O1 := Lib.hid (HO.out.alloc (.cells #[.string qk, .int .i64 qd, .int .i64 qm, .slice Ao qo.length co, .bool nd, .bool sc] 45))
      have SX := Lib.hid ((sl_gr OS.out OA.out ((Gr.refl B w1).alloc (.cells #[.string qk, .int .i64 qd, .int .i64 qm, .slice Ao qo.length co, .bool nd, .bool sc] 45))))
      have hne : w1.heap.size ≠ B := by omega
      clear hcells hc hsl hab hok HG HT HO OS
      rcases Bool.eq_false_or_eq_true nd with rfl | rfl
      focus
        go_wp2_with fail
        refine (flip_any B (k + 3 * j) 9 _ S1.out (by omega) (by omega) (by omega)).mono ?_
        rintro e w3 ⟨fl, rfl, ho, hs⟩
        have G3 := Lib.hid (G1.out.trans (Gr.only ho))
        have S3 := Lib.hid (hs.mono (show k + 3 * j + 1 ≤ k + 3 * j + 1 + 1 by omega))
        have O3 := Lib.hid (own_only O1.out ho hB)
        have K3 := Lib.hid (KQ.out.only ho hne)
        have X3 := Lib.hid (sl_gr SX.out OA.out (Gr.only ho))
        clear ho hs G1 S1 O1 KQ SX
      rotate_left
      focus
        go_wp2_with fail
        refine (flip_any B (k + 3 * j) 2 _ S1.out (by omega) (by omega) (by omega)).mono ?_
        rintro e w2 ⟨fl, rfl, ho, hs⟩
        have G2 := Lib.hid (G1.out.trans (Gr.only ho))
        have S2 := Lib.hid hs
        have O2 := Lib.hid (own_only O1.out ho hB)
        have K2 := Lib.hid (KQ.out.only ho hne)
        have X2 := Lib.hid (sl_gr SX.out OA.out (Gr.only ho))
        clear ho hs G1 S1 O1 KQ SX
        rcases Bool.eq_false_or_eq_true fl with rfl | rfl
        · go_wp2_with fail
          go_roundw
          case rel => exact ⟨j + 1, Ax, m, cx, l, by omega, by go_num, rfl, by omega, HL, O2, G2, Lib.hid (S2.out.mono (by omega))⟩
          case measure => simp [intOf]; omega
        go_wp2_with fail
        refine (flip_any B (k + 3 * j + 1) 9 _ S2.out (by omega) (by omega) (by omega)).mono ?_
        rintro e w3 ⟨fl, rfl, ho, hs⟩
        have G3 := Lib.hid (G2.out.trans (Gr.only ho))
        have S3 := Lib.hid hs
        have O3 := Lib.hid (own_only O2.out ho hB)
        have K3 := Lib.hid (K2.out.only ho hne)
        have X3 := Lib.hid (sl_gr X2.out OA.out (Gr.only ho))
        clear ho hs G2 S2 O2 K2 X2
      all_goals
        rcases Bool.eq_false_or_eq_true fl with rfl | rfl
        · go_wp2_with fail
          go_roundw
          case rel => exact ⟨j + 1, Ax, m, cx, l, by omega, by go_num, rfl, by omega, HL, O3, G3, Lib.hid (S3.out.mono (by omega))⟩
          case measure => simp [intOf]; omega
        have hz3 := K3.out.lt
        have hz3w : w.heap.size ≤ w3.heap.size := G3.out.size
        have hB3 := S3.out.lt
        have k0 := K3.out.cell 0 _ rfl
        have k1 := K3.out.cell 1 _ rfl
        have k2 := K3.out.cell 2 _ rfl
        have k3 := K3.out.cell 3 _ rfl
        have KA := Lib.hid (Blk.new w3 51 #[.string qk, .int .i64 0, .string ⟨#[]⟩, .string ⟨#[]⟩])
        have K4 := Lib.hid (K3.out.alloc (.cells #[.string qk, .int .i64 0, .string ⟨#[]⟩, .string ⟨#[]⟩] 51))
        have G4 := Lib.hid (G3.out.alloc (.cells #[.string qk, .int .i64 0, .string ⟨#[]⟩, .string ⟨#[]⟩] 51))
        have S4 := Lib.hid (S3.out.keep (show Below (B + 1) w3 (w3.alloc (.cells #[.string qk, .int .i64 0, .string ⟨#[]⟩, .string ⟨#[]⟩] 51)) by go_grown))
        have O4 := Lib.hid (O3.out.alloc (.cells #[.string qk, .int .i64 0, .string ⟨#[]⟩, .string ⟨#[]⟩] 51))
        have X4 := Lib.hid (sl_gr X3.out OA.out ((Gr.refl B w3).alloc (.cells #[.string qk, .int .i64 0, .string ⟨#[]⟩, .string ⟨#[]⟩] 51)))
        have hne3 : w3.heap.size ≠ B := by omega
        have HOW : Hid ((Value.slice Ax m cx).ownBlock ≠ some w3.heap.size) := Lib.hid (by
          intro e; have := O3.out.lt _ e; omega)
        clear G3 S3 O3 K3 X3
        go_upto_block 2 with fail
        go_cut [] (fun wx => AnJ B (k + 3 * j + 3) w3.heap.size w qk (.slice Ax m cx) m (flatA l) wx)
        case first =>
          rcases (by by_cases h1 : qd = 1; exact Or.inl h1; by_cases h2 : qd = 2; exact Or.inr (Or.inl h2); exact Or.inr (Or.inr ⟨h1, h2⟩) : qd = 1 ∨ qd = 2 ∨ (qd ≠ 1 ∧ qd ≠ 2)) with rfl | rfl | ⟨hd1, hd2⟩
          · go_wp2_with fail
            all_goals
              refine (range_any B _ 0 _ _ S4.out (by omega) (by omega) (by omega) (by omega)).mono ?_
              rintro e w5 ⟨r, r0, r1, rfl, ho, hs⟩
              have K5 := Lib.hid ((KA.out).only ho hne3)
              have G5 := Lib.hid (G4.out.trans (Gr.only ho))
              have S5 := Lib.hid hs
              have O5 := Lib.hid (own_only O4.out ho hB)
              have f1 := K5.out.frozen 1
              have d1 := K5.out.cell 1 _ rfl
              clear ho hs
              go_wp2_with fail
              go_meet
              case rel => exact an_set hB hz3w (by omega) (Nat.zero_le _) (Nat.zero_le _) K5.out G5.out (S5.out.mono (by omega)) O5.out HOW.out rfl
          · by_cases hlen : 0 < qo.length
            · have dl : decide ((qo.length : Int) > 0) = true := by simp; omega
              obtain ⟨b2, hA2, hb2, hc2⟩ := X4.out.2 hlen
              have hb2B : b2 ≠ B := by
                rcases OA.out with ⟨_, h0⟩ | ⟨g, e, hg⟩
                · omega
                · rw [hA2] at e; injection e with e; injection e with e; omega
              subst hA2
              have HC2 := Lib.hid hc2
              clear hc2
              go_wp2_with fail
              go_region_law ((first
                | (go_simp; go_at_call 17
                   refine (next_any B (k + 3 * j + 2) _ _ (strm_drew S4.out) (by omega) (by omega) (by omega)).mono ?_
                   rintro e w5 ⟨r, r0, r1, rfl, ho, hs⟩
                   obtain ⟨ri, rfl⟩ : ∃ ri : Nat, r = ri := ⟨r.toNat, by omega⟩
                   have hri : ri < qo.length := by omega
                   replace ho := only_undrew ho
                   have K5 := Lib.hid (KA.out.only ho hne3)
                   have G5 := Lib.hid (G4.out.trans (Gr.only ho))
                   have S5 := Lib.hid hs
                   have O5 := Lib.hid (own_only O4.out ho hB)
                   have oc := ((Gr.only ho).cell b2 ri hb2 hb2B).trans (HC2.out ri hri)
                   have q3 := (K4.out.only ho hne).cell 3 _ rfl
                   have hos := X4.out.1 _ (List.getElem_mem hri)
                   have f2 := K5.out.frozen 2
                   have d2 := K5.out.cell 2 _ rfl
                   clear ho hs)))
              all_goals
                go_wp2_with fail
                go_meet
                case rel => exact an_set hB hz3w (by omega) hos (Nat.zero_le _) K5.out G5.out (S5.out.mono (by omega)) O5.out HOW.out rfl
            · have dl : decide ((qo.length : Int) > 0) = false := decide_eq_false (by omega)
              go_wp2_with fail
              go_meet
              case rel => exact ⟨0, ⟨#[]⟩, ⟨#[]⟩, by omega, Nat.zero_le _, Nat.zero_le _, KA.out, G4.out, S4.out.mono (by omega), O4.out⟩
          · have hb1 : (qd == 1) = false := by rw [beq_eq_false_iff_ne]; exact hd1
            have hb2 : (qd == 2) = false := by rw [beq_eq_false_iff_ne]; exact hd2
            go_wp2_with fail
            refine (some10_le 1000 B _ _ _ [⟨#[97, 10]⟩, ⟨#[10]⟩, ⟨#[121, 101, 115, 32, 97, 110, 100, 32, 110, 111, 10]⟩, ⟨#[111, 110, 101, 10, 10, 116, 119, 111, 10]⟩] _ _ _ (S4.out.keep (by go_grown)) (by omega) (by simp; omega) (new_at (by simp)) (by simp) (by simp) (le_all (by decide +kernel))).mono ?_
            rintro e w5 ⟨y, hy, rfl, ho, hs⟩
            have K5 := Lib.hid ((KA.out.alloc _).only ho hne3)
            have Q5 := Lib.hid ((K4.out.alloc _).only ho hne)
            have G5 := Lib.hid ((G4.out.alloc _).trans (Gr.only ho))
            have S5 := Lib.hid hs
            have O5 := Lib.hid (own_only (O4.out.alloc _) ho hB)
            have f3 := K5.out.frozen 3
            have d3 := K5.out.cell 3 _ rfl
            have q2 : w5.cell? ⟨w1.heap.size, 2, none⟩ = some (.int .i64 qm) := Q5.out.cell 2 _ rfl
            have hlt13 : w1.heap.size ≠ w3.heap.size := by omega
            clear ho hs k0 k1 k2 k3
            cases hy2 : decide ((y.size : Int) > qm)
            · go_wp2_with fail
              go_meet
              case rel => exact an_set hB hz3w (by omega) (Nat.zero_le _) hy K5.out G5.out (S5.out.mono (by omega)) O5.out HOW.out rfl
            · go_wp2_with fail
              go_meet
              case rel => exact an_set hB hz3w (by omega) (Nat.zero_le _) (Nat.le_of_ble_eq_true rfl) (K5.out.set_ 3 (.string y)) (G5.out.setCell hz3w _) ((S5.out.keep ((Below.refl _ _).setCell (p := ⟨w3.heap.size, 3, none⟩) (show B + 1 ≤ w3.heap.size by omega) _)).mono (by omega)) (O5.out.kept (grown_set _) (Or.inr HOW.out)) HOW.out rfl
        case rest =>
          obtain ⟨x, y, z, hx, hy, hz, hk, hg, hs, ho⟩ := hcut
          have KX := Lib.hid hk
          have GX := Lib.hid hg
          have SX2 := Lib.hid hs
          have OX := Lib.hid ho
          have OK := Lib.hid (show ∀ v ∈ l ++ [(⟨qk, x, y, z⟩ : An)], aOk v from fun v hv => by
            rcases List.mem_append.1 hv with h | h
            · exact HL.out.2 v h
            · obtain rfl := List.mem_singleton.1 h
              exact ⟨hq0, hx, hy, hz⟩)
          have e0 := KX.out.cell 0 _ rfl
          have e1 := KX.out.cell 1 _ rfl
          have e2 := KX.out.cell 2 _ rfl
          have e3 := KX.out.cell 3 _ rfl
          have hzc : w.heap.size ≤ wc.heap.size := GX.out.size
          have hzc3 := KX.out.lt
          clear hk hg hs ho k0 k1 k2 k3 KA K4 G4 S4 O4 X4 hx
          go_wp2_with (at_builtin; (refine wpList_append_lies _ rfl _ _ _ rfl w.heap.size 51 i0 _ 4 56 Tryz.underlying28 HI.out Z0.out Z1.out Z2.out rfl (by omega) (.slice Ax m cx) m (flatA l) rfl (OX.out.alloc _) ⟨wc.heap.size, 0, none⟩ 1 1 [.string qk, .int .i64 x, .string y, .string z] rfl rfl (World.news_of_block (cs := #[.string qk, .int .i64 x, .string y, .string z]) (t := 51) (fr := (0, 0)) (heap_alloc_new wc _)) (by simp [Value.oneCell']) (by omega) (by unfold maxLen; omega) (by omega) (by simp; omega) (wc.heap.size + 1) (by simp) ?_); intro gg cap' w7 hown hgrow hat hgl; (have O7 := Lib.hid (show w7.ownsRow w.heap.size 51 4 (.slice (some ⟨gg, 0, none⟩) (m + 1) cap') (m + 1) (flatA (l ++ [⟨qk, x, y, z⟩])) by rw [flatA_snoc]; exact hown)); (have G7 := Lib.hid (gr_row (GX.out.alloc _) hgrow (fun r e => (OX.out.lt r e).1))); (have S7 := Lib.hid (SX2.out.keep (((Below.refl _ _).alloc (by have := SX2.out.lt; omega) _).trans (grownB (C := B + 1) hgrow (fun r e => by have := (OX.out.lt r e).1; omega) (by simp; have := SX2.out.lt; omega))))); clear hown hgrow hat hgl)
          go_roundw
          case rel => exact ⟨j + 1, some ⟨gg, 0, none⟩, m + 1, cap', l ++ [⟨qk, x, y, z⟩], by omega, by go_num, rfl, by omega, Lib.hid ⟨by rw [List.length_append, HL.out.1]; rfl, OK.out⟩, O7, G7, Lib.hid (S7.out.mono (by omega))⟩
          case measure => simp [intOf]; omega
    · have hjn : j = n := by omega
      subst hjn
      have hne : True := trivial
      go_wp2_with fail
      refine (flip_any B (k + 3 * j) 20 _ HT.out (by omega) (by omega) (by omega)).mono ?_
      rintro e w2 ⟨fl, rfl, ho, hs⟩
      have G2 := Lib.hid (HG.out.trans (Gr.only ho))
      have S2 := Lib.hid hs
      have O2 := Lib.hid (own_only HO.out ho hB)
      have hB2 := hs.lt
      clear ho hs HG HT HO
      cases fl
      · go_wp2_with fail
        go_ret
        exact ⟨Ax, m, cx, l, rfl, HL.out.1, by omega, own_le O2.out, row_al O2.out HL.out.1 HL.out.2, row_atB O2.out hB, G2.out, S2.out.mono (by omega)⟩
      · go_wp2_with fail
        refine (some10_le 1000 B _ _ _ [⟨#[115, 99, 111, 114, 101]⟩, ⟨#[110, 111, 110, 101]⟩, ⟨#[110, 111, 116, 101]⟩, ⟨#[100, 101, 112, 116, 104]⟩] _ _ _ (S2.out.keep (by go_grown)) (by omega) (by simp; omega) (new_at (by simp)) (by simp) (by simp) (le_all (by decide +kernel))).mono ?_
        rintro e w3 ⟨x0, hx0, rfl, ho, hs⟩
        have G3 := Lib.hid ((G2.out.alloc _).trans (Gr.only ho))
        have S3 := Lib.hid hs
        have O3 := Lib.hid (own_only (O2.out.alloc _) ho hB)
        have hB3 := hs.lt
        clear ho hs G2 S2 O2
        go_wp2_with fail
        refine (odd10_any B _ 0 10 _ S3.out (by omega) (by omega) (by omega) (by omega)).mono ?_
        rintro e w4 ⟨x1, hx1, hx2, rfl, ho, hs⟩
        have G4 := Lib.hid (G3.out.trans ho)
        have S4 := Lib.hid hs
        have O4 := Lib.hid (own_gr O3.out ho hB)
        have hB4 := hs.lt
        clear ho hs G3 S3 O3
        go_wp2_with fail
        refine (some10_le 1000 B _ _ _ [⟨#[]⟩, ⟨#[]⟩, ⟨#[121, 101, 115]⟩] _ _ _ (S4.out.keep (by go_grown)) (by omega) (by simp; omega) (new_at (by simp)) (by simp) (by simp) (le_all (by decide +kernel))).mono ?_
        rintro e w5 ⟨x3, hx3, rfl, ho, hs⟩
        have G5 := Lib.hid ((G4.out.alloc _).trans (Gr.only ho))
        have S5 := Lib.hid hs
        have O5 := Lib.hid (own_only (O4.out.alloc _) ho hB)
        have hB5 := hs.lt
        clear ho hs G4 S4 O4
        go_wp2_with fail
        refine (some10_le 1000 B _ _ _ [⟨#[]⟩, ⟨#[]⟩, ⟨#[120]⟩, ⟨#[10]⟩] _ _ _ (S5.out.keep (by go_grown)) (by omega) (by simp; omega) (new_at (by simp)) (by simp) (by simp) (le_all (by decide +kernel))).mono ?_
        rintro e w6 ⟨x4, hx4, rfl, ho, hs⟩
        have G6 := Lib.hid (((G5.out.alloc _).trans (Gr.only ho)).alloc (.cells #[.string x0, .int .i64 x1, .string x3, .string x4] 51))
        have hB6 := hs.lt
        have S6 := Lib.hid (hs.keep (show Below (B + 1) w6 (w6.alloc (.cells #[.string x0, .int .i64 x1, .string x3, .string x4] 51)) by go_grown))
        have O6 := Lib.hid ((own_only (O5.out.alloc _) ho hB).alloc (.cells #[.string x0, .int .i64 x1, .string x3, .string x4] 51))
        have OK := Lib.hid (show ∀ v ∈ l ++ [(⟨x0, x1, x3, x4⟩ : An)], aOk v from fun v hv => by
            rcases List.mem_append.1 hv with h | h
            · exact HL.out.2 v h
            · obtain rfl := List.mem_singleton.1 h
              exact ⟨hx0, ⟨hx1, hx2⟩, hx3, hx4⟩)
        have hz6 : w.heap.size ≤ w6.heap.size + 1 := by have := G6.out.size; simpa using this
        clear ho hs G5 S5 O5
        go_wp2_with (at_builtin; (refine wpList_append_lies _ rfl _ _ _ rfl w.heap.size 51 i0 _ 4 56 Tryz.underlying28 HI.out Z0.out Z1.out Z2.out rfl (by omega) (.slice Ax m cx) m (flatA l) rfl (O6.out.alloc _) ⟨w6.heap.size + 1, 0, none⟩ 1 1 [.string x0, .int .i64 x1, .string x3, .string x4] rfl rfl (World.news_of_block (cs := #[.string x0, .int .i64 x1, .string x3, .string x4]) (t := 51) (fr := (0, 0)) (new_at (by simp))) (by simp [Value.oneCell']) (by omega) (by unfold maxLen; omega) (by omega) (by simp; omega) (w6.heap.size + 2) (by simp) ?_); intro gg cap' w7 hown hgrow hat hgl; (have O7 := Lib.hid (show w7.ownsRow w.heap.size 51 4 (.slice (some ⟨gg, 0, none⟩) (m + 1) cap') (m + 1) (flatA (l ++ [⟨x0, x1, x3, x4⟩])) by rw [flatA_snoc]; exact hown)); (have G7 := Lib.hid (gr_row (G6.out.alloc _) hgrow (fun r e => (O6.out.lt r e).1))); (have S7 := Lib.hid (S6.out.keep (((Below.refl _ _).alloc (by have := S6.out.lt; omega) _).trans (grownB (C := B + 1) hgrow (fun r e => by have := (O6.out.lt r e).1; omega) (by simp; omega))))); clear hown hgrow hat hgl)
        go_ret
        exact ⟨some ⟨gg, 0, none⟩, m + 1, cap', l ++ [⟨x0, x1, x3, x4⟩], rfl, by rw [List.length_append, HL.out.1]; rfl, by omega, own_le O7.out, row_al O7.out (by rw [List.length_append, HL.out.1]; rfl) OK.out, row_atB O7.out hB, G7.out, S7.out.mono (by omega)⟩
end Go.Proofs.YthglfcfnejjpjaaGreatDoor.Rev
