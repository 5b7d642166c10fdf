/-
  THE MAKER Skills, EXACTLY.
-/
import Derived.Test.YtnjigaklkalebaaDoorForD
import Derived.Test.YtnjigaklkalebaaDoorSkillGen
namespace Go.Proofs.YtnjigaklkalebaaDoor.For
open Go.ChangeShapes Go.WideShapes Go.ChangeAt Go.RowKit Stm Key
set_option linter.unusedVariables false

def wg6 : List Int := [1, 33, 50, 99, 100, 100]
def wg3 : List Int := [0, 5, 101]
def zeb3 : List ByteArray := [⟨#[97, 114, 116]⟩, ⟨#[122, 101, 98, 114, 97]⟩, ⟨#[]⟩]
/-- The skills of the first j topics, and how many numbers have been drawn behind them. -/
def skD (S : List Int) (c : Nat) : Nat → List Sk × Nat
  | 0 => ([], c)
  | j + 1 => if FD S (skD S c j).2 3 then ((skD S c j).1 ++ [⟨kn4.getD j ⟨#[]⟩, PV S ((skD S c j).2 + 1) wg6⟩], (skD S c j).2 + 2) else ((skD S c j).1, (skD S c j).2 + 1)
def skF (S : List Int) (c : Nat) : List Sk × Nat :=
  if FD S (skD S c 4).2 15 then ((skD S c 4).1 ++ [⟨OV S ((skD S c 4).2 + 1) zeb3, PV S ((skD S c 4).2 + 1 + 1) wg3⟩], (skD S c 4).2 + 1 + 1 + 1) else ((skD S c 4).1, (skD S c 4).2 + 1)
/-- What the maker of skills hands back, exactly. -/
def SDRet (D : Nat) (S : List Int) (B c : Nat) (l : List Sk) (c' : Nat) (w : World) (e : Ending) (w' : World) : Prop := ∃ (A : Option Addr) (n cap : Nat), e = .returned (.slice A n cap) ∧ l.length = n ∧ n ≤ 5 ∧ n ≤ cap ∧ KL w' A l ∧ AtN w A n ∧ Gr B w w' ∧ StrD D S w' B c'
theorem row_atn {w0 w : World} {base n cap : Nat} {E S : Nat} {A : Option Addr} {xs : List Value} (h : w.ownsRow base E S (.slice A n cap) n xs) (hB : w0.heap.size ≤ base) : AtN w0 A n := by
  rcases h.2 with ⟨e, e2⟩ | ⟨g, cap', cur, e, hb, _⟩
  · injection e with e1; exact Or.inl ⟨e1, e2⟩
  · injection e with e1; exact Or.inr ⟨g, e1, by omega⟩

set_option maxRecDepth 100000 in
set_option maxHeartbeats 8000000 in
theorem skills_det (D : Nat) (S : List Int) (B c : Nat) (w : World) (hs : StrD D S w B c) (hk : c ≤ 800000) :
    Calls Tryd.prog 5 #[.pointer (some ⟨B, 0, none⟩)] w (SDRet D S B c (skF S c).1 (skF S c).2 w) := by
  have hB := hs.lt
  have HK := Lib.hid (Blk.new w 9 (kn4.map Value.string).toArray)
  have G0 := Lib.hid (Gr.refl B (w.alloc (.cells (kn4.map Value.string).toArray 9)))
  have S0 := Lib.hid (hs.keep (show Below (B + 1) w (w.alloc (.cells (kn4.map Value.string).toArray 9)) by go_grown))
  have GW := Lib.hid (show ∀ W, Gr B (w.alloc (.cells (kn4.map Value.string).toArray 9)) W → Gr B w W from fun W hW => ((Gr.refl B w).alloc _).trans hW)
  have hKB : w.heap.size ≠ B := by omega
  clear hs
  obtain ⟨i0, hi0, hz0, hz1', hz2⟩ := info_parts infoK
  have HI := Lib.hid hi0
  have Z0 := Lib.hid hz0
  have Z1 := Lib.hid hz1'
  have Z2 := Lib.hid hz2
  clear hi0 hz0 hz1' hz2
  go_enter Tryd.func5, Tryd.ntmps5
  go_wp2_with fail
  go_loopw [3, 8] (fun out i wr => ∃ (j d : Nat) (A : Option Addr) (m cp : Nat) (l : List Sk), j ≤ 4 ∧ i = .int .i64 j ∧ out = .slice A m cp ∧ l.length = m ∧ m ≤ j ∧ d ≤ c + 2 * j ∧ Hid (skD S c j = (l, d)) ∧ Hid (∀ x ∈ l, x.t.size ≤ 1000 ∧ 0 ≤ x.n ∧ x.n ≤ 101) ∧
    Hid (wr.ownsRow (w.heap.size + 1) 36 2 (.slice A m cp) m (flatS l)) ∧ Hid (Gr B (w.alloc (.cells (kn4.map Value.string).toArray 9)) wr) ∧ Hid (StrD D S wr B d)) (fun _ i _ => 4 - (intOf i).toNat)
  case atStart => exact ⟨0, c, none, 0, 0, [], Nat.zero_le _, rfl, rfl, rfl, Nat.le_refl _, by omega, Lib.hid rfl, Lib.hid (by simp), Lib.hid (World.ownsRow_nil _ _ _ _), G0, S0⟩
  case round =>
    obtain ⟨j, d, A, m, cp, l, hj, rfl, rfl, hl, hmj, hd, HD, HX, HO, HG, HST⟩ := hrel
    have HL := Lib.hid hl
    have hz := HG.out.size
    have hzz : w.heap.size + 1 ≤ wr.heap.size := by simpa using hz
    have hBr := HST.out.lt
    clear G0 S0 hl hz
    by_cases hlt : j < 4
    · have hjl : j < kn4.length := hlt
      have KR := (HG.out.block w.heap.size (by simp) (by simpa using hKB)).trans HK.out
      have c1 : wr.cell? ⟨w.heap.size, j, none⟩ = some (.string kn4[j]) := Blk.cell (t := 9) (cs := (kn4.map Value.string).toArray) KR j _ (by simp [List.getElem?_eq_getElem hjl])
      have hxs := kn4_le kn4[j] (List.getElem_mem hjl)
      have HNX : Hid (skD S c (j + 1) = if FD S d 3 then (l ++ [⟨kn4[j], PV S (d + 1) wg6⟩], d + 2) else (l, d + 1)) := Lib.hid (by
        show (if FD S (skD S c j).2 3 then ((skD S c j).1 ++ [(⟨kn4.getD j ⟨#[]⟩, PV S ((skD S c j).2 + 1) wg6⟩ : Sk)], (skD S c j).2 + 2) else ((skD S c j).1, (skD S c j).2 + 1)) = _
        rw [HD.out, List.getD_eq_getElem?_getD, List.getElem?_eq_getElem hjl]; rfl)
      have H1 := Lib.hid (flip_det D S B d 3 wr HST.out (by omega) (by omega) (by omega))
      have H2 := Lib.hid (fun W (hW : StrD D S W B (d + 1)) (b cap : Nat) (hb : b ≠ B) (hc : W.heap[b]? = some (.cells (wg6.map (Value.int .i64)).toArray 3 (0, 0))) => pick_det D S B (d + 1) b cap wg6 3 (0, 0) W hW (by omega) hb hc (by decide) (by decide))
      have HU := Lib.hid (w6_le (pv_in S (d + 1) wg6 (by decide)))
      generalize kn4[j] = x at *
      generalize FD S d 3 = fl at *
      generalize PV S (d + 1) wg6 = u at *
      have hdd : (j : Int) < 4 := by omega
      have HLT := Lib.hid hlt
      clear hj hlt hjl KR HD
      go_wp2_with fail
      refine (H1.out).mono ?_; rintro e w1 ⟨rfl, ho, hs⟩
      have O1 := Lib.hid (row_only HO.out ho (by omega))
      have G1 := Lib.hid (HG.out.trans (Gr.only ho))
      have S1 := Lib.hid hs
      have hB1 := hs.lt
      have z1 : w.heap.size + 1 ≤ w1.heap.size := by have := ho.size; omega
      clear ho hs c1 HO HG HST H1
      cases fl
      · have HN2 := Lib.hid (HNX.out.trans (if_neg (by simp)))
        go_wp2_with fail
        go_roundw
        case rel => exact ⟨j + 1, d + 1, A, m, cp, l, by have := HLT.out; omega, by go_num, rfl, HL.out, by omega, by omega, HN2, HX, O1, G1, S1⟩
        case measure => simp [intOf]; omega
      · have HN2 := Lib.hid (HNX.out.trans (if_pos (by simp)))
        go_wp2_with fail
        refine (H2.out _ (S1.out.keep (by go_grown)) _ _ (by omega) (new_at rfl)).mono ?_
        rintro e w2 ⟨rfl, ho, hs⟩
        have Q2 := Lib.hid (((Gr.refl B w1).alloc (.cells #[.int .i64 1, .int .i64 33, .int .i64 50, .int .i64 99, .int .i64 100, .int .i64 100] 3)).trans (Gr.only ho))
        have G2 := Lib.hid (G1.out.trans Q2.out)
        have O2 := Lib.hid (row_gr2 O1.out Q2.out (by omega))
        have S2 := Lib.hid hs
        have hB2 := hs.lt
        have z2 : w.heap.size + 1 ≤ w2.heap.size := by have := Q2.out.size; omega
        have hm4 : m < 4 := by have := HLT.out; omega
        clear ho hs O1 G1 S1 Q2 H2
        go_wp2_with (at_builtin; go_loud (refine wpList_append_lies _ rfl _ _ _ rfl (w.heap.size + 1) 36 i0 _ 2 24 Tryd.underlying28 HI.out Z0.out Z1.out Z2.out rfl (by omega) (.slice A m cp) m (flatS l) rfl (O2.out.alloc _) ⟨w2.heap.size, 0, none⟩ 1 1 [.string x, .int .i64 u] rfl rfl (World.news_of_block (cs := #[.string x, .int .i64 u]) (t := 36) (fr := (0, 0)) (heap_alloc_new w2 _)) (by simp [Value.oneCell']) (by omega) (by unfold maxLen; omega) (by omega) (by simp; omega) (w2.heap.size + 1) (by simp) ?_; intro gg cap' w7 hown hgrow hat hgl; (have O7 := Lib.hid (show w7.ownsRow (w.heap.size + 1) 36 2 _ (m + 1) (flatS (l ++ [(⟨x, u⟩ : Sk)])) by rw [flatS_snoc]; exact hown)); (have G7 := Lib.hid (row_gr (G2.out.alloc (.cells #[.string x, .int .i64 u] 36)) hgrow (fun g e => by have := (O2.out.lt g e).1; simp; omega))); (have S7 := Lib.hid (S2.out.keep (((Below.refl _ _).alloc (by omega) (.cells #[.string x, .int .i64 u] 36)).trans (grown_below hgrow (fun g e => by have := (O2.out.lt g e).1; omega) (by simp; omega))))); clear hown hgrow hat))
        go_roundw
        case rel => exact ⟨j + 1, d + 2, some ⟨gg, 0, none⟩, m + 1, cap', l ++ [⟨x, u⟩], by have := HLT.out; omega, by go_num, rfl, by simp [HL.out], by omega, by omega, HN2, Lib.hid (snocS HX.out hxs HU.out), O7, G7, S7⟩
        case measure => simp [intOf]; omega
    · have hj4 : j = 4 := by omega
      subst hj4
      have HFF : Hid (skF S c = if FD S d 15 then (l ++ [⟨OV S (d + 1) zeb3, PV S (d + 1 + 1) wg3⟩], d + 1 + 1 + 1) else (l, d + 1)) := Lib.hid (by unfold skF; rw [HD.out])
      have H1 := Lib.hid (flip_det D S B d 15 wr HST.out (by omega) (by omega) (by omega))
      have H2 := Lib.hid (fun W (hW : StrD D S W B (d + 1)) (b cap : Nat) (hb : b ≠ B) (hc : W.heap[b]? = some (.cells (zeb3.map Value.string).toArray 9 (0, 0))) => h06_det D S B (d + 1) b cap zeb3 9 (0, 0) W hW (by omega) hb hc (by decide) (by decide))
      have H3 := Lib.hid (fun W (hW : StrD D S W B (d + 1 + 1)) (b cap : Nat) (hb : b ≠ B) (hc : W.heap[b]? = some (.cells (wg3.map (Value.int .i64)).toArray 3 (0, 0))) => pick_det D S B (d + 1 + 1) b cap wg3 3 (0, 0) W hW (by omega) hb hc (by decide) (by decide))
      have HU := Lib.hid (w3_le (pv_in S (d + 1 + 1) wg3 (by decide)))
      have hxs := ov_le S (d + 1) zeb3 (by decide) (by decide +kernel)
      generalize FD S d 15 = fl at *
      generalize OV S (d + 1) zeb3 = x at *
      generalize PV S (d + 1 + 1) wg3 = u at *
      generalize skF S c = FF at *
      clear HD
      go_wp2_with fail
      refine (H1.out).mono ?_; rintro e w1 ⟨rfl, ho, hs⟩
      have O1 := Lib.hid (row_only HO.out ho (by omega))
      have G1 := Lib.hid (HG.out.trans (Gr.only ho))
      have S1 := Lib.hid hs
      have hB1 := hs.lt
      have z1 : w.heap.size + 1 ≤ w1.heap.size := by have := ho.size; omega
      clear ho hs HO HG HST H1
      cases fl
      · have HF2 := Lib.hid (HFF.out.trans (if_neg (by simp)))
        have FIN := Lib.hid (show SDRet D S B c FF.1 FF.2 w (.returned (.slice A m cp)) w1 from by rw [HF2.out]; exact ⟨A, m, cp, rfl, HL.out, by omega, row_cap O1.out, row_kl O1.out HL.out HX.out, row_atn O1.out (by omega), GW.out _ G1.out, S1.out⟩)
        go_wp2_with fail
        go_ret
        exact FIN.out
      · have HF2 := Lib.hid (HFF.out.trans (if_pos (by simp)))
        go_wp2_with fail
        refine (H2.out _ (S1.out.keep (by go_grown)) _ _ (by omega) (new_at rfl)).mono ?_
        rintro e w2 ⟨rfl, ho, hs⟩
        have Q2 := Lib.hid (((Gr.refl B w1).alloc (.cells #[.string ⟨#[97, 114, 116]⟩, .string ⟨#[122, 101, 98, 114, 97]⟩, .string ⟨#[]⟩] 9)).trans (Gr.only ho))
        have S2 := Lib.hid hs
        have hB2 := hs.lt
        clear ho hs S1 H2
        go_wp2_with fail
        refine (H3.out _ (S2.out.keep (by go_grown)) _ _ (by omega) (new_at rfl)).mono ?_
        rintro e w3 ⟨rfl, ho, hs⟩
        have Q3 := Lib.hid (Q2.out.trans (((Gr.refl B w2).alloc (.cells #[.int .i64 0, .int .i64 5, .int .i64 101] 3)).trans (Gr.only ho)))
        have G3 := Lib.hid (G1.out.trans Q3.out)
        have O3 := Lib.hid (row_gr2 O1.out Q3.out (by omega))
        have S3 := Lib.hid hs
        have hB3 := hs.lt
        have z3 : w.heap.size + 1 ≤ w3.heap.size := by have := Q3.out.size; omega
        clear ho hs O1 G1 S2 Q2 Q3 H3
        go_wp2_with (at_builtin; go_loud (refine wpList_append_lies _ rfl _ _ _ rfl (w.heap.size + 1) 36 i0 _ 2 24 Tryd.underlying28 HI.out Z0.out Z1.out Z2.out rfl (by omega) (.slice A m cp) m (flatS l) rfl (O3.out.alloc _) ⟨w3.heap.size, 0, none⟩ 1 1 [.string x, .int .i64 u] rfl rfl (World.news_of_block (cs := #[.string x, .int .i64 u]) (t := 36) (fr := (0, 0)) (heap_alloc_new w3 _)) (by simp [Value.oneCell']) (by omega) (by unfold maxLen; omega) (by omega) (by simp; omega) (w3.heap.size + 1) (by simp) ?_; intro gg cap' w7 hown hgrow hat hgl; (have O7 := Lib.hid (show w7.ownsRow (w.heap.size + 1) 36 2 _ (m + 1) (flatS (l ++ [(⟨x, u⟩ : Sk)])) by rw [flatS_snoc]; exact hown)); (have G7 := Lib.hid (row_gr (G3.out.alloc (.cells #[.string x, .int .i64 u] 36)) hgrow (fun g e => by have := (O3.out.lt g e).1; simp; omega))); (have S7 := Lib.hid (S3.out.keep (((Below.refl _ _).alloc (by omega) (.cells #[.string x, .int .i64 u] 36)).trans (grown_below hgrow (fun g e => by have := (O3.out.lt g e).1; omega) (by simp; omega))))); clear hown hgrow hat))
        have FIN := Lib.hid (show SDRet D S B c FF.1 FF.2 w (.returned (.slice (some ⟨gg, 0, none⟩) (m + 1 : Nat) cap')) w7 from by rw [HF2.out]; exact ⟨_, m + 1, cap', rfl, by simp [HL.out], by omega, row_cap O7.out, row_kl O7.out (by simp [HL.out]) (snocS HX.out hxs HU.out), row_atn O7.out (by omega), GW.out _ G7.out, S7.out⟩)
        go_wp2_with fail
        go_ret
        exact FIN.out
end Go.Proofs.YtnjigaklkalebaaDoor.For
