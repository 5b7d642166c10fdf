/-
  THE CONTRACT OF Order: a list of the numbers below n, in memory of the call's own.
-/
import Derived.Test.YtanoojmgjinmfaaDoorSome
import Derived.Test.YtanoojmgjinmfaaDoorArrive
namespace Go.Proofs.YtanoojmgjinmfaaDoor.Stm
open Go.ChangeShapes Go.WideShapes Go.ChangeAt Go.RowKit Key
set_option linter.unusedVariables false

theorem infoI : (Tryd.prog.info? 3).map (fun i => (i.zero, i.size, i.bytes)) = some (some (.int .i64 0), 1, 8) := by kernel_rfl
def Nums (cs : Array Value) (n : Nat) : Prop := ∀ i, i < n → ∃ z : Nat, z < n ∧ cs[i]? = some (.int .i64 z)
theorem Nums.set {cs : Array Value} {n : Nat} (h : Nums cs n) (i : Nat) (z : Nat) (hz : z < n) (hi : i < n) : Nums (cs.setIfInBounds i (.int .i64 z)) n := by
  intro j hj
  by_cases e : i = j
  · subst e
    obtain ⟨y, _, hy⟩ := h i hi
    have hb : i < cs.size := by
      rcases Nat.lt_or_ge i cs.size with h | h
      · exact h
      · rw [Array.getElem?_eq_none h] at hy; cases hy
    exact ⟨z, hz, by simp [hb]⟩
  · obtain ⟨y, hy, hc⟩ := h j hj
    exact ⟨y, hy, by rw [Array.getElem?_setIfInBounds_ne e]; exact hc⟩
theorem blk_frozen {w : World} {B : Nat} {t : TypeId} {cs : Array Value} (h : Blk w B t cs) (i : Nat) : w.frozen? ⟨B, i, none⟩ = false := by
  unfold Blk at h; simp [World.frozen?, h]
theorem blk_set {w : World} {B : Nat} {t : TypeId} {cs : Array Value} (h : Blk w B t cs) (i : Nat) (u : Value) : Blk (w.setCell ⟨B, i, none⟩ u) B t (cs.setIfInBounds i u) := by
  unfold Blk at h ⊢
  simp [World.setCell, Array.getElem?_modify, h]
theorem blk_only {w w' : World} {B C : Nat} {t : TypeId} {cs : Array Value} (h : Blk w B t cs) (ho : Only C w w') (hne : B ≠ C) : Blk w' B t cs := (ho.block B hne).trans h

set_option maxHeartbeats 4000000 in
theorem order_any (B k n : Nat) (w : World) (h : Strm w B k) (hk : k ≤ 1000000) (hn : 1 ≤ n) (hn2 : n ≤ 1000) :
    Calls Tryd.prog 16 #[.pointer (some ⟨B, 0, none⟩), .int .i64 n] w fun e w' =>
      ∃ (g c : Nat) (cs : Array Value), e = .returned (.slice (some ⟨g, 0, none⟩) n c) ∧ n ≤ c ∧ w.heap.size ≤ g ∧ Blk w' g 3 cs ∧ Nums cs n ∧ Gr B w w' ∧ Strm w' B (k + n) := by
  have HS := Lib.hid h
  have hBlt : B < w.heap.size := by obtain ⟨_, _, _, _, hh, _⟩ := h; exact lt_of_block hh
  clear h
  go_enter Tryd.func16, Tryd.ntmps16
  go_wp2_with fail
  go_loopw [5, 10] (fun out i wr => ∃ (j : Nat) (A : Option Addr) (c : Nat) (is : List Nat), j ≤ n ∧ i = .int .i64 j ∧ out = .slice A j c ∧ is.length = j ∧ Hid (∀ x ∈ is, x < n) ∧
    Hid (wr.ownsRow w.heap.size 3 1 (.slice A j c) j (is.map fun (x : Nat) => Value.int .i64 x)) ∧ Hid (Gr B w wr) ∧ Hid (Strm wr B k)) (fun _ i _ => n - (intOf i).toNat)
  case atStart => exact ⟨0, none, 0, [], Nat.zero_le _, rfl, rfl, rfl, Lib.hid (by simp), Lib.hid (World.ownsRow_nil _ _ _ _), Lib.hid (Gr.refl _ _), HS⟩
  case round =>
    obtain ⟨j, A, c, is, hj, rfl, rfl, hm, HM, HO, HG, HST⟩ := hrel
    by_cases hlt : j < n
    · have hz1 : w.heap.size ≤ wr.heap.size := HG.out.size
      obtain ⟨i0, hi0, hz0, hz1', hz2⟩ := info_parts infoI
      have HI := Lib.hid hi0
      have Z0 := Lib.hid hz0
      have Z1 := Lib.hid hz1'
      have Z2 := Lib.hid hz2
      have HMM := Lib.hid hm
      clear hi0 hz0 hz1' hz2 hm
      go_wp2_with (at_builtin; (refine wpList_append_lies _ rfl _ _ _ rfl w.heap.size 3 i0 _ 1 8 Tryd.underlying22 HI.out Z0.out Z1.out Z2.out rfl (by omega) (.slice A j c) j (is.map fun (x : Nat) => Value.int .i64 x) rfl (HO.out.alloc _) ⟨wr.heap.size, 0, none⟩ 1 1 [.int .i64 j] rfl rfl (World.news_of_block (cs := #[.int .i64 j]) (t := 3) (fr := (0, 0)) (heap_alloc_new wr _)) (by simp [Value.oneCell']) (by omega) (by unfold maxLen; omega) (by omega) (by simp; omega) (wr.heap.size + 1) (by simp) ?_); intro gg cap' w2 hown hgrow hat hgl; (have O2 := Lib.hid (show w2.ownsRow w.heap.size 3 1 _ (j + 1) ((is ++ [j]).map fun (x : Nat) => Value.int .i64 x) by rw [List.map_append]; exact hown)); (have G2 := Lib.hid (row_gr (HG.out.alloc (.cells #[.int .i64 j] 3)) hgrow (fun g e => (HO.out.lt g e).1))); (have S2 := Lib.hid (HST.out.keep (((Below.refl _ _).alloc (by omega) (.cells #[.int .i64 j] 3)).trans (grown_below hgrow (fun g e => by have := (HO.out.lt g e).1; omega) (by simp; omega))))); clear hown hgrow hat)
      go_roundw
      case rel => exact ⟨j + 1, some ⟨gg, 0, none⟩, cap', is ++ [j], by omega, by go_num, rfl, by simp [HMM.out], Lib.hid (fun y hy => by rcases List.mem_append.1 hy with h | h; exact HM.out y h; (simp at h; subst h; exact hlt)), O2, G2, S2⟩
      case measure => simp [intOf]; omega
    · have hjN : j = n := by omega
      subst hjN
      have hcap := row_cap HO.out
      obtain ⟨g, cap', hv, hgw, hlt2⟩ := HO.out.form (by omega)
      obtain ⟨rfl, _, rfl⟩ : A = some ⟨g, 0, none⟩ ∧ True ∧ c = cap' := by injection hv with a b c; exact ⟨a, trivial, c⟩
      obtain ⟨cs, hbk⟩ : ∃ cs, Blk wr g 3 cs := by
        rcases HO.out.2 with ⟨e, _⟩ | ⟨g', cap', cur, e, _, hh, _, _⟩
        · cases e
        · injection e with e1; injection e1 with e1; injection e1 with e1; subst e1; exact ⟨_, hh⟩
      have hnum : Nums cs j := by
        intro i hi
        have hil : i < is.length := by omega
        have e1 := HO.out.cells (g := g) rfl i (.int .i64 (is[i] : Nat)) (by simp [List.getElem?_eq_getElem hil])
        rw [row_add] at e1
        refine ⟨is[i], HM.out _ (List.getElem_mem hil), ?_⟩
        unfold Blk at hbk
        simpa [World.cell?, hbk] using e1
      have HBK := Lib.hid hbk
      have HN := Lib.hid hnum
      clear hbk hnum hv HM HO hm
      go_wp2_with fail
      go_loopw [7] (fun i wr => ∃ (a : Nat) (cs : Array Value), a < j ∧ i = .int .i64 a ∧ Hid (Blk wr g 3 cs) ∧ Hid (Nums cs j) ∧ Hid (Gr B w wr) ∧ Hid (Strm wr B (k + (j - 1 - a)))) (fun i _ => (intOf i).toNat)
      case atStart => exact ⟨j - 1, cs, by omega, by go_num, HBK, HN, HG, Lib.hid (by simpa using HST.out)⟩
      case round =>
        obtain ⟨a, ds, ha, rfl, HB2, HN2, HG2, HS2⟩ := hrel
        by_cases h0 : 0 < a
        · go_wp2_with fail
          refine (next_any B (k + (j - 1 - a)) ((a : Int) + 1) _ HS2.out (by omega) (by omega) (by omega)).mono ?_; rintro e w1 ⟨r, r0, r1, rfl, ho, hs⟩
          obtain ⟨z, rfl⟩ : ∃ z : Nat, r = z := ⟨r.toNat, by omega⟩
          have B3 := Lib.hid (blk_only HB2.out ho (by omega))
          have G3 := Lib.hid (HG2.out.trans (Gr.only ho))
          have S3 := Lib.hid hs
          obtain ⟨x, hx, cx⟩ := HN2.out a ha
          obtain ⟨y, hy, cy⟩ := HN2.out z (by omega)
          have c1 := B3.out.cell a _ cx
          have c2 := B3.out.cell z _ cy
          have f1 := blk_frozen B3.out a
          have f2 := blk_frozen B3.out z
          have g1 : (0 : Int) ≤ (a : Int) := by omega
          have g2 : (a : Int) < (j : Int) := by omega
          have g3 : (0 : Int) ≤ (z : Int) := by omega
          have g4 : (z : Int) < (j : Int) := by omega
          have B4 := Lib.hid (blk_set B3.out a (.int .i64 y))
          have N4 := HN2.out.set a y hy ha
          obtain ⟨x', hx', cx'⟩ := N4 z (by omega)
          have c3 := B4.out.cell z _ cx'
          have f3 := blk_frozen B4.out z
          have B5 := Lib.hid (blk_set B4.out z (.int .i64 x))
          have N5 := Lib.hid (N4.set z x hx (by omega))
          have G5 := Lib.hid ((G3.out.setCell (p := ⟨g, a, none⟩) hgw (.int .i64 y)).setCell (p := ⟨g, z, none⟩) hgw (.int .i64 x))
          have S5 := Lib.hid (S3.out.keep ((((Below.refl (B + 1) w1).setCell (by simp; omega) (.int .i64 y)).setCell (by simp; omega) (.int .i64 x) : Below (B + 1) w1 ((w1.setCell ⟨g, a, none⟩ (.int .i64 y)).setCell ⟨g, z, none⟩ (.int .i64 x)))))
          clear ho hs cx cy cx' N4
          go_wp2_with fail
          go_region
          all_goals
            go_wp2_with fail
            go_roundw
            case rel => exact ⟨a - 1, _, by omega, by go_num, Lib.hid B5.out, N5, Lib.hid G5.out.drew, Lib.hid (by have := S5.out; rwa [show k + (j - 1 - a) + 1 = k + (j - 1 - (a - 1)) by omega] at this)⟩
            case measure => simp [intOf]; omega
        · have ha0 : a = 0 := by omega
          subst ha0
          go_wp2_with fail
          go_ret
          exact ⟨g, c, ds, rfl, hcap, hgw, HB2.out, HN2.out, HG2.out, HS2.out.mono (by omega)⟩
end Go.Proofs.YtanoojmgjinmfaaDoor.Stm
