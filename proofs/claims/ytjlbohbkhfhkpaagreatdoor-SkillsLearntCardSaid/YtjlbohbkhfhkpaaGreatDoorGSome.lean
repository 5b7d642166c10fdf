/-
  THE CONTRACT OF THE MAKER OF SOME STRINGS (some): a list of strings in memory of the call's own; and what a row of strings is.
-/
import Derived.Test.YtjlbohbkhfhkpaaGreatDoorGOne
import Derived.Test.YtjlbohbkhfhkpaaGreatDoorGLists
import Derived.Test.YtjlbohbkhfhkpaaGreatDoorWords
import Derived.Test.YtjlbohbkhfhkpaaGreatDoorShelf
import Derived.Test.YtjlbohbkhfhkpaaGreatDoorGArrive
namespace Go.Proofs.YtjlbohbkhfhkpaaGreatDoor.Stm
open Go.ChangeShapes Go.WideShapes Go.ChangeAt Go.RowKit Key
set_option linter.unusedVariables false

theorem row_only {w w' : World} {B base E S n : Nat} {v : Value} {xs : List Value} (h : w.ownsRow base E S v n xs) (ho : Only B w w') (hB : B < base) : w'.ownsRow base E S v n xs :=
  h.kept (Gr.only ho) (by
    rcases hb : v.ownBlock with _ | g
    · exact Or.inl rfl
    · refine Or.inr ?_; have := h.lt g hb; intro e; injection e; omega)
theorem row_gr {B : Nat} {w0 w w' : World} {row : Option Nat} (g : Gr B w0 w) (h : w.grownBy w' row) (hr : ∀ g, row = some g → w0.heap.size ≤ g) : Gr B w0 w' :=
  ⟨h.os.trans g.os, h.tape.trans g.tape, h.output.trans g.output, Nat.le_trans g.size h.size, fun i hi hne =>
    (h.block i (Nat.lt_of_lt_of_le hi g.size) (fun e => by have := hr i e.symm; omega)).trans (g.block i hi hne)⟩
theorem row_cap {w : World} {base E S n cap : Nat} {A : Option Addr} {m : Nat} {xs : List Value} (h : w.ownsRow base E S (.slice A n cap) m xs) : n ≤ cap := by
  rcases h.2 with ⟨e, _⟩ | ⟨g, cap', cur, e, _, _, hc, _⟩
  · injection e with _ e1 e2; omega
  · injection e with _ e1 e2; omega
theorem row_add (b i : Nat) : (⟨b, 0, none⟩ : Addr).add i = ⟨b, i, none⟩ := by
  unfold Addr.add; split
  · rename_i h; subst h; rfl
  · simp
theorem row_sl {w : World} {base n cap : Nat} {A : Option Addr} {ss : List ByteArray} (h : w.ownsRow base 9 1 (.slice A n cap) n (ss.map Value.string)) (L : ss.length = n) (hsz : ∀ x ∈ ss, x.size ≤ 1000) : SL w A ss := by
  refine ⟨hsz, fun h0 => ?_⟩
  obtain ⟨g, cap', hv, _, hlt⟩ := h.form (by omega)
  have hA : A = some ⟨g, 0, none⟩ := by injection hv
  subst hA
  refine ⟨g, rfl, hlt, fun i hi => ?_⟩
  have e1 := h.cells (g := g) rfl i (.string ss[i]) (by simp [List.getElem?_eq_getElem hi])
  rw [row_add] at e1
  exact e1
theorem infoS : (Tryz.prog.info? 9).map (fun i => (i.zero, i.size, i.bytes)) = some (some (.string ⟨#[]⟩), 1, 16) := by kernel_rfl

set_option maxHeartbeats 4000000 in
theorem some_any (B k b N cap : Nat) (odds : Int) (zs : List ByteArray) (t : TypeId) (fz : Nat × Nat) (w : World) (h : Strm w B k) (hk : k ≤ 1000000) (hbB : b ≠ B) (hblt : b < w.heap.size)
    (hb : w.heap[b]? = some (.cells (zs.map Value.string).toArray t fz)) (h2 : zs.length = N) (hN : N ≤ 1000) (ho1 : 1 ≤ odds) (ho2 : odds ≤ 1000) (hsz : ∀ x ∈ zs, x.size ≤ 1000) :
    Calls Tryz.prog 24 #[.pointer (some ⟨B, 0, none⟩), .int .i64 odds, .slice (some ⟨b, 0, none⟩) N cap] w fun e w' =>
      ∃ (A : Option Addr) (n c : Nat) (ss : List ByteArray), e = .returned (.slice A n c) ∧ ss.length = n ∧ n ≤ N ∧ (∀ x ∈ ss, x.size ≤ 1000) ∧
        w'.ownsRow w.heap.size 9 1 (.slice A n c) n (ss.map Value.string) ∧ Gr B w w' ∧ Strm w' B (k + N) := by
  have HS := Lib.hid h
  have HB := Lib.hid hb
  have HL := Lib.hid h2
  have HSZ := Lib.hid hsz
  have hBlt : B < w.heap.size := by obtain ⟨_, _, _, _, hh, _⟩ := h; exact lt_of_block hh
  clear h hb h2 hsz
  go_enter Tryz.func24, Tryz.ntmps24
  go_wp2_with fail
  go_loopw [7, 12] (fun out i wr => ∃ (j : Nat) (A : Option Addr) (m c : Nat) (ss : List ByteArray), j ≤ N ∧ i = .int .i64 j ∧ out = .slice A m c ∧ ss.length = m ∧ m ≤ j ∧ Hid (∀ x ∈ ss, x.size ≤ 1000) ∧
    Hid (wr.ownsRow w.heap.size 9 1 (.slice A m c) m (ss.map Value.string)) ∧ Hid (Gr B w wr) ∧ Hid (Strm wr B (k + j))) (fun _ i _ => N - (intOf i).toNat)
  case atStart => exact ⟨0, none, 0, 0, [], Nat.zero_le _, rfl, rfl, rfl, Nat.le_refl _, Lib.hid (by simp), Lib.hid (World.ownsRow_nil _ _ _ _), Lib.hid (Gr.refl _ _), HS⟩
  case round =>
    obtain ⟨j, A, m, c, ss, hj, rfl, rfl, hm, hmj, HM, HO, HG, HST⟩ := hrel
    by_cases hlt : j < N
    · have hjl : j < zs.length := by have := HL.out; omega
      have c1 : wr.cell? ⟨b, j, none⟩ = some (.string zs[j]) := (HG.out.cell b j hblt hbB).trans (str_cell HB.out j hjl)
      have hxs := HSZ.out zs[j] (List.getElem_mem hjl)
      generalize zs[j] = x at *
      have HMM := Lib.hid hm
      clear hm
      go_wp2_with fail
      refine (flip_any B (k + j) odds wr HST.out (by omega) ho1 (by omega)).mono ?_; rintro e w1 ⟨r, rfl, ho, hs⟩
      have O1 := Lib.hid (row_only HO.out ho hBlt)
      have G1 := Lib.hid (HG.out.trans (Gr.only ho))
      have S1 := Lib.hid hs
      have hz1 : w.heap.size ≤ w1.heap.size := G1.out.size
      clear ho hs c1
      cases r
      · go_wp2_with fail
        go_roundw
        case rel => exact ⟨j + 1, A, m, c, ss, by omega, by go_num, rfl, HMM.out, by omega, HM, O1, G1, Lib.hid (by have := S1.out; rwa [Nat.add_assoc] at this)⟩
        case measure => simp [intOf]; omega
      · obtain ⟨i0, hi0, hz0, hz1', hz2⟩ := info_parts infoS
        have HI := Lib.hid hi0
        have Z0 := Lib.hid hz0
        have Z1 := Lib.hid hz1'
        have Z2 := Lib.hid hz2
        clear hi0 hz0 hz1' hz2
        go_wp2_with (at_builtin; (refine wpList_append_lies _ rfl _ _ _ rfl w.heap.size 9 i0 _ 1 16 Tryz.underlying52 HI.out Z0.out Z1.out Z2.out rfl (by omega) (.slice A m c) m (ss.map Value.string) rfl (O1.out.alloc _) ⟨w1.heap.size, 0, none⟩ 1 1 [.string x] rfl rfl (World.news_of_block (cs := #[.string x]) (t := 9) (fr := (0, 0)) (heap_alloc_new w1 _)) (by simp [Value.oneCell']) (by omega) (by unfold maxLen; omega) (by omega) (by simp; omega) (w1.heap.size + 1) (by simp) ?_); intro gg cap' w2 hown hgrow hat hgl; (have O2 := Lib.hid (show w2.ownsRow w.heap.size 9 1 _ (m + 1) ((ss ++ [x]).map Value.string) by rw [List.map_append]; exact hown)); (have G2 := Lib.hid (row_gr (G1.out.alloc (.cells #[.string x] 9)) hgrow (fun g e => (O1.out.lt g e).1))); (have S2 := Lib.hid (S1.out.keep (((Below.refl _ _).alloc (by omega) (.cells #[.string x] 9)).trans (grown_below hgrow (fun g e => by have := (O1.out.lt g e).1; omega) (by simp; omega))))); clear hown hgrow hat)
        go_roundw
        case rel => exact ⟨j + 1, some ⟨gg, 0, none⟩, m + 1, cap', ss ++ [x], by omega, by go_num, rfl, by simp [HMM.out], by omega, Lib.hid (fun y hy => by rcases List.mem_append.1 hy with h | h; exact HM.out y h; (simp at h; subst h; exact hxs)), O2, G2, Lib.hid (by have := S2.out; rwa [Nat.add_assoc] at this)⟩
        case measure => simp [intOf]; omega
    · have hjN : j = N := by omega
      subst hjN
      go_wp2_with fail
      go_ret
      exact ⟨A, m, c, ss, rfl, hm, hmj, HM.out, HO.out, HG.out, HST.out⟩
def topics6 : List ByteArray := [⟨#[97, 114, 116]⟩, ⟨#[98, 114, 101, 97, 100]⟩, ⟨#[99, 97, 107, 101]⟩, ⟨#[100, 97, 114, 107]⟩, ⟨#[114, 111, 108, 108, 115]⟩, ⟨#[114, 121, 101]⟩]
theorem topics_any (w : World) : Calls Tryz.prog 25 #[] w fun e w' => e = .returned (.slice (some ⟨w.heap.size, 0, none⟩) 6 6) ∧ w' = w.alloc (.cells (topics6.map Value.string).toArray 9) := by
  go_enter Tryz.func25, Tryz.ntmps25
  go_wp2_with fail
  go_ret
  exact ⟨rfl, rfl⟩
theorem topics_le : ∀ s ∈ topics6, s.size ≤ 1000 := le_all (by decide)
end Go.Proofs.YtjlbohbkhfhkpaaGreatDoor.Stm

/-
  THE CONTRACT OF slices.Clone AT A LIST OF STRINGS: a row of the call's own, of the same strings.
-/
namespace Go.Proofs.YtjlbohbkhfhkpaaGreatDoor.Stm
open Go.ChangeShapes Go.WideShapes Go.ChangeAt Go.RowKit Key
set_option linter.unusedVariables false

theorem clone_any (A : Option Addr) (n cap : Nat) (ss : List ByteArray) (w : World) (hS : SL w A ss) (hn : ss.length = n) (hn2 : n ≤ 1000) (hA : (A = none ∧ n = 0) ∨ ∃ g, A = some ⟨g, 0, none⟩) :
    Calls Tryz.prog 44 #[.slice A n cap] w fun e w' => ∃ (A' : Option Addr) (c' : Nat), e = .returned (.slice A' n c') ∧ ((A' = none ∧ n = 0) ∨ ∃ g, A' = some ⟨g, 0, none⟩) ∧
      w'.ownsRow w.heap.size 9 1 (.slice A' n c') n (ss.map Value.string) ∧ Below w.heap.size w w' := by
  rcases hA with ⟨rfl, rfl⟩ | ⟨g, rfl⟩
  · refine (AnyE.slices_Clone_nil Tryz.laysSlE041_f44 0 cap w).mono ?_
    rintro e w' ⟨rfl, rfl⟩
    have : ss = [] := List.length_eq_zero_iff.1 hn
    subst this
    exact ⟨none, 0, rfl, Or.inl ⟨rfl, rfl⟩, World.ownsRow_nil _ _ _ _, Below.refl _ _⟩
  · obtain ⟨i0, hi0, hz0, hz1, hz2⟩ := info_parts infoS
    refine (AnyE.slices_Clone Tryz.laysSlE041_f44 i0 _ 1 16 hi0 hz0 hz1 hz2 rfl (by omega) Tryz.sizeOf9 g 0 n cap (ss.map Value.string) w (by simp [hn]) (by unfold maxLen; omega) (by omega) ?_ ?_).mono ?_
    · intro j u hj
      rw [Nat.zero_add]
      rw [List.getElem?_map] at hj
      have hjl : j < ss.length := by
        rcases Nat.lt_or_ge j ss.length with h | h
        · exact h
        · rw [List.getElem?_eq_none h] at hj; simp at hj
      rw [List.getElem?_eq_getElem hjl] at hj
      simp at hj
      subst hj
      obtain ⟨b, hb, _, hc⟩ := hS.2 (by omega)
      have : g = b := congrArg Addr.block (Option.some.inj hb)
      subst this
      exact hc j hjl
    · intro u hu
      obtain ⟨x, _, rfl⟩ := List.mem_map.1 hu
      rfl
    · rintro e w' ⟨v', rfl, ho, hne, hb⟩
      rcases ho.2 with ⟨e, e2⟩ | ⟨g', cap', cur, e, _⟩
      · exact absurd e hne
      · subst e
        exact ⟨some ⟨g', 0, none⟩, cap', rfl, Or.inr ⟨g', rfl⟩, ho, hb⟩
end Go.Proofs.YtjlbohbkhfhkpaaGreatDoor.Stm

/-
  THE CONTRACT OF Order: a list of the numbers below n, in memory of the call's own.
-/
namespace Go.Proofs.YtjlbohbkhfhkpaaGreatDoor.Stm
open Go.ChangeShapes Go.WideShapes Go.ChangeAt Go.RowKit Key
set_option linter.unusedVariables false

theorem infoI : (Tryz.prog.info? 3).map (fun i => (i.zero, i.size, i.bytes)) = some (some (.int .i64 0), 1, 8) := by kernel_rfl
def Nums (cs : Array Value) (n : Nat) : Prop := ∀ i, i < n → ∃ z : Nat, z < n ∧ cs[i]? = some (.int .i64 z)
theorem Nums.set {cs : Array Value} {n : Nat} (h : Nums cs n) (i : Nat) (z : Nat) (hz : z < n) (hi : i < n) : Nums (cs.setIfInBounds i (.int .i64 z)) n := by
  intro j hj
  by_cases e : i = j
  · subst e
    obtain ⟨y, _, hy⟩ := h i hi
    have hb : i < cs.size := by
      rcases Nat.lt_or_ge i cs.size with h | h
      · exact h
      · rw [Array.getElem?_eq_none h] at hy; cases hy
    exact ⟨z, hz, by simp [hb]⟩
  · obtain ⟨y, hy, hc⟩ := h j hj
    exact ⟨y, hy, by rw [Array.getElem?_setIfInBounds_ne e]; exact hc⟩
theorem blk_frozen {w : World} {B : Nat} {t : TypeId} {cs : Array Value} (h : Blk w B t cs) (i : Nat) : w.frozen? ⟨B, i, none⟩ = false := by
  unfold Blk at h; simp [World.frozen?, h]
theorem blk_set {w : World} {B : Nat} {t : TypeId} {cs : Array Value} (h : Blk w B t cs) (i : Nat) (u : Value) : Blk (w.setCell ⟨B, i, none⟩ u) B t (cs.setIfInBounds i u) := by
  unfold Blk at h ⊢
  simp [World.setCell, Array.getElem?_modify, h]
theorem blk_only {w w' : World} {B C : Nat} {t : TypeId} {cs : Array Value} (h : Blk w B t cs) (ho : Only C w w') (hne : B ≠ C) : Blk w' B t cs := (ho.block B hne).trans h

set_option maxHeartbeats 4000000 in
theorem order_any (B k n : Nat) (w : World) (h : Strm w B k) (hk : k ≤ 1000000) (hn : 1 ≤ n) (hn2 : n ≤ 1000) :
    Calls Tryz.prog 26 #[.pointer (some ⟨B, 0, none⟩), .int .i64 n] w fun e w' =>
      ∃ (g c : Nat) (cs : Array Value), e = .returned (.slice (some ⟨g, 0, none⟩) n c) ∧ n ≤ c ∧ w.heap.size ≤ g ∧ Blk w' g 3 cs ∧ Nums cs n ∧ Gr B w w' ∧ Strm w' B (k + n) := by
  have HS := Lib.hid h
  have hBlt : B < w.heap.size := by obtain ⟨_, _, _, _, hh, _⟩ := h; exact lt_of_block hh
  clear h
  go_enter Tryz.func26, Tryz.ntmps26
  go_wp2_with fail
  go_loopw [5, 10] (fun out i wr => ∃ (j : Nat) (A : Option Addr) (c : Nat) (is : List Nat), j ≤ n ∧ i = .int .i64 j ∧ out = .slice A j c ∧ is.length = j ∧ Hid (∀ x ∈ is, x < n) ∧
    Hid (wr.ownsRow w.heap.size 3 1 (.slice A j c) j (is.map fun (x : Nat) => Value.int .i64 x)) ∧ Hid (Gr B w wr) ∧ Hid (Strm wr B k)) (fun _ i _ => n - (intOf i).toNat)
  case atStart => exact ⟨0, none, 0, [], Nat.zero_le _, rfl, rfl, rfl, Lib.hid (by simp), Lib.hid (World.ownsRow_nil _ _ _ _), Lib.hid (Gr.refl _ _), HS⟩
  case round =>
    obtain ⟨j, A, c, is, hj, rfl, rfl, hm, HM, HO, HG, HST⟩ := hrel
    by_cases hlt : j < n
    · have hz1 : w.heap.size ≤ wr.heap.size := HG.out.size
      obtain ⟨i0, hi0, hz0, hz1', hz2⟩ := info_parts infoI
      have HI := Lib.hid hi0
      have Z0 := Lib.hid hz0
      have Z1 := Lib.hid hz1'
      have Z2 := Lib.hid hz2
      have HMM := Lib.hid hm
      clear hi0 hz0 hz1' hz2 hm
      go_wp2_with (at_builtin; (refine wpList_append_lies _ rfl _ _ _ rfl w.heap.size 3 i0 _ 1 8 Tryz.underlying22 HI.out Z0.out Z1.out Z2.out rfl (by omega) (.slice A j c) j (is.map fun (x : Nat) => Value.int .i64 x) rfl (HO.out.alloc _) ⟨wr.heap.size, 0, none⟩ 1 1 [.int .i64 j] rfl rfl (World.news_of_block (cs := #[.int .i64 j]) (t := 3) (fr := (0, 0)) (heap_alloc_new wr _)) (by simp [Value.oneCell']) (by omega) (by unfold maxLen; omega) (by omega) (by simp; omega) (wr.heap.size + 1) (by simp) ?_); intro gg cap' w2 hown hgrow hat hgl; (have O2 := Lib.hid (show w2.ownsRow w.heap.size 3 1 _ (j + 1) ((is ++ [j]).map fun (x : Nat) => Value.int .i64 x) by rw [List.map_append]; exact hown)); (have G2 := Lib.hid (row_gr (HG.out.alloc (.cells #[.int .i64 j] 3)) hgrow (fun g e => (HO.out.lt g e).1))); (have S2 := Lib.hid (HST.out.keep (((Below.refl _ _).alloc (by omega) (.cells #[.int .i64 j] 3)).trans (grown_below hgrow (fun g e => by have := (HO.out.lt g e).1; omega) (by simp; omega))))); clear hown hgrow hat)
      go_roundw
      case rel => exact ⟨j + 1, some ⟨gg, 0, none⟩, cap', is ++ [j], by omega, by go_num, rfl, by simp [HMM.out], Lib.hid (fun y hy => by rcases List.mem_append.1 hy with h | h; exact HM.out y h; (simp at h; subst h; exact hlt)), O2, G2, S2⟩
      case measure => simp [intOf]; omega
    · have hjN : j = n := by omega
      subst hjN
      have hcap := row_cap HO.out
      obtain ⟨g, cap', hv, hgw, hlt2⟩ := HO.out.form (by omega)
      obtain ⟨rfl, _, rfl⟩ : A = some ⟨g, 0, none⟩ ∧ True ∧ c = cap' := by injection hv with a b c; exact ⟨a, trivial, c⟩
      obtain ⟨cs, hbk⟩ : ∃ cs, Blk wr g 3 cs := by
        rcases HO.out.2 with ⟨e, _⟩ | ⟨g', cap', cur, e, _, hh, _, _⟩
        · cases e
        · injection e with e1; injection e1 with e1; injection e1 with e1; subst e1; exact ⟨_, hh⟩
      have hnum : Nums cs j := by
        intro i hi
        have hil : i < is.length := by omega
        have e1 := HO.out.cells (g := g) rfl i (.int .i64 (is[i] : Nat)) (by simp [List.getElem?_eq_getElem hil])
        rw [row_add] at e1
        refine ⟨is[i], HM.out _ (List.getElem_mem hil), ?_⟩
        unfold Blk at hbk
        simpa [World.cell?, hbk] using e1
      have HBK := Lib.hid hbk
      have HN := Lib.hid hnum
      clear hbk hnum hv HM HO hm
      go_wp2_with fail
      go_loopw [7] (fun i wr => ∃ (a : Nat) (cs : Array Value), a < j ∧ i = .int .i64 a ∧ Hid (Blk wr g 3 cs) ∧ Hid (Nums cs j) ∧ Hid (Gr B w wr) ∧ Hid (Strm wr B (k + (j - 1 - a)))) (fun i _ => (intOf i).toNat)
      case atStart => exact ⟨j - 1, cs, by omega, by go_num, HBK, HN, HG, Lib.hid (by simpa using HST.out)⟩
      case round =>
        obtain ⟨a, ds, ha, rfl, HB2, HN2, HG2, HS2⟩ := hrel
        by_cases h0 : 0 < a
        · go_wp2_with fail
          refine (next_any B (k + (j - 1 - a)) ((a : Int) + 1) _ HS2.out (by omega) (by omega) (by omega)).mono ?_; rintro e w1 ⟨r, r0, r1, rfl, ho, hs⟩
          obtain ⟨z, rfl⟩ : ∃ z : Nat, r = z := ⟨r.toNat, by omega⟩
          have B3 := Lib.hid (blk_only HB2.out ho (by omega))
          have G3 := Lib.hid (HG2.out.trans (Gr.only ho))
          have S3 := Lib.hid hs
          obtain ⟨x, hx, cx⟩ := HN2.out a ha
          obtain ⟨y, hy, cy⟩ := HN2.out z (by omega)
          have c1 := B3.out.cell a _ cx
          have c2 := B3.out.cell z _ cy
          have f1 := blk_frozen B3.out a
          have f2 := blk_frozen B3.out z
          have g1 : (0 : Int) ≤ (a : Int) := by omega
          have g2 : (a : Int) < (j : Int) := by omega
          have g3 : (0 : Int) ≤ (z : Int) := by omega
          have g4 : (z : Int) < (j : Int) := by omega
          have B4 := Lib.hid (blk_set B3.out a (.int .i64 y))
          have N4 := HN2.out.set a y hy ha
          obtain ⟨x', hx', cx'⟩ := N4 z (by omega)
          have c3 := B4.out.cell z _ cx'
          have f3 := blk_frozen B4.out z
          have B5 := Lib.hid (blk_set B4.out z (.int .i64 x))
          have N5 := Lib.hid (N4.set z x hx (by omega))
          have G5 := Lib.hid ((G3.out.setCell (p := ⟨g, a, none⟩) hgw (.int .i64 y)).setCell (p := ⟨g, z, none⟩) hgw (.int .i64 x))
          have S5 := Lib.hid (S3.out.keep ((((Below.refl (B + 1) w1).setCell (by simp; omega) (.int .i64 y)).setCell (by simp; omega) (.int .i64 x) : Below (B + 1) w1 ((w1.setCell ⟨g, a, none⟩ (.int .i64 y)).setCell ⟨g, z, none⟩ (.int .i64 x)))))
          clear ho hs cx cy cx' N4
          go_wp2_with fail
          go_region
          all_goals
            go_wp2_with fail
            go_roundw
            case rel => exact ⟨a - 1, _, by omega, by go_num, Lib.hid B5.out, N5, Lib.hid G5.out.drew, Lib.hid (by have := S5.out; rwa [show k + (j - 1 - a) + 1 = k + (j - 1 - (a - 1)) by omega] at this)⟩
            case measure => simp [intOf]; omega
        · have ha0 : a = 0 := by omega
          subst ha0
          go_wp2_with fail
          go_ret
          exact ⟨g, c, ds, rfl, hcap, hgw, HB2.out, HN2.out, HG2.out, HS2.out.mono (by omega)⟩
end Go.Proofs.YtjlbohbkhfhkpaaGreatDoor.Stm
