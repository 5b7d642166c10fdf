/-
  THE CONTRACT OF THE MAKER OF SOME STRINGS (some): a list of strings in memory of the call's own; and what a row of strings is.
-/
import Derived.Test.YtanoojmgjinmfaaDoorOne
import Derived.Test.YtanoojmgjinmfaaDoorLists
import Derived.Test.YtanoojmgjinmfaaDoorWords
namespace Go.Proofs.YtanoojmgjinmfaaDoor.Stm
open Go.ChangeShapes Go.WideShapes Go.ChangeAt Go.RowKit Key
set_option linter.unusedVariables false

theorem row_only {w w' : World} {B base E S n : Nat} {v : Value} {xs : List Value} (h : w.ownsRow base E S v n xs) (ho : Only B w w') (hB : B < base) : w'.ownsRow base E S v n xs :=
  h.kept (Gr.only ho) (by
    rcases hb : v.ownBlock with _ | g
    · exact Or.inl rfl
    · refine Or.inr ?_; have := h.lt g hb; intro e; injection e; omega)
theorem row_gr {B : Nat} {w0 w w' : World} {row : Option Nat} (g : Gr B w0 w) (h : w.grownBy w' row) (hr : ∀ g, row = some g → w0.heap.size ≤ g) : Gr B w0 w' :=
  ⟨h.os.trans g.os, h.tape.trans g.tape, h.output.trans g.output, Nat.le_trans g.size h.size, fun i hi hne =>
    (h.block i (Nat.lt_of_lt_of_le hi g.size) (fun e => by have := hr i e.symm; omega)).trans (g.block i hi hne)⟩
theorem row_cap {w : World} {base E S n cap : Nat} {A : Option Addr} {m : Nat} {xs : List Value} (h : w.ownsRow base E S (.slice A n cap) m xs) : n ≤ cap := by
  rcases h.2 with ⟨e, _⟩ | ⟨g, cap', cur, e, _, _, hc, _⟩
  · injection e with _ e1 e2; omega
  · injection e with _ e1 e2; omega
theorem row_add (b i : Nat) : (⟨b, 0, none⟩ : Addr).add i = ⟨b, i, none⟩ := by
  unfold Addr.add; split
  · rename_i h; subst h; rfl
  · simp
theorem row_sl {w : World} {base n cap : Nat} {A : Option Addr} {ss : List ByteArray} (h : w.ownsRow base 9 1 (.slice A n cap) n (ss.map Value.string)) (L : ss.length = n) (hsz : ∀ x ∈ ss, x.size ≤ 1000) : SL w A ss := by
  refine ⟨hsz, fun h0 => ?_⟩
  obtain ⟨g, cap', hv, _, hlt⟩ := h.form (by omega)
  have hA : A = some ⟨g, 0, none⟩ := by injection hv
  subst hA
  refine ⟨g, rfl, hlt, fun i hi => ?_⟩
  have e1 := h.cells (g := g) rfl i (.string ss[i]) (by simp [List.getElem?_eq_getElem hi])
  rw [row_add] at e1
  exact e1
theorem infoS : (Tryd.prog.info? 9).map (fun i => (i.zero, i.size, i.bytes)) = some (some (.string ⟨#[]⟩), 1, 16) := by kernel_rfl

set_option maxHeartbeats 4000000 in
theorem some_any (B k b N cap : Nat) (odds : Int) (zs : List ByteArray) (t : TypeId) (fz : Nat × Nat) (w : World) (h : Strm w B k) (hk : k ≤ 1000000) (hbB : b ≠ B) (hblt : b < w.heap.size)
    (hb : w.heap[b]? = some (.cells (zs.map Value.string).toArray t fz)) (h2 : zs.length = N) (hN : N ≤ 1000) (ho1 : 1 ≤ odds) (ho2 : odds ≤ 1000) (hsz : ∀ x ∈ zs, x.size ≤ 1000) :
    Calls Tryd.prog 14 #[.pointer (some ⟨B, 0, none⟩), .int .i64 odds, .slice (some ⟨b, 0, none⟩) N cap] w fun e w' =>
      ∃ (A : Option Addr) (n c : Nat) (ss : List ByteArray), e = .returned (.slice A n c) ∧ ss.length = n ∧ n ≤ N ∧ (∀ x ∈ ss, x.size ≤ 1000) ∧
        w'.ownsRow w.heap.size 9 1 (.slice A n c) n (ss.map Value.string) ∧ Gr B w w' ∧ Strm w' B (k + N) := by
  have HS := Lib.hid h
  have HB := Lib.hid hb
  have HL := Lib.hid h2
  have HSZ := Lib.hid hsz
  have hBlt : B < w.heap.size := by obtain ⟨_, _, _, _, hh, _⟩ := h; exact lt_of_block hh
  clear h hb h2 hsz
  go_enter Tryd.func14, Tryd.ntmps14
  go_wp2_with fail
  go_loopw [7, 12] (fun out i wr => ∃ (j : Nat) (A : Option Addr) (m c : Nat) (ss : List ByteArray), j ≤ N ∧ i = .int .i64 j ∧ out = .slice A m c ∧ ss.length = m ∧ m ≤ j ∧ Hid (∀ x ∈ ss, x.size ≤ 1000) ∧
    Hid (wr.ownsRow w.heap.size 9 1 (.slice A m c) m (ss.map Value.string)) ∧ Hid (Gr B w wr) ∧ Hid (Strm wr B (k + j))) (fun _ i _ => N - (intOf i).toNat)
  case atStart => exact ⟨0, none, 0, 0, [], Nat.zero_le _, rfl, rfl, rfl, Nat.le_refl _, Lib.hid (by simp), Lib.hid (World.ownsRow_nil _ _ _ _), Lib.hid (Gr.refl _ _), HS⟩
  case round =>
    obtain ⟨j, A, m, c, ss, hj, rfl, rfl, hm, hmj, HM, HO, HG, HST⟩ := hrel
    by_cases hlt : j < N
    · have hjl : j < zs.length := by have := HL.out; omega
      have c1 : wr.cell? ⟨b, j, none⟩ = some (.string zs[j]) := (HG.out.cell b j hblt hbB).trans (str_cell HB.out j hjl)
      have hxs := HSZ.out zs[j] (List.getElem_mem hjl)
      generalize zs[j] = x at *
      have HMM := Lib.hid hm
      clear hm
      go_wp2_with fail
      refine (flip_any B (k + j) odds wr HST.out (by omega) ho1 (by omega)).mono ?_; rintro e w1 ⟨r, rfl, ho, hs⟩
      have O1 := Lib.hid (row_only HO.out ho hBlt)
      have G1 := Lib.hid (HG.out.trans (Gr.only ho))
      have S1 := Lib.hid hs
      have hz1 : w.heap.size ≤ w1.heap.size := G1.out.size
      clear ho hs c1
      cases r
      · go_wp2_with fail
        go_roundw
        case rel => exact ⟨j + 1, A, m, c, ss, by omega, by go_num, rfl, HMM.out, by omega, HM, O1, G1, Lib.hid (by have := S1.out; rwa [Nat.add_assoc] at this)⟩
        case measure => simp [intOf]; omega
      · obtain ⟨i0, hi0, hz0, hz1', hz2⟩ := info_parts infoS
        have HI := Lib.hid hi0
        have Z0 := Lib.hid hz0
        have Z1 := Lib.hid hz1'
        have Z2 := Lib.hid hz2
        clear hi0 hz0 hz1' hz2
        go_wp2_with (at_builtin; (refine wpList_append_lies _ rfl _ _ _ rfl w.heap.size 9 i0 _ 1 16 Tryd.underlying28 HI.out Z0.out Z1.out Z2.out rfl (by omega) (.slice A m c) m (ss.map Value.string) rfl (O1.out.alloc _) ⟨w1.heap.size, 0, none⟩ 1 1 [.string x] rfl rfl (World.news_of_block (cs := #[.string x]) (t := 9) (fr := (0, 0)) (heap_alloc_new w1 _)) (by simp [Value.oneCell']) (by omega) (by unfold maxLen; omega) (by omega) (by simp; omega) (w1.heap.size + 1) (by simp) ?_); intro gg cap' w2 hown hgrow hat hgl; (have O2 := Lib.hid (show w2.ownsRow w.heap.size 9 1 _ (m + 1) ((ss ++ [x]).map Value.string) by rw [List.map_append]; exact hown)); (have G2 := Lib.hid (row_gr (G1.out.alloc (.cells #[.string x] 9)) hgrow (fun g e => (O1.out.lt g e).1))); (have S2 := Lib.hid (S1.out.keep (((Below.refl _ _).alloc (by omega) (.cells #[.string x] 9)).trans (grown_below hgrow (fun g e => by have := (O1.out.lt g e).1; omega) (by simp; omega))))); clear hown hgrow hat)
        go_roundw
        case rel => exact ⟨j + 1, some ⟨gg, 0, none⟩, m + 1, cap', ss ++ [x], by omega, by go_num, rfl, by simp [HMM.out], by omega, Lib.hid (fun y hy => by rcases List.mem_append.1 hy with h | h; exact HM.out y h; (simp at h; subst h; exact hxs)), O2, G2, Lib.hid (by have := S2.out; rwa [Nat.add_assoc] at this)⟩
        case measure => simp [intOf]; omega
    · have hjN : j = N := by omega
      subst hjN
      go_wp2_with fail
      go_ret
      exact ⟨A, m, c, ss, rfl, hm, hmj, HM.out, HO.out, HG.out, HST.out⟩
def topics6 : List ByteArray := [⟨#[97, 114, 116]⟩, ⟨#[98, 114, 101, 97, 100]⟩, ⟨#[99, 97, 107, 101]⟩, ⟨#[100, 97, 114, 107]⟩, ⟨#[114, 111, 108, 108, 115]⟩, ⟨#[114, 121, 101]⟩]
theorem topics_any (w : World) : Calls Tryd.prog 15 #[] w fun e w' => e = .returned (.slice (some ⟨w.heap.size, 0, none⟩) 6 6) ∧ w' = w.alloc (.cells (topics6.map Value.string).toArray 9) := by
  go_enter Tryd.func15, Tryd.ntmps15
  go_wp2_with fail
  go_ret
  exact ⟨rfl, rfl⟩
theorem topics_le : ∀ s ∈ topics6, s.size ≤ 1000 := le_all (by decide)
end Go.Proofs.YtanoojmgjinmfaaDoor.Stm
