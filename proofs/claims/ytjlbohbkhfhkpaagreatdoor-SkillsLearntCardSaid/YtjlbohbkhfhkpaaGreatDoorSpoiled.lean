/-
  THE CONTRACT OF THE MAKER OF SPOILED PAPERS: whatever the numbers are, some paper whose strings are short and whose lists lie apart.
-/
import Derived.Test.YtjlbohbkhfhkpaaGreatDoorGPapers
import Derived.Test.YtjlbohbkhfhkpaaGreatDoorGSome
import Derived.Test.YtjlbohbkhfhkpaaGreatDoorGForTop
import Derived.Shelf.Strings.Repeat
namespace Go.Proofs.YtjlbohbkhfhkpaaGreatDoor.Key
open Go.ChangeShapes Go.WideShapes Go.ChangeAt Go.RowKit Stm
set_option linter.unusedVariables false

/-- A list that is nil or lies at the head of a block that is not B. -/
def AtB (B : Nat) (A : Option Addr) (n : Nat) : Prop := (A = none ∧ n = 0) ∨ ∃ g, A = some ⟨g, 0, none⟩ ∧ g ≠ B
theorem SL.gr {w w' : World} {A : Option Addr} {ss : List ByteArray} {B : Nat} (h : SL w A ss) (ha : AtB B A ss.length) (g : Gr B w w') : SL w' A ss :=
  ⟨h.1, fun h0 => by
    obtain ⟨b, hA, hlt, hc⟩ := h.2 h0
    have hb : b ≠ B := by
      rcases ha with ⟨e, _⟩ | ⟨g, e, hg⟩
      · rw [e] at hA; cases hA
      · rw [e] at hA; injection hA with hA; injection hA with h1; omega
    exact ⟨b, hA, Nat.lt_of_lt_of_le hlt g.size, fun i hi => (g.cell b i hlt hb).trans (hc i hi)⟩⟩
theorem SL.far {w : World} {A : Option Addr} {ss : List ByteArray} {p : Addr} (h : SL w A ss) (ha : AtB p.block A ss.length) (u : Value) : SL (w.setCell p u) A ss :=
  ⟨h.1, fun h0 => by
    obtain ⟨b, hA, hlt, hc⟩ := h.2 h0
    have hb : b ≠ p.block := by
      rcases ha with ⟨e, _⟩ | ⟨g, e, hg⟩
      · rw [e] at hA; cases hA
      · rw [e] at hA; injection hA with hA; injection hA with h1; omega
    exact ⟨b, hA, by simpa using hlt, fun i hi => (World.cell?_of_block (a := ⟨b, i, none⟩) (Below.heap_setCell w p u b hb)).trans (hc i hi)⟩⟩
/-- A paper whose lists have at most m strings, and lie apart from block B. -/
def PapN (w : World) (B m : Nat) (x : Pap) : Prop := PapOk w x ∧ x.au.length ≤ m ∧ x.tp.length ≤ m ∧ AtB B x.A x.au.length ∧ AtB B x.B x.tp.length
theorem PapN.gr {w w' : World} {B m : Nat} {x : Pap} (h : PapN w B m x) (g : Gr B w w') : PapN w' B m x :=
  ⟨⟨h.1.1, h.1.2.1, h.1.2.2.1, h.1.2.2.2.1, h.1.2.2.2.2.1, h.1.2.2.2.2.2.1, h.1.2.2.2.2.2.2.1, h.1.2.2.2.2.2.2.2.1.gr h.2.2.2.1 g, h.1.2.2.2.2.2.2.2.2.gr h.2.2.2.2 g⟩, h.2⟩
theorem PapN.mono {w : World} {B m m' : Nat} {x : Pap} (h : PapN w B m x) (hm : m ≤ m') : PapN w B m' x := ⟨h.1, Nat.le_trans h.2.1 hm, Nat.le_trans h.2.2.1 hm, h.2.2.2⟩
theorem papn_mk {w : World} {B m : Nat} {p t ti : ByteArray} {A Bt : Option Addr} {ca cb : Nat} {au tp : List ByteArray} (h1 : p.size ≤ 1000) (h2 : t.size ≤ 1000) (h3 : ti.size ≤ 1000) (hm : m ≤ 1000) (h4 : au.length ≤ m) (h5 : tp.length ≤ m)
    (h6 : au.length ≤ ca) (h7 : tp.length ≤ cb) (h8 : SL w A au) (h9 : SL w Bt tp) (h10 : AtB B A au.length) (h11 : AtB B Bt tp.length) : PapN w B m ⟨p, t, ti, A, Bt, ca, cb, au, tp⟩ :=
  ⟨⟨h1, h2, h3, Nat.le_trans h4 hm, Nat.le_trans h5 hm, h6, h7, h8, h9⟩, h4, h5, h10, h11⟩
theorem blk_at {w : World} {n : Nat} (t : TypeId) (cs : Array Value) (h : n = w.heap.size) : Blk (w.alloc (.cells cs t)) n t cs := by subst h; exact Blk.new w t cs
theorem SL.nil (w : World) (A : Option Addr) : SL w A [] := ⟨by simp, fun h => absurd h (by simp)⟩
end Go.Proofs.YtjlbohbkhfhkpaaGreatDoor.Key
namespace Go.Proofs.YtjlbohbkhfhkpaaGreatDoor.Stm
open Go.ChangeShapes Go.WideShapes Go.ChangeAt Go.RowKit Key

theorem rep_any (c : UInt8) (n : Nat) (hn : n ≤ 1000) (w : World) : Calls Tryz.prog 43 #[.string ⟨#[c]⟩, .int .i64 n] w fun e w' => ∃ r : ByteArray, r.size ≤ 1000 ∧ e = .returned (.string r) ∧ Below w.heap.size w w' :=
  (Any.strings_Repeat Tryz.lays105 Tryz.Builder_Extra_105 ⟨#[c]⟩ n w (by omega) (by have : (⟨#[c]⟩ : ByteArray).size = 1 := rfl; rw [this]; omega)).mono fun e w' ⟨he, hb⟩ => ⟨_, by rw [Lib.size_eq, Lib.repeatL_length]; simp; omega, he, hb⟩
theorem bset5 {C : Nat} (w : World) (Y : Nat) (v0 v1 v2 v3 v4 : Value) (hY : C ≤ Y) :
    Below C w (((((w.setCell ⟨Y, 0, none⟩ v0).setCell ⟨Y, 1, none⟩ v1).setCell ⟨Y, 2, none⟩ v2).setCell ⟨Y, 3, none⟩ v3).setCell ⟨Y, 4, none⟩ v4) :=
  (((((Below.refl _ _).setCell hY _).setCell hY _).setCell hY _).setCell hY _).setCell hY _
theorem grset5 {B : Nat} {a w : World} (h : Gr B a w) (Y : Nat) (v0 v1 v2 v3 v4 : Value) (hY : a.heap.size ≤ Y) :
    Gr B a (((((w.setCell ⟨Y, 0, none⟩ v0).setCell ⟨Y, 1, none⟩ v1).setCell ⟨Y, 2, none⟩ v2).setCell ⟨Y, 3, none⟩ v3).setCell ⟨Y, 4, none⟩ v4) :=
  (((((h.setCell (p := ⟨Y, 0, none⟩) hY _).setCell (p := ⟨Y, 1, none⟩) hY _).setCell (p := ⟨Y, 2, none⟩) hY _).setCell (p := ⟨Y, 3, none⟩) hY _).setCell (p := ⟨Y, 4, none⟩) hY _)
theorem slset5 {w : World} {A : Option Addr} {ss : List ByteArray} (h : SL w A ss) (Y : Nat) (v0 v1 v2 v3 v4 : Value) (hY : AtB Y A ss.length) :
    SL (((((w.setCell ⟨Y, 0, none⟩ v0).setCell ⟨Y, 1, none⟩ v1).setCell ⟨Y, 2, none⟩ v2).setCell ⟨Y, 3, none⟩ v3).setCell ⟨Y, 4, none⟩ v4) A ss :=
  ((((h.far (p := ⟨Y, 0, none⟩) hY _).far (p := ⟨Y, 1, none⟩) hY _).far (p := ⟨Y, 2, none⟩) hY _).far (p := ⟨Y, 3, none⟩) hY _).far (p := ⟨Y, 4, none⟩) hY _
theorem list_le {x y : ByteArray} {l : List ByteArray} (h : ∀ s ∈ l, s.size ≤ 1000) (hx : x.size ≤ 1000) (hy : y.size ≤ 1000) : ∀ s ∈ l ++ [x, y], s.size ≤ 1000 := fun s hs => by
  rcases List.mem_append.1 hs with h1 | h1
  · exact h s h1
  · simp only [List.mem_cons, List.mem_nil_iff, or_false] at h1
    rcases h1 with rfl | rfl
    · exact hx
    · exact hy

/-- What SpoiledPaper hands back. -/
def SpRet (B k m : Nat) (x0 : Pap) (w : World) (e : Ending) (w' : World) : Prop :=
  ∃ x : Pap, e = .returned (.agg x.cells) ∧ PapN w' B (m + 1) x ∧ Gr B w w' ∧ Strm w' B (k + 2) ∧ ∀ C, (C < w.heap.size ∨ w'.heap.size ≤ C) → AtB C x0.A x0.au.length → AtB C x0.B x0.tp.length → AtB C x.A x.au.length ∧ AtB C x.B x.tp.length

set_option maxHeartbeats 8000000 in
theorem spoiled_any (B k m : Nat) (x : Pap) (w : World) (hs : Strm w B k) (hk : k ≤ 1000000) (hx : PapN w B m x) (hm : m ≤ 900) :
    Calls Tryz.prog 27 #[.pointer (some ⟨B, 0, none⟩), .agg x.cells] w (SpRet B k m x w) := by
  obtain ⟨p, t, ti, A, Bt, ca, cb, au, tp⟩ := x
  have hB := hs.lt
  have HS := Lib.hid hs
  have PN := Lib.hid hx
  have G := Lib.hid (((Gr.refl B w).alloc (.cells #[.string p, .string t, .string ti, .slice A au.length ca, .slice Bt tp.length cb] 56)).alloc (.cells #[.string ⟨#[]⟩, .string ⟨#[]⟩, .string ⟨#[]⟩, .slice none 0 0, .slice none 0 0] 56))
  have C := Lib.hid ((Blk.new w 56 #[.string p, .string t, .string ti, .slice A au.length ca, .slice Bt tp.length cb]).below ((Below.refl (w.heap.size + 1) _).alloc (by simp) (.cells #[.string ⟨#[]⟩, .string ⟨#[]⟩, .string ⟨#[]⟩, .slice none 0 0, .slice none 0 0] 56)) (by simp))
  have R := Lib.hid (blk_at (w := w.alloc (.cells #[.string p, .string t, .string ti, .slice A au.length ca, .slice Bt tp.length cb] 56)) (n := w.heap.size + 1) 56 #[.string ⟨#[]⟩, .string ⟨#[]⟩, .string ⟨#[]⟩, .slice none 0 0, .slice none 0 0] (by simp))
  obtain ⟨hok, hl1, hl2, hat1, hat2⟩ := PN.out
  obtain ⟨hp, ht, hti, _, _, hca, hcb, hSA, hSB⟩ := hok
  have HAT1 := Lib.hid hat1
  have HAT2 := Lib.hid hat2
  have HSA := Lib.hid hSA
  have HSB := Lib.hid hSB
  clear hs hx PN hat1 hat2 hSA hSB
  unfold Pap.cells
  go_enter Tryz.func27, Tryz.ntmps27
  go_wp2_with fail
  refine (next_any B k 6 _ (HS.out.keep (by go_grown)) (by omega) (by omega) (by omega)).mono ?_
  rintro e w1 ⟨sw, s0, s1, rfl, ho, hs⟩
  replace R := Lib.hid (R.out.only ho (by omega))
  replace G := Lib.hid (G.out.trans (Gr.only ho))
  replace C := Lib.hid (C.out.only ho (by omega))
  replace HS := Lib.hid hs
  have hB1 := hs.lt
  have hX := C.out.lt
  have hR := R.out.lt
  clear ho hs
  rcases (by omega : sw = 0 ∨ sw = 1 ∨ sw = 2 ∨ sw = 3 ∨ sw = 4 ∨ sw = 5) with rfl | rfl | rfl | rfl | rfl | rfl
  · go_wp2_with fail
    refine (rep_any 112 40 (by omega) _).mono ?_
    rintro e wr0 ⟨q0, hq0, rfl, hb⟩
    replace R := Lib.hid (R.out.below hb hR)
    replace C := Lib.hid (C.out.below hb hX)
    replace G := Lib.hid (G.out.trans (Gr.below hb))
    replace HS := Lib.hid (HS.out.keep (hb.mono hB1))
    have hB1 := HS.out.lt
    have hX := C.out.lt
    have hR := R.out.lt
    clear hb
    go_wp2_with fail
    refine (rep_any 112 41 (by omega) _).mono ?_
    rintro e wr1 ⟨q1, hq1, rfl, hb⟩
    replace R := Lib.hid (R.out.below hb hR)
    replace C := Lib.hid (C.out.below hb hX)
    replace G := Lib.hid (G.out.trans (Gr.below hb))
    replace HS := Lib.hid (HS.out.keep (hb.mono hB1))
    have hB1 := HS.out.lt
    have hX := C.out.lt
    have hR := R.out.lt
    clear hb
    go_wp2_with fail
    refine (h06_le 1000 B (k + 1) _ _ [⟨#[]⟩, ⟨#[112, 97]⟩, ⟨#[80]⟩, q0, q1] _ _ _ (HS.out.keep (by go_grown)) (by omega) (by omega) (new_at (by simp)) (by simp) (by simp) (list_le (l := [⟨#[]⟩, ⟨#[112, 97]⟩, ⟨#[80]⟩]) (le_all (by decide +kernel)) hq0 hq1)).mono ?_
    rintro e w6 ⟨u, hu, rfl, ho, hs⟩
    replace R := Lib.hid ((R.out.alloc _).only ho (by omega))
    replace G := Lib.hid ((G.out.alloc _).trans (Gr.only ho))
    replace C := Lib.hid ((C.out.alloc _).only ho (by omega))
    replace HS := Lib.hid hs
    have hB6 := hs.lt
    have hX6 := C.out.lt
    have hR6 := R.out.lt
    clear ho hs
    have x0 := C.out.cell 0 _ rfl
    have x1 := C.out.cell 1 _ rfl
    have x2 := C.out.cell 2 _ rfl
    have x3 := C.out.cell 3 _ rfl
    have x4 := C.out.cell 4 _ rfl
    have y := C.out.frozen 0
    have r0 := R.out.cell 0 _ rfl
    have r1 := R.out.cell 1 _ rfl
    have r2 := R.out.cell 2 _ rfl
    have r3 := R.out.cell 3 _ rfl
    have r4 := R.out.cell 4 _ rfl
    have f0 := R.out.frozen 0
    have f1 := R.out.frozen 1
    have f2 := R.out.frozen 2
    have f3 := R.out.frozen 3
    have f4 := R.out.frozen 4
    go_wp2_with fail
    refine bodyPost_ret (v := .agg #[.string u, .string t, .string ti, .slice A au.length ca, .slice Bt tp.length cb]) (by simp only [results, Tryz.results27]; go_simp) rfl ?_
    have GF := grset5 (G.out.setCell (p := ⟨w.heap.size, 0, none⟩) (Nat.le_refl _) (.string u)) (w.heap.size + 1) (.string u) (.string t) (.string ti) (.slice A au.length ca) (.slice Bt tp.length cb) (Nat.le_succ _)
    refine ⟨⟨u, t, ti, A, Bt, ca, cb, au, tp⟩, rfl, papn_mk (by omega) (by omega) (by omega) (by omega) (by omega) (by omega) (by omega) (by omega) (HSA.out.gr HAT1.out GF) (HSB.out.gr HAT2.out GF) HAT1.out HAT2.out, GF, (HS.out.keep (((Below.refl _ _).setCell (p := ⟨w.heap.size, 0, none⟩) hB _).trans (bset5 _ _ _ _ _ _ _ (Nat.le_trans hB (Nat.le_succ _))))).mono (by omega), fun C hC h1 h2 => ⟨h1, h2⟩⟩
  · go_wp2_with fail
    refine (h06_le 1000 B (k + 1) _ _ [⟨#[]⟩, ⟨#[77, 97, 105, 110]⟩] _ _ _ (HS.out.keep (by go_grown)) (by omega) (by omega) (new_at (by simp)) (by simp) (by simp) (le_all (by decide +kernel))).mono ?_
    rintro e w6 ⟨u, hu, rfl, ho, hs⟩
    replace R := Lib.hid ((R.out.alloc _).only ho (by omega))
    replace G := Lib.hid ((G.out.alloc _).trans (Gr.only ho))
    replace C := Lib.hid ((C.out.alloc _).only ho (by omega))
    replace HS := Lib.hid hs
    have hB6 := hs.lt
    have hX6 := C.out.lt
    have hR6 := R.out.lt
    clear ho hs
    have x0 := C.out.cell 0 _ rfl
    have x1 := C.out.cell 1 _ rfl
    have x2 := C.out.cell 2 _ rfl
    have x3 := C.out.cell 3 _ rfl
    have x4 := C.out.cell 4 _ rfl
    have y := C.out.frozen 1
    have r0 := R.out.cell 0 _ rfl
    have r1 := R.out.cell 1 _ rfl
    have r2 := R.out.cell 2 _ rfl
    have r3 := R.out.cell 3 _ rfl
    have r4 := R.out.cell 4 _ rfl
    have f0 := R.out.frozen 0
    have f1 := R.out.frozen 1
    have f2 := R.out.frozen 2
    have f3 := R.out.frozen 3
    have f4 := R.out.frozen 4
    go_wp2_with fail
    refine bodyPost_ret (v := .agg #[.string p, .string u, .string ti, .slice A au.length ca, .slice Bt tp.length cb]) (by simp only [results, Tryz.results27]; go_simp) rfl ?_
    have GF := grset5 (G.out.setCell (p := ⟨w.heap.size, 1, none⟩) (Nat.le_refl _) (.string u)) (w.heap.size + 1) (.string p) (.string u) (.string ti) (.slice A au.length ca) (.slice Bt tp.length cb) (Nat.le_succ _)
    refine ⟨⟨p, u, ti, A, Bt, ca, cb, au, tp⟩, rfl, papn_mk (by omega) (by omega) (by omega) (by omega) (by omega) (by omega) (by omega) (by omega) (HSA.out.gr HAT1.out GF) (HSB.out.gr HAT2.out GF) HAT1.out HAT2.out, GF, (HS.out.keep (((Below.refl _ _).setCell (p := ⟨w.heap.size, 1, none⟩) hB _).trans (bset5 _ _ _ _ _ _ _ (Nat.le_trans hB (Nat.le_succ _))))).mono (by omega), fun C hC h1 h2 => ⟨h1, h2⟩⟩
  · go_wp2_with fail
    refine (rep_any 116 200 (by omega) _).mono ?_
    rintro e wr0 ⟨q0, hq0, rfl, hb⟩
    replace R := Lib.hid (R.out.below hb hR)
    replace C := Lib.hid (C.out.below hb hX)
    replace G := Lib.hid (G.out.trans (Gr.below hb))
    replace HS := Lib.hid (HS.out.keep (hb.mono hB1))
    have hB1 := HS.out.lt
    have hX := C.out.lt
    have hR := R.out.lt
    clear hb
    go_wp2_with fail
    refine (rep_any 116 201 (by omega) _).mono ?_
    rintro e wr1 ⟨q1, hq1, rfl, hb⟩
    replace R := Lib.hid (R.out.below hb hR)
    replace C := Lib.hid (C.out.below hb hX)
    replace G := Lib.hid (G.out.trans (Gr.below hb))
    replace HS := Lib.hid (HS.out.keep (hb.mono hB1))
    have hB1 := HS.out.lt
    have hX := C.out.lt
    have hR := R.out.lt
    clear hb
    go_wp2_with fail
    refine (h06_le 1000 B (k + 1) _ _ [⟨#[]⟩, ⟨#[32, 120]⟩, ⟨#[97, 32, 32, 98]⟩, ⟨#[97, 9, 98]⟩, q0, q1] _ _ _ (HS.out.keep (by go_grown)) (by omega) (by omega) (new_at (by simp)) (by simp) (by simp) (list_le (l := [⟨#[]⟩, ⟨#[32, 120]⟩, ⟨#[97, 32, 32, 98]⟩, ⟨#[97, 9, 98]⟩]) (le_all (by decide +kernel)) hq0 hq1)).mono ?_
    rintro e w6 ⟨u, hu, rfl, ho, hs⟩
    replace R := Lib.hid ((R.out.alloc _).only ho (by omega))
    replace G := Lib.hid ((G.out.alloc _).trans (Gr.only ho))
    replace C := Lib.hid ((C.out.alloc _).only ho (by omega))
    replace HS := Lib.hid hs
    have hB6 := hs.lt
    have hX6 := C.out.lt
    have hR6 := R.out.lt
    clear ho hs
    have x0 := C.out.cell 0 _ rfl
    have x1 := C.out.cell 1 _ rfl
    have x2 := C.out.cell 2 _ rfl
    have x3 := C.out.cell 3 _ rfl
    have x4 := C.out.cell 4 _ rfl
    have y := C.out.frozen 2
    have r0 := R.out.cell 0 _ rfl
    have r1 := R.out.cell 1 _ rfl
    have r2 := R.out.cell 2 _ rfl
    have r3 := R.out.cell 3 _ rfl
    have r4 := R.out.cell 4 _ rfl
    have f0 := R.out.frozen 0
    have f1 := R.out.frozen 1
    have f2 := R.out.frozen 2
    have f3 := R.out.frozen 3
    have f4 := R.out.frozen 4
    go_wp2_with fail
    refine bodyPost_ret (v := .agg #[.string p, .string t, .string u, .slice A au.length ca, .slice Bt tp.length cb]) (by simp only [results, Tryz.results27]; go_simp) rfl ?_
    have GF := grset5 (G.out.setCell (p := ⟨w.heap.size, 2, none⟩) (Nat.le_refl _) (.string u)) (w.heap.size + 1) (.string p) (.string t) (.string u) (.slice A au.length ca) (.slice Bt tp.length cb) (Nat.le_succ _)
    refine ⟨⟨p, t, u, A, Bt, ca, cb, au, tp⟩, rfl, papn_mk (by omega) (by omega) (by omega) (by omega) (by omega) (by omega) (by omega) (by omega) (HSA.out.gr HAT1.out GF) (HSB.out.gr HAT2.out GF) HAT1.out HAT2.out, GF, (HS.out.keep (((Below.refl _ _).setCell (p := ⟨w.heap.size, 2, none⟩) hB _).trans (bset5 _ _ _ _ _ _ _ (Nat.le_trans hB (Nat.le_succ _))))).mono (by omega), fun C hC h1 h2 => ⟨h1, h2⟩⟩
  · have x3 := C.out.cell 3 _ rfl
    go_wp2_with fail
    refine (clone_any A au.length ca au _ (HSA.out.gr HAT1.out G.out) rfl (by omega) ?_).mono ?_
    · rcases HAT1.out with h | ⟨g, h, _⟩
      · exact Or.inl h
      · exact Or.inr ⟨g, h⟩
    rintro e w2 ⟨A2, c2, rfl, hA2, hown, hb⟩
    have OW := Lib.hid hown
    have hbase := hb.size
    clear hA2 hown x3
    replace R := Lib.hid (R.out.below hb hR)
    replace C := Lib.hid (C.out.below hb hX)
    replace G := Lib.hid (G.out.trans (Gr.below hb))
    replace HS := Lib.hid (HS.out.keep (hb.mono hB1))
    have hB1 := HS.out.lt
    have hX := C.out.lt
    have hR := R.out.lt
    clear hb
    go_wp2_with fail
    refine (h06_le 1000 B (k + 1) _ _ [⟨#[]⟩, ⟨#[97, 110, 110]⟩, ⟨#[122, 111, 101]⟩] _ _ _ (HS.out.keep (by go_grown)) (by omega) (by omega) (new_at (by simp)) (by simp) (by simp) (le_all (by decide +kernel))).mono ?_
    rintro e w6 ⟨u, hu, rfl, ho, hs⟩
    replace OW := Lib.hid (row_only (OW.out.alloc _) ho (by omega))
    have hz6 : w2.heap.size + 1 ≤ w6.heap.size := by have := ho.size; simp at this; omega
    replace R := Lib.hid ((R.out.alloc _).only ho (by omega))
    replace G := Lib.hid ((G.out.alloc _).trans (Gr.only ho))
    replace C := Lib.hid ((C.out.alloc _).only ho (by omega))
    replace HS := Lib.hid hs
    have hB6 := hs.lt
    have hX6 := C.out.lt
    have hR6 := R.out.lt
    clear ho hs
    obtain ⟨i0, hi0, hz0, hz1', hz2⟩ := info_parts infoS
    have HI := Lib.hid hi0
    have Z0 := Lib.hid hz0
    have Z1 := Lib.hid hz1'
    have Z2 := Lib.hid hz2
    clear hi0 hz0 hz1' hz2
    go_wp2_with (at_builtin; (refine wpList_append_lies _ rfl _ _ _ rfl w1.heap.size 9 i0 _ 1 16 Tryz.underlying52 HI.out Z0.out Z1.out Z2.out rfl (by omega) (.slice A2 au.length c2) au.length (au.map Value.string) rfl (OW.out.alloc _) ⟨w6.heap.size, 0, none⟩ 1 1 [.string u] rfl rfl (World.news_of_block (cs := #[.string u]) (t := 9) (fr := (0, 0)) (heap_alloc_new w6 _)) (by simp [Value.oneCell']) (by omega) (by unfold maxLen; omega) (by omega) (by simp; omega) (w6.heap.size + 1) (by simp) ?_); intro gg cap' w7 hown hgrow hat hgl; (have O2 := Lib.hid (show w7.ownsRow w1.heap.size 9 1 _ (au.length + 1) ((au ++ [u]).map Value.string) by rw [List.map_append]; exact hown)); (have HGR := Lib.hid hgrow); (replace G := Lib.hid (row_gr (G.out.alloc (.cells #[.string u] 9)) hgrow (fun g e => by have := (OW.out.lt g e).1; omega))); (have HB7 := Lib.hid (((Below.refl w1.heap.size _).alloc (by omega) (.cells #[.string u] 9)).trans (grown_below hgrow (fun g e => (OW.out.lt g e).1) (by simp; omega)))); (replace HS := Lib.hid (HS.out.keep (HB7.out.mono (by omega)))); (replace C := Lib.hid (C.out.below HB7.out (by omega))); (replace R := Lib.hid (R.out.below HB7.out (by omega))); (have hgg : w1.heap.size ≤ gg := (O2.out.lt gg rfl).1); (have hgg2 : gg < w7.heap.size := (O2.out.lt gg rfl).2); (have hcap : au.length + 1 ≤ cap' := row_cap O2.out); (have hX7 := C.out.lt); (have hR7 := R.out.lt); (have x0 := C.out.cell 0 _ rfl); (have x1 := C.out.cell 1 _ rfl); (have x2 := C.out.cell 2 _ rfl); (have x3 := C.out.cell 3 _ rfl); (have x4 := C.out.cell 4 _ rfl); (have y := C.out.frozen 3); (have r0 := R.out.cell 0 _ rfl); (have r1 := R.out.cell 1 _ rfl); (have r2 := R.out.cell 2 _ rfl); (have r3 := R.out.cell 3 _ rfl); (have r4 := R.out.cell 4 _ rfl); (have f0 := R.out.frozen 0); (have f1 := R.out.frozen 1); (have f2 := R.out.frozen 2); (have f3 := R.out.frozen 3); (have f4 := R.out.frozen 4); clear hown hgrow hat)
    have hle : ∀ y ∈ au ++ [u], y.size ≤ 1000 := fun y hy => by rcases List.mem_append.1 hy with h | h; exact HSA.out.1 y h; (simp at h; subst h; exact hu)
    have HN := Lib.hid (row_sl O2.out (by simp) hle)
    refine bodyPost_ret (v := .agg #[.string p, .string t, .string ti, .slice (some ⟨gg, 0, none⟩) (au.length + 1) cap', .slice Bt tp.length cb]) (by simp only [results, Tryz.results27]; go_simp) rfl ?_
    have GF := grset5 (G.out.setCell (p := ⟨w.heap.size, 3, none⟩) (Nat.le_refl _) (.slice (some ⟨gg, 0, none⟩) (au.length + 1) cap')) (w.heap.size + 1) (.string p) (.string t) (.string ti) (.slice (some ⟨gg, 0, none⟩) (au.length + 1) cap') (.slice Bt tp.length cb) (Nat.le_succ _)
    refine ⟨⟨p, t, ti, some ⟨gg, 0, none⟩, Bt, cap', cb, au ++ [u], tp⟩, by unfold Pap.cells; simp, papn_mk (by omega) (by omega) (by omega) (by omega) (by simp; omega) (by omega) (by simp; omega) (by omega) (slset5 (HN.out.far (p := ⟨w.heap.size, 3, none⟩) (Or.inr ⟨gg, rfl, by simp; omega⟩) _) _ _ _ _ _ _ (Or.inr ⟨gg, rfl, by omega⟩)) (HSB.out.gr HAT2.out GF) (Or.inr ⟨gg, rfl, by omega⟩) HAT2.out, GF, (HS.out.keep (((Below.refl _ _).setCell (p := ⟨w.heap.size, 3, none⟩) hB _).trans (bset5 _ _ _ _ _ _ _ (Nat.le_trans hB (Nat.le_succ _))))).mono (by omega), fun C hC h1 h2 => ⟨Or.inr ⟨gg, rfl, by rcases hC with h | h; omega; (simp at h; omega)⟩, h2⟩⟩
  · have x0 := C.out.cell 0 _ rfl
    have x1 := C.out.cell 1 _ rfl
    have x2 := C.out.cell 2 _ rfl
    have x3 := C.out.cell 3 _ rfl
    have x4 := C.out.cell 4 _ rfl
    have y := C.out.frozen 3
    have r0 := R.out.cell 0 _ rfl
    have r1 := R.out.cell 1 _ rfl
    have r2 := R.out.cell 2 _ rfl
    have r3 := R.out.cell 3 _ rfl
    have r4 := R.out.cell 4 _ rfl
    have f0 := R.out.frozen 0
    have f1 := R.out.frozen 1
    have f2 := R.out.frozen 2
    have f3 := R.out.frozen 3
    have f4 := R.out.frozen 4
    go_wp2_with fail
    refine bodyPost_ret (v := .agg #[.string p, .string t, .string ti, .slice none 0 0, .slice Bt tp.length cb]) (by simp only [results, Tryz.results27]; go_simp) rfl ?_
    have GF := grset5 (G.out.setCell (p := ⟨w.heap.size, 3, none⟩) (Nat.le_refl _) (.slice none 0 0)) (w.heap.size + 1) (.string p) (.string t) (.string ti) (.slice none 0 0) (.slice Bt tp.length cb) (Nat.le_succ _)
    refine ⟨⟨p, t, ti, none, Bt, 0, cb, [], tp⟩, rfl, papn_mk (by omega) (by omega) (by omega) (by omega) (by simp) (by omega) (by simp) (by omega) (SL.nil _ _) (HSB.out.gr HAT2.out GF) (Or.inl ⟨rfl, rfl⟩) HAT2.out, GF, (HS.out.keep (((Below.refl _ _).setCell (p := ⟨w.heap.size, 3, none⟩) hB _).trans (bset5 _ _ _ _ _ _ _ (Nat.le_trans hB (Nat.le_succ _))))).mono (by omega), fun C hC h1 h2 => ⟨Or.inl ⟨rfl, rfl⟩, h2⟩⟩
  · have x4 := C.out.cell 4 _ rfl
    go_wp2_with fail
    refine (clone_any Bt tp.length cb tp _ (HSB.out.gr HAT2.out G.out) rfl (by omega) ?_).mono ?_
    · rcases HAT2.out with h | ⟨g, h, _⟩
      · exact Or.inl h
      · exact Or.inr ⟨g, h⟩
    rintro e w2 ⟨A2, c2, rfl, hA2, hown, hb⟩
    have OW := Lib.hid hown
    have hbase := hb.size
    clear hA2 hown x4
    replace R := Lib.hid (R.out.below hb hR)
    replace C := Lib.hid (C.out.below hb hX)
    replace G := Lib.hid (G.out.trans (Gr.below hb))
    replace HS := Lib.hid (HS.out.keep (hb.mono hB1))
    have hB1 := HS.out.lt
    have hX := C.out.lt
    have hR := R.out.lt
    clear hb
    go_wp2_with fail
    refine (h06_le 1000 B (k + 1) _ _ [⟨#[]⟩, ⟨#[97, 114, 116]⟩, ⟨#[122, 101, 98, 114, 97]⟩] _ _ _ (HS.out.keep (by go_grown)) (by omega) (by omega) (new_at (by simp)) (by simp) (by simp) (le_all (by decide +kernel))).mono ?_
    rintro e w6 ⟨u, hu, rfl, ho, hs⟩
    replace OW := Lib.hid (row_only (OW.out.alloc _) ho (by omega))
    have hz6 : w2.heap.size + 1 ≤ w6.heap.size := by have := ho.size; simp at this; omega
    replace R := Lib.hid ((R.out.alloc _).only ho (by omega))
    replace G := Lib.hid ((G.out.alloc _).trans (Gr.only ho))
    replace C := Lib.hid ((C.out.alloc _).only ho (by omega))
    replace HS := Lib.hid hs
    have hB6 := hs.lt
    have hX6 := C.out.lt
    have hR6 := R.out.lt
    clear ho hs
    obtain ⟨i0, hi0, hz0, hz1', hz2⟩ := info_parts infoS
    have HI := Lib.hid hi0
    have Z0 := Lib.hid hz0
    have Z1 := Lib.hid hz1'
    have Z2 := Lib.hid hz2
    clear hi0 hz0 hz1' hz2
    go_wp2_with (at_builtin; (refine wpList_append_lies _ rfl _ _ _ rfl w1.heap.size 9 i0 _ 1 16 Tryz.underlying52 HI.out Z0.out Z1.out Z2.out rfl (by omega) (.slice A2 tp.length c2) tp.length (tp.map Value.string) rfl (OW.out.alloc _) ⟨w6.heap.size, 0, none⟩ 1 1 [.string u] rfl rfl (World.news_of_block (cs := #[.string u]) (t := 9) (fr := (0, 0)) (heap_alloc_new w6 _)) (by simp [Value.oneCell']) (by omega) (by unfold maxLen; omega) (by omega) (by simp; omega) (w6.heap.size + 1) (by simp) ?_); intro gg cap' w7 hown hgrow hat hgl; (have O2 := Lib.hid (show w7.ownsRow w1.heap.size 9 1 _ (tp.length + 1) ((tp ++ [u]).map Value.string) by rw [List.map_append]; exact hown)); (have HGR := Lib.hid hgrow); (replace G := Lib.hid (row_gr (G.out.alloc (.cells #[.string u] 9)) hgrow (fun g e => by have := (OW.out.lt g e).1; omega))); (have HB7 := Lib.hid (((Below.refl w1.heap.size _).alloc (by omega) (.cells #[.string u] 9)).trans (grown_below hgrow (fun g e => (OW.out.lt g e).1) (by simp; omega)))); (replace HS := Lib.hid (HS.out.keep (HB7.out.mono (by omega)))); (replace C := Lib.hid (C.out.below HB7.out (by omega))); (replace R := Lib.hid (R.out.below HB7.out (by omega))); (have hgg : w1.heap.size ≤ gg := (O2.out.lt gg rfl).1); (have hgg2 : gg < w7.heap.size := (O2.out.lt gg rfl).2); (have hcap : tp.length + 1 ≤ cap' := row_cap O2.out); (have hX7 := C.out.lt); (have hR7 := R.out.lt); (have x0 := C.out.cell 0 _ rfl); (have x1 := C.out.cell 1 _ rfl); (have x2 := C.out.cell 2 _ rfl); (have x3 := C.out.cell 3 _ rfl); (have x4 := C.out.cell 4 _ rfl); (have y := C.out.frozen 4); (have r0 := R.out.cell 0 _ rfl); (have r1 := R.out.cell 1 _ rfl); (have r2 := R.out.cell 2 _ rfl); (have r3 := R.out.cell 3 _ rfl); (have r4 := R.out.cell 4 _ rfl); (have f0 := R.out.frozen 0); (have f1 := R.out.frozen 1); (have f2 := R.out.frozen 2); (have f3 := R.out.frozen 3); (have f4 := R.out.frozen 4); clear hown hgrow hat)
    have hle : ∀ y ∈ tp ++ [u], y.size ≤ 1000 := fun y hy => by rcases List.mem_append.1 hy with h | h; exact HSB.out.1 y h; (simp at h; subst h; exact hu)
    have HN := Lib.hid (row_sl O2.out (by simp) hle)
    refine bodyPost_ret (v := .agg #[.string p, .string t, .string ti, .slice A au.length ca, .slice (some ⟨gg, 0, none⟩) (tp.length + 1) cap']) (by simp only [results, Tryz.results27]; go_simp) rfl ?_
    have GF := grset5 (G.out.setCell (p := ⟨w.heap.size, 4, none⟩) (Nat.le_refl _) (.slice (some ⟨gg, 0, none⟩) (tp.length + 1) cap')) (w.heap.size + 1) (.string p) (.string t) (.string ti) (.slice A au.length ca) (.slice (some ⟨gg, 0, none⟩) (tp.length + 1) cap') (Nat.le_succ _)
    refine ⟨⟨p, t, ti, A, some ⟨gg, 0, none⟩, ca, cap', au, tp ++ [u]⟩, by unfold Pap.cells; simp, papn_mk (by omega) (by omega) (by omega) (by omega) (by omega) (by simp; omega) (by omega) (by simp; omega) (HSA.out.gr HAT1.out GF) (slset5 (HN.out.far (p := ⟨w.heap.size, 4, none⟩) (Or.inr ⟨gg, rfl, by simp; omega⟩) _) _ _ _ _ _ _ (Or.inr ⟨gg, rfl, by omega⟩)) HAT1.out (Or.inr ⟨gg, rfl, by omega⟩), GF, (HS.out.keep (((Below.refl _ _).setCell (p := ⟨w.heap.size, 4, none⟩) hB _).trans (bset5 _ _ _ _ _ _ _ (Nat.le_trans hB (Nat.le_succ _))))).mono (by omega), fun C hC h1 h2 => ⟨h1, Or.inr ⟨gg, rfl, by rcases hC with h | h; omega; (simp at h; omega)⟩⟩⟩
end Go.Proofs.YtjlbohbkhfhkpaaGreatDoor.Stm
