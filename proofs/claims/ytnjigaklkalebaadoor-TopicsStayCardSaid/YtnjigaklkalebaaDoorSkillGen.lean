/-
  THE CONTRACT OF THE MAKER Skills; lists of skills in memory.
-/
import Derived.Test.YtnjigaklkalebaaDoorForGen3
namespace Go.Proofs.YtnjigaklkalebaaDoor.For
open Go.ChangeShapes Go.WideShapes Go.ChangeAt Go.RowKit Stm Key
set_option linter.unusedVariables false

/-- A skill. -/
structure Sk where
  t : ByteArray
  n : Int
def flatS (l : List Sk) : List Value := l.flatMap fun x => [.string x.t, .int .i64 x.n]
theorem flatS_snoc (l : List Sk) (x : Sk) : flatS (l ++ [x]) = flatS l ++ [.string x.t, .int .i64 x.n] := by simp [flatS]
theorem flatS_get : ∀ (l : List Sk) (i : Nat) (h : i < l.length), (flatS l)[i * 2]? = some (.string l[i].t) ∧ (flatS l)[i * 2 + 1]? = some (.int .i64 l[i].n)
  | [], i, h => by simp at h
  | x :: t, 0, _ => ⟨rfl, rfl⟩
  | x :: t, i + 1, h => by
    have := flatS_get t i (by simpa using h)
    have e1 : (i + 1) * 2 = i * 2 + 1 + 1 := by omega
    rw [e1]
    simpa [flatS] using this
/-- A list of skills in memory. -/
def KL (w : World) (A : Option Addr) (l : List Sk) : Prop := (∀ x ∈ l, x.t.size ≤ 1000 ∧ 0 ≤ x.n ∧ x.n ≤ 101) ∧
  (0 < l.length → ∃ b, A = some ⟨b, 0, none⟩ ∧ b < w.heap.size ∧ ∀ (i : Nat) (h : i < l.length), w.cell? ⟨b, i * 2, none⟩ = some (.string l[i].t) ∧ w.cell? ⟨b, i * 2 + 1, none⟩ = some (.int .i64 l[i].n))
theorem KL.below {w w' : World} {A : Option Addr} {l : List Sk} (h : KL w A l) (hb : Below w.heap.size w w') : KL w' A l :=
  ⟨h.1, fun h0 => by
    obtain ⟨b, hA, hlt, hc⟩ := h.2 h0
    exact ⟨b, hA, Nat.lt_of_lt_of_le hlt hb.size, fun i hi => ⟨(hb.cell (p := ⟨b, i * 2, none⟩) hlt).trans (hc i hi).1, (hb.cell (p := ⟨b, i * 2 + 1, none⟩) hlt).trans (hc i hi).2⟩⟩⟩
theorem KL.gr {w w' : World} {A : Option Addr} {l : List Sk} {B : Nat} (h : KL w A l) (ha : AtT B A l.length) (g : Gr B w w') : KL w' A l :=
  ⟨h.1, fun h0 => by
    obtain ⟨b, hA, hlt, hc⟩ := h.2 h0
    have hb : b ≠ B := by
      rcases ha with ⟨_, e⟩ | ⟨g, e, hg⟩
      · omega
      · rw [e] at hA; injection hA with hA; injection hA with h1; omega
    exact ⟨b, hA, Nat.lt_of_lt_of_le hlt g.size, fun i hi => ⟨(g.cell b _ hlt hb).trans (hc i hi).1, (g.cell b _ hlt hb).trans (hc i hi).2⟩⟩⟩
theorem row_kl {w : World} {base n cap : Nat} {A : Option Addr} {l : List Sk} (h : w.ownsRow base 36 2 (.slice A n cap) n (flatS l)) (L : l.length = n) (hsz : ∀ x ∈ l, x.t.size ≤ 1000 ∧ 0 ≤ x.n ∧ x.n ≤ 101) : KL w A l := by
  refine ⟨hsz, fun h0 => ?_⟩
  obtain ⟨g, cap', hv, _, hlt⟩ := h.form (by omega)
  have hA : A = some ⟨g, 0, none⟩ := by injection hv
  subst hA
  refine ⟨g, rfl, hlt, fun i hi => ?_⟩
  have hc := h.cells (g := g) rfl
  have e1 := hc (i * 2) _ (flatS_get l i hi).1
  have e2 := hc (i * 2 + 1) _ (flatS_get l i hi).2
  rw [row_add] at e1 e2
  exact ⟨e1, e2⟩
theorem infoK : (Tryd.prog.info? 36).map (fun i => (i.zero, i.size, i.bytes)) = some (some (.agg #[.string ⟨#[]⟩, .int .i64 0]), 2, 24) := by kernel_rfl
theorem snocS {l : List Sk} {x : Sk} (h : ∀ x ∈ l, x.t.size ≤ 1000 ∧ 0 ≤ x.n ∧ x.n ≤ 101) (h1 : x.t.size ≤ 1000) (h2 : 0 ≤ x.n ∧ x.n ≤ 101) : ∀ y ∈ l ++ [x], y.t.size ≤ 1000 ∧ 0 ≤ y.n ∧ y.n ≤ 101 := fun y hy => by
  rcases List.mem_append.1 hy with h3 | h3
  · exact h y h3
  · simp at h3; subst h3; exact ⟨h1, h2⟩
def kn4 : List ByteArray := [⟨#[97, 114, 116]⟩, ⟨#[98, 114, 101, 97, 100]⟩, ⟨#[99, 97, 107, 101]⟩, ⟨#[114, 121, 101]⟩]
theorem kn4_le : ∀ s ∈ kn4, s.size ≤ 1000 := le_all (by decide)
theorem w6_le {r : Int} (h : r ∈ ([1, 33, 50, 99, 100, 100] : List Int)) : 0 ≤ r ∧ r ≤ 101 := by
  simp at h; omega
theorem w3_le {r : Int} (h : r ∈ ([0, 5, 101] : List Int)) : 0 ≤ r ∧ r ≤ 101 := by
  simp at h; omega
/-- What the maker of skills hands back. -/
def SGRet (B k : Nat) (w : World) (e : Ending) (w' : World) : Prop := ∃ (A : Option Addr) (n c : Nat) (l : List Sk), e = .returned (.slice A n c) ∧ l.length = n ∧ n ≤ 5 ∧ n ≤ c ∧ KL w' A l ∧ AtT B A n ∧ Gr B w w' ∧ Strm w' B (k + 12)

set_option maxRecDepth 100000 in
set_option maxHeartbeats 8000000 in
theorem skills_any (B k : Nat) (w : World) (hs : Strm w B k) (hk : k ≤ 800000) :
    Calls Tryd.prog 5 #[.pointer (some ⟨B, 0, none⟩)] w (SGRet B k w) := by
  have hB := hs.lt
  have HK := Lib.hid (Blk.new w 9 (kn4.map Value.string).toArray)
  have G0 := Lib.hid (Gr.refl B (w.alloc (.cells (kn4.map Value.string).toArray 9)))
  have S0 := Lib.hid (hs.keep (show Below (B + 1) w (w.alloc (.cells (kn4.map Value.string).toArray 9)) by go_grown))
  have GW := Lib.hid (show ∀ W, Gr B (w.alloc (.cells (kn4.map Value.string).toArray 9)) W → Gr B w W from fun W hW => ((Gr.refl B w).alloc _).trans hW)
  have hKB : w.heap.size ≠ B := by omega
  clear hs
  obtain ⟨i0, hi0, hz0, hz1', hz2⟩ := info_parts infoK
  have HI := Lib.hid hi0
  have Z0 := Lib.hid hz0
  have Z1 := Lib.hid hz1'
  have Z2 := Lib.hid hz2
  clear hi0 hz0 hz1' hz2
  go_enter Tryd.func5, Tryd.ntmps5
  go_wp2_with fail
  go_loopw [3, 8] (fun out i wr => ∃ (j : Nat) (A : Option Addr) (m c : Nat) (l : List Sk), j ≤ 4 ∧ i = .int .i64 j ∧ out = .slice A m c ∧ l.length = m ∧ m ≤ j ∧ Hid (∀ x ∈ l, x.t.size ≤ 1000 ∧ 0 ≤ x.n ∧ x.n ≤ 101) ∧
    Hid (wr.ownsRow (w.heap.size + 1) 36 2 (.slice A m c) m (flatS l)) ∧ Hid (Gr B (w.alloc (.cells (kn4.map Value.string).toArray 9)) wr) ∧ Hid (Strm wr B (k + 2 * j))) (fun _ i _ => 4 - (intOf i).toNat)
  case atStart => exact ⟨0, none, 0, 0, [], Nat.zero_le _, rfl, rfl, rfl, Nat.le_refl _, Lib.hid (by simp), Lib.hid (World.ownsRow_nil _ _ _ _), G0, S0⟩
  case round =>
    obtain ⟨j, A, m, c, l, hj, rfl, rfl, hl, hmj, HX, HO, HG, HST⟩ := hrel
    have HL := Lib.hid hl
    have hz := HG.out.size
    have hzz : w.heap.size + 1 ≤ wr.heap.size := by simpa using hz
    have hBr := HST.out.lt
    clear G0 S0 hl hz
    by_cases hlt : j < 4
    · have hjl : j < kn4.length := hlt
      have KR := (HG.out.block w.heap.size (by simp) (by simpa using hKB)).trans HK.out
      have c1 : wr.cell? ⟨w.heap.size, j, none⟩ = some (.string kn4[j]) := Blk.cell (t := 9) (cs := (kn4.map Value.string).toArray) KR j _ (by simp [List.getElem?_eq_getElem hjl])
      have hxs := kn4_le kn4[j] (List.getElem_mem hjl)
      generalize kn4[j] = x at *
      have hd : (j : Int) < 4 := by omega
      have HLT := Lib.hid hlt
      clear hj hlt hjl KR
      go_wp2_with fail
      refine (flip_any B (k + 2 * j) 3 wr HST.out (by have := HLT.out; omega) (by omega) (by omega)).mono ?_; rintro e w1 ⟨r, rfl, ho, hs⟩
      have O1 := Lib.hid (row_only HO.out ho (by omega))
      have G1 := Lib.hid (HG.out.trans (Gr.only ho))
      have S1 := Lib.hid hs
      have hB1 := hs.lt
      have z1 : w.heap.size + 1 ≤ w1.heap.size := by have := ho.size; omega
      clear ho hs c1 HO HG HST
      cases r
      · go_wp2_with fail
        go_roundw
        case rel => exact ⟨j + 1, A, m, c, l, by have := HLT.out; omega, by go_num, rfl, HL.out, by omega, HX, O1, G1, Lib.hid (S1.out.mono (by omega))⟩
        case measure => simp [intOf]; omega
      · go_wp2_with fail
        refine (pick_any B (k + 2 * j + 1) _ _ [1, 33, 50, 99, 100, 100] _ _ _ (S1.out.keep (by go_grown)) (by have := HLT.out; omega) (by omega) (new_at rfl) (by simp) (by simp)).mono ?_
        rintro e w2 ⟨u, hu, rfl, ho, hs⟩
        have HU := Lib.hid (w6_le hu)
        have Q2 := Lib.hid (((Gr.refl B w1).alloc (.cells #[.int .i64 1, .int .i64 33, .int .i64 50, .int .i64 99, .int .i64 100, .int .i64 100] 3)).trans (Gr.only ho))
        have G2 := Lib.hid (G1.out.trans Q2.out)
        have O2 := Lib.hid (row_gr2 O1.out Q2.out (by omega))
        have S2 := Lib.hid hs
        have hB2 := hs.lt
        have z2 : w.heap.size + 1 ≤ w2.heap.size := by have := Q2.out.size; omega
        have hm4 : m < 4 := by have := HLT.out; omega
        clear ho hs hu O1 G1 S1 Q2
        go_wp2_with (at_builtin; go_loud (refine wpList_append_lies _ rfl _ _ _ rfl (w.heap.size + 1) 36 i0 _ 2 24 Tryd.underlying28 HI.out Z0.out Z1.out Z2.out rfl (by omega) (.slice A m c) m (flatS l) rfl (O2.out.alloc _) ⟨w2.heap.size, 0, none⟩ 1 1 [.string x, .int .i64 u] rfl rfl (World.news_of_block (cs := #[.string x, .int .i64 u]) (t := 36) (fr := (0, 0)) (heap_alloc_new w2 _)) (by simp [Value.oneCell']) (by omega) (by unfold maxLen; omega) (by omega) (by simp; omega) (w2.heap.size + 1) (by simp) ?_; intro gg cap' w7 hown hgrow hat hgl; (have O7 := Lib.hid (show w7.ownsRow (w.heap.size + 1) 36 2 _ (m + 1) (flatS (l ++ [(⟨x, u⟩ : Sk)])) by rw [flatS_snoc]; exact hown)); (have G7 := Lib.hid (row_gr (G2.out.alloc (.cells #[.string x, .int .i64 u] 36)) hgrow (fun g e => by have := (O2.out.lt g e).1; simp; omega))); (have S7 := Lib.hid (S2.out.keep (((Below.refl _ _).alloc (by omega) (.cells #[.string x, .int .i64 u] 36)).trans (grown_below hgrow (fun g e => by have := (O2.out.lt g e).1; omega) (by simp; omega))))); clear hown hgrow hat))
        go_roundw
        case rel => exact ⟨j + 1, some ⟨gg, 0, none⟩, m + 1, cap', l ++ [⟨x, u⟩], by have := HLT.out; omega, by go_num, rfl, by simp [HL.out], by omega, Lib.hid (snocS HX.out hxs HU.out), O7, G7, Lib.hid (S7.out.mono (by omega))⟩
        case measure => simp [intOf]; omega
    · have hj4 : j = 4 := by omega
      subst hj4
      go_wp2_with fail
      refine (flip_any B (k + 2 * 4) 15 wr HST.out (by omega) (by omega) (by omega)).mono ?_; rintro e w1 ⟨r, rfl, ho, hs⟩
      have O1 := Lib.hid (row_only HO.out ho (by omega))
      have G1 := Lib.hid (HG.out.trans (Gr.only ho))
      have S1 := Lib.hid hs
      have hB1 := hs.lt
      have z1 : w.heap.size + 1 ≤ w1.heap.size := by have := ho.size; omega
      clear ho hs HO HG HST
      cases r
      · have FIN := Lib.hid (show SGRet B k w (.returned (.slice A m c)) w1 from ⟨A, m, c, l, rfl, HL.out, by omega, row_cap O1.out, row_kl O1.out HL.out HX.out, row_at O1.out (by omega), GW.out _ G1.out, S1.out.mono (by omega)⟩)
        go_wp2_with fail
        go_ret
        exact FIN.out
      · go_wp2_with fail
        refine (h06_le 1000 B (k + 2 * 4 + 1) _ _ [⟨#[97, 114, 116]⟩, ⟨#[122, 101, 98, 114, 97]⟩, ⟨#[]⟩] _ _ _ (S1.out.keep (by go_grown)) (by omega) (by omega) (new_at rfl) (by simp) (by simp) (le_all (by decide +kernel))).mono ?_
        rintro e w2 ⟨x, hxs, rfl, ho, hs⟩
        have Q2 := Lib.hid (((Gr.refl B w1).alloc (.cells #[.string ⟨#[97, 114, 116]⟩, .string ⟨#[122, 101, 98, 114, 97]⟩, .string ⟨#[]⟩] 9)).trans (Gr.only ho))
        have S2 := Lib.hid hs
        have hB2 := hs.lt
        clear ho hs S1
        go_wp2_with fail
        refine (pick_any B (k + 2 * 4 + 1 + 1) _ _ [0, 5, 101] _ _ _ (S2.out.keep (by go_grown)) (by omega) (by omega) (new_at rfl) (by simp) (by simp)).mono ?_
        rintro e w3 ⟨u, hu, rfl, ho, hs⟩
        have HU := Lib.hid (w3_le hu)
        have Q3 := Lib.hid (Q2.out.trans (((Gr.refl B w2).alloc (.cells #[.int .i64 0, .int .i64 5, .int .i64 101] 3)).trans (Gr.only ho)))
        have G3 := Lib.hid (G1.out.trans Q3.out)
        have O3 := Lib.hid (row_gr2 O1.out Q3.out (by omega))
        have S3 := Lib.hid hs
        have hB3 := hs.lt
        have z3 : w.heap.size + 1 ≤ w3.heap.size := by have := Q3.out.size; omega
        clear ho hs hu O1 G1 S2 Q2 Q3
        go_wp2_with (at_builtin; go_loud (refine wpList_append_lies _ rfl _ _ _ rfl (w.heap.size + 1) 36 i0 _ 2 24 Tryd.underlying28 HI.out Z0.out Z1.out Z2.out rfl (by omega) (.slice A m c) m (flatS l) rfl (O3.out.alloc _) ⟨w3.heap.size, 0, none⟩ 1 1 [.string x, .int .i64 u] rfl rfl (World.news_of_block (cs := #[.string x, .int .i64 u]) (t := 36) (fr := (0, 0)) (heap_alloc_new w3 _)) (by simp [Value.oneCell']) (by omega) (by unfold maxLen; omega) (by omega) (by simp; omega) (w3.heap.size + 1) (by simp) ?_; intro gg cap' w7 hown hgrow hat hgl; (have O7 := Lib.hid (show w7.ownsRow (w.heap.size + 1) 36 2 _ (m + 1) (flatS (l ++ [(⟨x, u⟩ : Sk)])) by rw [flatS_snoc]; exact hown)); (have G7 := Lib.hid (row_gr (G3.out.alloc (.cells #[.string x, .int .i64 u] 36)) hgrow (fun g e => by have := (O3.out.lt g e).1; simp; omega))); (have S7 := Lib.hid (S3.out.keep (((Below.refl _ _).alloc (by omega) (.cells #[.string x, .int .i64 u] 36)).trans (grown_below hgrow (fun g e => by have := (O3.out.lt g e).1; omega) (by simp; omega))))); clear hown hgrow hat))
        have FIN := Lib.hid (show SGRet B k w (.returned (.slice (some ⟨gg, 0, none⟩) (m + 1 : Nat) cap')) w7 from ⟨_, m + 1, cap', l ++ [⟨x, u⟩], rfl, by simp [HL.out], by omega, row_cap O7.out, row_kl O7.out (by simp [HL.out]) (snocS HX.out hxs HU.out), row_at O7.out (by omega), GW.out _ G7.out, S7.out.mono (by omega)⟩)
        go_wp2_with fail
        go_ret
        exact FIN.out
end Go.Proofs.YtnjigaklkalebaaDoor.For
