/-
  THE LAW PapersCompared.
-/
import Derived.Test.YtmihbfmlnfhgcadGreatDoorMarks10
import Derived.Test.YtmihbfmlnfhgcadGreatDoorLaw
import Derived.Test.YtmihbfmlnfhgcadGreatDoorDecR
import Derived.Test.YtmihbfmlnfhgcadGreatDoorOrdD
import Derived.Test.YtmihbfmlnfhgcadGreatDoorOrdR
import Derived.Test.YtmihbfmlnfhgcadGreatDoorDisF
import Derived.Test.YtmihbfmlnfhgcadGreatDoorDisT
import Derived.Deep.RegionLaw
import Derived.Deep.CutBlock
import Derived.Deep.DeepCutAuto
namespace Go.Proofs.YtmihbfmlnfhgcadGreatDoor.Cal
open Go.Shelf
open Go.ChangeShapes Go.WideShapes Go.ChangeAt Go.RowKit Stm Key
set_option linter.unusedVariables false

set_option maxRecDepth 100000 in
theorem key_any (B k cb : Nat) (w : World) (hS : Strm w B k) (hk : k ≤ 1000000) (hc : w.cell? ⟨cb, 0, none⟩ = some (.pointer (some ⟨B, 0, none⟩))) (hcl : cb < w.heap.size) :
    Calls Tryz.prog 6 #[.pointer (some ⟨cb, 0, none⟩)] w fun e w' => ∃ s : ByteArray, s.size ≤ 1000 ∧ e = .returned (.string s) ∧ Gr B w w' ∧ Strm w' B (k + 1) := by
  have hB := hS.lt
  have HS := Lib.hid hS
  clear hS
  go_enter Tryz.func6, Tryz.ntmps6
  go_wp2_with fail
  refine (pick_any B k _ _ [0, 0, 1, 1, 2, 3, 4, 5] _ _ _ (HS.out.keep (by go_grown)) (by omega) (by simp; omega) (new_at (by simp)) (by simp) (by simp)).mono ?_
  rintro e w2 ⟨r, hr, rfl, ho, hs⟩
  obtain ⟨r, rfl⟩ : ∃ z : Nat, r = z := ⟨r.toNat, by simp only [List.mem_cons, List.mem_nil_iff, or_false] at hr; omega⟩
  have hr6 : r < 6 := by simp only [List.mem_cons, List.mem_nil_iff, or_false] at hr; omega
  have r0 : (0 : Int) ≤ (r : Int) := by omega
  have r1 : (r : Int) < 6 := by omega
  have K := ((Blk.new w 9 #[.string ⟨#[112, 97]⟩, .string ⟨#[112, 98]⟩, .string ⟨#[112, 99]⟩, .string ⟨#[112, 100]⟩, .string ⟨#[112, 122]⟩, .string ⟨#[65]⟩]).alloc (.cells #[.int .i64 0, .int .i64 0, .int .i64 1, .int .i64 1, .int .i64 2, .int .i64 3, .int .i64 4, .int .i64 5] 3)).only ho (show w.heap.size ≠ B by omega)
  have Q := Lib.hid ((((Gr.refl B w).alloc (.cells #[.string ⟨#[112, 97]⟩, .string ⟨#[112, 98]⟩, .string ⟨#[112, 99]⟩, .string ⟨#[112, 100]⟩, .string ⟨#[112, 122]⟩, .string ⟨#[65]⟩] 9)).alloc (.cells #[.int .i64 0, .int .i64 0, .int .i64 1, .int .i64 1, .int .i64 2, .int .i64 3, .int .i64 4, .int .i64 5] 3)).trans (Gr.only ho))
  have hkl := K.lt
  have x0 := ch_blk (zs := [⟨#[112, 97]⟩, ⟨#[112, 98]⟩, ⟨#[112, 99]⟩, ⟨#[112, 100]⟩, ⟨#[112, 122]⟩, ⟨#[65]⟩]) K r (by simpa using hr6)
  have hp : ([⟨#[112, 97]⟩, ⟨#[112, 98]⟩, ⟨#[112, 99]⟩, ⟨#[112, 100]⟩, ⟨#[112, 122]⟩, ⟨#[65]⟩] : List ByteArray)[r].size ≤ 1000 := le_all (m := 1000) (by decide +kernel) _ (List.getElem_mem _)
  generalize ([⟨#[112, 97]⟩, ⟨#[112, 98]⟩, ⟨#[112, 99]⟩, ⟨#[112, 100]⟩, ⟨#[112, 122]⟩, ⟨#[65]⟩] : List ByteArray)[r] = p at *
  have S2 := Lib.hid hs
  clear hr ho hs K
  go_wp2_with fail
  go_ret
  exact ⟨p, hp, rfl, Q.out, S2.out⟩
theorem il_gr {B : Nat} {w w' : World} {A : Option Addr} {l : List Int} (h : IL w A l) (ha : AtB B A l.length) (g : Gr B w w') : IL w' A l :=
  ⟨h.1, fun h0 => by
    obtain ⟨b, hA, hlt, hc⟩ := h.2 h0
    have hb : b ≠ B := by
      rcases ha with ⟨_, e⟩ | ⟨g, e, hg⟩
      · omega
      · rw [e] at hA; injection hA with hA; injection hA with h1; omega
    exact ⟨b, hA, Nat.lt_of_lt_of_le hlt g.size, fun i hi => (g.cell b _ hlt hb).trans (hc i hi)⟩⟩
/-- A store into the block of zero rules leaves lists of numbers and marks. -/
theorem il_rules {W : World} {A : Option Addr} {zs : List Int} {g : Nat} {v u : Value} (h : IL W A zs) (hb : Blk W g 27 #[.slice none 0 0, .int .i64 0]) : IL ((W.setCell ⟨g, 0, none⟩ v).setCell ⟨g, 1, none⟩ u) A zs :=
  ⟨h.1, fun h0 => by
    obtain ⟨b, e, hbl, hcl⟩ := h.2 h0
    have hne : b ≠ g := fun e2 => by
      subst e2
      have := hcl 0 h0
      rw [hb.cell 0 _ rfl] at this
      injection this with this; cases this
    have hg : Gr g W ((W.setCell ⟨g, 0, none⟩ v).setCell ⟨g, 1, none⟩ u) := Gr.only (((Only.refl g W).setCell 0 none v).setCell 1 none u)
    exact ⟨b, e, Nat.lt_of_lt_of_le hbl hg.size, fun i hi => (hg.cell b i hbl hne).trans (hcl i hi)⟩⟩
theorem ml_rules {W : World} {A : Option Addr} {l : List Mk} {g : Nat} {v u : Value} (h : ML W A l) (hb : Blk W g 27 #[.slice none 0 0, .int .i64 0]) : ML ((W.setCell ⟨g, 0, none⟩ v).setCell ⟨g, 1, none⟩ u) A l :=
  ⟨h.1, fun h0 => by
    obtain ⟨b, e, hbl, hcl⟩ := h.2 h0
    have hne : b ≠ g := fun e2 => by
      subst e2
      have := (hcl 0 h0).1
      rw [Nat.zero_mul, hb.cell 0 _ rfl] at this
      injection this with this; cases this
    have hg : Gr g W ((W.setCell ⟨g, 0, none⟩ v).setCell ⟨g, 1, none⟩ u) := Gr.only (((Only.refl g W).setCell 0 none v).setCell 1 none u)
    exact ⟨b, e, Nat.lt_of_lt_of_le hbl hg.size, fun i hi => ⟨(hg.cell b _ hbl hne).trans (hcl i hi).1, (hg.cell b _ hbl hne).trans (hcl i hi).2.1, (hg.cell b _ hbl hne).trans (hcl i hi).2.2⟩⟩⟩
/-- The rules and the marks that the law looks at. -/
def OCF (B : Nat) (wa : World) (A : Option Addr) (n c : Nat) (zs : List Int) (f : Int) (Am : Option Addr) (nm : Nat) (l : List Mk) (wx : World) : Prop :=
  zs.length = n ∧ n ≤ c ∧ c ≤ 3 ∧ IL wx A zs ∧ AtB B A n ∧ -1 ≤ f ∧ f ≤ 101 ∧ l.length = nm ∧ nm ≤ 256 ∧ ML wx Am l ∧ AtB B Am nm ∧ Gr B wa wx ∧ Strm wx B 85
def OCJ (B : Nat) (wa : World) (pr mv : Value) (wx : World) : Prop := ∃ (g : Nat) (A : Option Addr) (n c : Nat) (zs : List Int) (f : Int) (Am : Option Addr) (nm cm : Nat) (l : List Mk),
  pr = .pointer (some ⟨g, 0, none⟩) ∧ mv = .slice Am nm cm ∧ B < g ∧ Blk wx g 27 #[.slice A n c, .int .i64 f] ∧ OCF B wa A n c zs f Am nm l wx
theorem ocj_new {B n c nm cm : Nat} {wa w6 : World} {A Am : Option Addr} {zs : List Int} {f : Int} {l : List Mk} (h : OCF B wa A n c zs f Am nm l w6) : OCJ B wa (.pointer (some ⟨w6.heap.size, 0, none⟩)) (.slice Am nm cm) (w6.alloc (.cells #[.slice A n c, .int .i64 f] 27)) := by
  obtain ⟨h1, h2, h3, h4, h5, h6, h7, h8, h9, h10, h11, h12, h13⟩ := h
  have hb := (Below.refl w6.heap.size w6).alloc (Nat.le_refl _) (.cells #[.slice A n c, .int .i64 f] 27)
  exact ⟨w6.heap.size, A, n, c, zs, f, Am, nm, cm, l, rfl, rfl, h13.lt, Blk.new _ _ _, h1, h2, h3, h4.below hb, h5, h6, h7, h8, h9, h10.below hb, h11, h12.alloc _, h13.keep (hb.mono h13.lt)⟩
theorem ocj_set {B n c nm cm g : Nat} {wa w6 : World} {A Am : Option Addr} {zs : List Int} {f : Int} {l : List Mk} (h : OCF B wa A n c zs f Am nm l w6) (hg : B < g) (hga : wa.heap.size ≤ g) (hz : Blk w6 g 27 #[.slice none 0 0, .int .i64 0]) :
    OCJ B wa (.pointer (some ⟨g, 0, none⟩)) (.slice Am nm cm) ((w6.setCell ⟨g, 0, none⟩ (.slice A n c)).setCell ⟨g, 1, none⟩ (.int .i64 f)) := by
  obtain ⟨h1, h2, h3, h4, h5, h6, h7, h8, h9, h10, h11, h12, h13⟩ := h
  exact ⟨g, A, n, c, zs, f, Am, nm, cm, l, rfl, rfl, hg, (hz.set_ 0 _).set_ 1 _, h1, h2, h3, il_rules h4 hz, h5, h6, h7, h8, h9, ml_rules h10 hz, h11, (h12.setCell (p := ⟨g, 0, none⟩) hga _).setCell (p := ⟨g, 1, none⟩) hga _,
    h13.keep (((Below.refl (B + 1) w6).setCell (p := ⟨g, 0, none⟩) (show B + 1 ≤ g by omega) _).setCell (p := ⟨g, 1, none⟩) (show B + 1 ≤ g by omega) _)⟩
set_option maxRecDepth 100000 in
set_option maxHeartbeats 8000000 in
theorem law_paperscompared (a0 : Option Addr) (len0 cap0 : Nat) (z0 : List Int) (w : World) (w0 : IsRow .i64 w a0 len0 cap0 z0) :
    Calls Tryz.prog 3 #[.slice a0 len0 cap0] w fun e w' => e = .returned (.bool true) ∧ Below w.heap.size w w' := by
  have hx0 := (Below.refl w.heap.size w).alloc (Nat.le_refl _) (.cells #[.slice a0 len0 cap0, .int .i64 0] 25)
  have SA := Lib.hid (show Strm ((w.alloc (.cells #[.slice a0 len0 cap0, .int .i64 0] 25)).alloc (.cells #[.pointer (some ⟨w.heap.size, 0, none⟩)] 23)) w.heap.size 0 from (strm_new w0).keep ((Below.refl _ _).alloc (by simp) _))
  have G0 := Lib.hid (hx0.alloc hx0.size (.cells #[.pointer (some ⟨w.heap.size, 0, none⟩)] 23))
  have P0 : Hid (Blk ((w.alloc (.cells #[.slice a0 len0 cap0, .int .i64 0] 25)).alloc (.cells #[.pointer (some ⟨w.heap.size, 0, none⟩)] 23)) (w.heap.size + 1) 23 #[.pointer (some ⟨w.heap.size, 0, none⟩)]) := Lib.hid (by
    have h := Blk.new (w.alloc (.cells #[.slice a0 len0 cap0, .int .i64 0] 25)) 23 #[.pointer (some ⟨w.heap.size, 0, none⟩)]
    simpa using h)
  clear w0 hx0
  go_enter Tryz.func3, Tryz.ntmps3
  go_upto_region 2 with fail
  generalize hwa : (w.alloc (.cells #[.slice a0 len0 cap0, .int .i64 0] 25)).alloc (.cells #[.pointer (some ⟨w.heap.size, 0, none⟩)] 23) = wa at *
  clear hwa
  have x0 := P0.out.cell 0 _ rfl
  have x1 := P0.out.lt
  go_cut [4, 5] (fun pr mv wx => OCJ w.heap.size wa pr mv wx)
  case first =>
    have BA := Lib.hid (show Below wa.heap.size wa wa from Below.refl _ _)
    have HDR := Lib.hid (show ∀ W, Below wa.heap.size wa W → Calls Tryz.prog 4 #[.pointer (some ⟨w.heap.size, 0, none⟩)] W fun e w' => ∃ (A : Option Addr) (n c : Nat) (zs : List Int) (f : Int), e = .returned (.agg #[.slice A n c, .int .i64 f]) ∧ zs.length = n ∧ n ≤ c ∧ c ≤ 3 ∧ IL w' A zs ∧ AtB w.heap.size A n ∧ -1 ≤ f ∧ f ≤ 101 ∧ Gr w.heap.size wa w' ∧ Strm w' w.heap.size 25 ∧ ∀ g t cs, Blk W g t cs → g ≠ w.heap.size → Blk w' g t cs from fun W h =>
      (decrules_any w.heap.size 0 W (SA.out.keep (h.mono (by omega))) (by omega)).mono fun e w' ⟨A, n, c, zs, f, he, k1, k2, k3, k4, k5, k6, k7, k8, k9⟩ => ⟨A, n, c, zs, f, he, k1, k2, k3, k4, k5.imp id (fun ⟨g, e, hg⟩ => ⟨g, e, by have := h.size; omega⟩), k6, k7, (Gr.below h).trans k8, by simpa using k9, fun g t cs hb hne => gr_blk hb k8 hne⟩)
    have HMK := Lib.hid (show ∀ w5, Strm w5 w.heap.size 25 → Gr w.heap.size wa w5 → ∀ W, Below w5.heap.size w5 W → Calls Tryz.prog 5 #[.pointer (some ⟨w.heap.size, 0, none⟩)] W fun e w' => ∃ (Am : Option Addr) (nm cm : Nat) (l : List Mk), e = .returned (.slice Am nm cm) ∧ l.length = nm ∧ nm ≤ 256 ∧ ML w' Am l ∧ AtB w.heap.size Am nm ∧ Gr w.heap.size wa w' ∧ Gr w.heap.size w5 w' ∧ Strm w' w.heap.size 85 ∧ ∀ g t cs, Blk W g t cs → g ≠ w.heap.size → Blk w' g t cs from fun w5 hS5 hG5 W h =>
      (marks10_any w.heap.size 25 W (hS5.keep (h.mono (by have := hG5.size; omega))) (by omega)).mono fun e w' ⟨Am, nm, cm, l, he, k1, k2, k3, k4, k5, k6, k7⟩ => ⟨Am, nm, cm, l, he, k1, k2, k4, k5, hG5.trans ((Gr.below h).trans k6), (Gr.below h).trans k6, k7, fun g t cs hb hne => gr_blk hb k6 hne⟩)
    go_region_law ((first
      | (go_simp; go_at_call 4
         (with_reducible refine (HDR.out _ ?_).mono ?_)
         · first
             | exact BA.out.drew
             | exact BA.out
             | exact (BA.out.alloc (Nat.le_refl _) _).drew
             | exact BA.out.alloc (Nat.le_refl _) _
         rintro e w5 ⟨A, n, c, zs, f, rfl, k1, k2, k3, k4, k5, k6, k7, k8, k9, hk5⟩
         have S5 := Lib.hid k9
         have G5 := Lib.hid k8
         have I5 := Lib.hid k4
         have AT5 := Lib.hid k5
         have N5 := Lib.hid k1
         have hz5 := k8.size
         have p5 := (gr_blk P0.out k8 (by omega)).cell 0 _ rfl
         have p6 : w.heap.size + 1 < w5.heap.size := Nat.lt_of_lt_of_le x1 k8.size
         try (have z5 := Lib.hid (hk5 wa.heap.size 27 #[.slice none 0 0, .int .i64 0] (Blk.new wa _ _) (by omega)))
         clear k1 k4 k5 k8 k9 hk5)
      | (go_simp; go_at_call 5
         (with_reducible refine (HMK.out w5 S5.out G5.out _ ?_).mono ?_)
         · first
             | exact Below.refl _ _
             | exact (Below.refl _ _).drew
             | exact ((Below.refl _ _).alloc (Nat.le_refl _) _).drew
             | exact (Below.refl _ _).alloc (Nat.le_refl _) _
         rintro e w6 ⟨Am, nm, cm, l, rfl, q1, q2, q3, q4, q5, q6, q7, hk6⟩
         have F6 := Lib.hid (show OCF w.heap.size wa A n c zs f Am nm l w6 from ⟨N5.out, k2, k3, il_gr I5.out (by rw [N5.out]; exact AT5.out) q6, AT5.out, k6, k7, q1, q2, q3, q4, q5, q7⟩)
         have hz6 := q5.size
         first
           | (have y6 := Lib.hid (hk6 _ _ _ z5.out (by omega)))
           | (have y6 := Lib.hid (hk6 w5.heap.size 27 #[.slice none 0 0, .int .i64 0] (Blk.new w5 _ _) (by omega)))
           | skip
         try (have ya := y6.out.cell 0 _ rfl; have yb := y6.out.cell 1 _ rfl; have yc := y6.out.frozen 0; have yd := y6.out.frozen 1; have yl := y6.out.lt)
         clear q1 q3 q4 q5 q6 q7 hk6)))
    all_goals
      go_wp2_with fail
      go_meet
      case rel =>
        first
          | exact ocj_new F6.out
          | exact ocj_set F6.out (by omega) hz5 y6.out
          | exact ocj_set F6.out (by omega) (Nat.le_refl _) y6.out
  case rest =>
    obtain ⟨g, A, n, c, zs, f, Am, nm, cm, l, rfl, rfl, hgB, hX, h1, h2, h3, h4, h5, h6, h7, h8, h9, h10, h11, h12, h13⟩ := hcut
    have P1 := Lib.hid (gr_blk P0.out h12 (by omega))
    have HN := Lib.hid h1
    have HL := Lib.hid h8
    have AI := Lib.hid (show AtB w.heap.size A zs.length by rw [h1]; exact h5)
    have AM := Lib.hid (show AtB w.heap.size Am l.length by rw [h8]; exact h11)
    have X1 := Lib.hid hX
    have I1 := Lib.hid h4
    have M1 := Lib.hid h10
    have S1 := Lib.hid h13
    have G1 := Lib.hid (G0.out.trans (h12.toBelow (Nat.le_refl _) (by have := G0.out.size; omega)))
    have hz1 := G1.out.size
    clear hX h1 h4 h5 h8 h10 h11 h12 h13 P0 G0 SA x0 x1
    go_wp2_with fail
    refine (key_any w.heap.size 85 (w.heap.size + 1) _ S1.out (by omega) (P1.out.cell 0 _ rfl) P1.out.lt).mono ?_
    rintro e w2 ⟨ia, hia, rfl, hg2, hs2⟩
    have P2 := Lib.hid (gr_blk P1.out hg2 (by omega))
    have X2 := Lib.hid (gr_blk X1.out hg2 (by omega))
    have I2 := Lib.hid (il_gr I1.out AI.out hg2)
    have M2 := Lib.hid (M1.out.gr AM.out hg2)
    have S2 := Lib.hid hs2
    have G2 := Lib.hid (G1.out.trans (hg2.toBelow (Nat.le_refl _) hz1))
    have hz2 := G2.out.size
    clear hg2 hs2 P1 X1 I1 M1 S1 G1 hz1
    go_wp2_with fail
    refine (key_any w.heap.size (85 + 1) (w.heap.size + 1) _ S2.out (by omega) (P2.out.cell 0 _ rfl) P2.out.lt).mono ?_
    rintro e w3 ⟨ib, hib, rfl, hg3, hs3⟩
    have X3 := Lib.hid (gr_blk X2.out hg3 (by omega))
    have I3 := Lib.hid (il_gr I2.out AI.out hg3)
    have M3 := Lib.hid (M2.out.gr AM.out hg3)
    have G3 := Lib.hid (G2.out.trans (hg3.toBelow (Nat.le_refl _) hz2))
    have hz3 := G3.out.size
    clear hg3 hs3 P2 X2 I2 M2 S2 G2 hz2 AI AM
    obtain ⟨gg, hgg⟩ : ∃ gg, ordE zs f l ia ib = gg := ⟨_, rfl⟩
    have HGG := Lib.hid hgg
    obtain ⟨d, hd⟩ : ∃ d, decE zs f = d := ⟨_, rfl⟩
    obtain ⟨m, hm⟩ : ∃ m, chkO ⟨#[]⟩ ⟨#[]⟩ l = m := ⟨_, rfl⟩
    obtain ⟨ka, hka⟩ : ∃ ka, kfE ia = ka := ⟨_, rfl⟩
    obtain ⟨kb, hkb⟩ : ∃ kb, kfE ib = kb := ⟨_, rfl⟩
    have HF := Lib.hid (show fstE [d, m, ka, kb] = gg by rw [← hgg, ← hd, ← hm, ← hka, ← hkb]; rfl)
    have HD := Lib.hid hd
    have HMM := Lib.hid hm
    have HMR := Lib.hid (show refO none l = m by rw [marks_sameO, hm])
    have HKA := Lib.hid (show (if keyL ia.data.toList = true then 0 else 5 : Int) = ka from hka)
    have HKB := Lib.hid (show (if keyL ib.data.toList = true then 0 else 5 : Int) = kb from hkb)
    clear hgg hd hm hka hkb
    have x0 := X3.out.cell 0 _ rfl
    have x1 := X3.out.cell 1 _ rfl
    have x2 := X3.out.lt
    go_wp2_with fail
    refine (order_walk A n c zs f Am nm cm l ia ib w3 HN.out (by omega) h2 (by omega) I3.out (by omega) (by omega) HL.out h9 M3.out hia hib gg HGG).mono ?_
    rintro e w4 ⟨hb4, hor⟩
    have X4 := Lib.hid (X3.out.below hb4 X3.out.lt)
    have I4 := Lib.hid (I3.out.below hb4)
    have M4 := Lib.hid (M3.out.below hb4)
    have G4 := Lib.hid (G3.out.trans (hb4.mono hz3))
    have hz4 := G4.out.size
    have hv : ∃ (rr ge : Int), e = .returned (.tuple #[.int .i64 rr, .int .i64 ge]) ∧ Hid (ge = gg) ∧ Hid (gg ≠ 0 → rr = 0) ∧ Hid (gg = 0 → ordK frR (srtI (scB l ia)) (srtI (scB l ib)) (Lib.compareBytes ia.data.toList ib.data.toList) zs = rr) := by
      rcases hor with ⟨h0, rfl⟩ | ⟨h0, rfl⟩
      · exact ⟨0, gg, rfl, Lib.hid rfl, Lib.hid (fun _ => rfl), Lib.hid (fun h => absurd h h0)⟩
      · exact ⟨_, 0, rfl, Lib.hid h0.symm, Lib.hid (fun h => absurd h0 h), Lib.hid (fun _ => (ordK_same _ _ _ _).symm)⟩
    obtain ⟨rr, ge, rfl, HGE, HR1, HR2⟩ := hv
    obtain rfl := HGE.out
    clear hb4 hor X3 I3 M3 G3 hz3 x0 x1 x2
    have x0 := X4.out.cell 0 _ rfl
    have x1 := X4.out.cell 1 _ rfl
    have x2 := X4.out.lt
    go_wp2_with fail
    refine (decref_walk A n c zs f w4 HN.out (by omega) h2 (by omega) I4.out (by omega) (by omega) d HD).mono ?_; rintro e w5 ⟨rfl, hb⟩
    have X5 := Lib.hid (X4.out.below hb X4.out.lt)
    have I5 := Lib.hid (I4.out.below hb)
    have M5 := Lib.hid (M4.out.below hb)
    have G5 := Lib.hid (G4.out.trans (hb.mono hz4))
    have hz5 := G5.out.size
    clear hb X4 I4 M4 G4 hz4 x0 x1 x2
    go_wp2_with fail
    refine (marksfault2_walk Am nm cm l w5 HL.out (by omega) M5.out m HMR).mono ?_; rintro e w6 ⟨rfl, hb⟩
    have X6 := Lib.hid (X5.out.below hb X5.out.lt)
    have I6 := Lib.hid (I5.out.below hb)
    have M6 := Lib.hid (M5.out.below hb)
    have G6 := Lib.hid (G5.out.trans (hb.mono hz5))
    have hz6 := G6.out.size
    clear hb X5 I5 M5 G5 hz5
    go_wp2_with fail
    refine (keyfault_any ia w6 (by omega) ka HKA.out).mono ?_; rintro e w7 ⟨rfl, hb⟩
    have X7 := Lib.hid (X6.out.below hb X6.out.lt)
    have I7 := Lib.hid (I6.out.below hb)
    have M7 := Lib.hid (M6.out.below hb)
    have G7 := Lib.hid (G6.out.trans (hb.mono hz6))
    have hz7 := G7.out.size
    clear hb X6 I6 M6 G6 hz6
    go_wp2_with fail
    refine (keyfault_any ib w7 (by omega) kb HKB.out).mono ?_; rintro e w8 ⟨rfl, hb⟩
    have X8 := Lib.hid (X7.out.below hb X7.out.lt)
    have I8 := Lib.hid (I7.out.below hb)
    have M8 := Lib.hid (M7.out.below hb)
    have G8 := Lib.hid (G7.out.trans (hb.mono hz7))
    have hz8 := G8.out.size
    clear hb X7 I7 M7 G7 hz7
    have hb := (Below.refl _ w8).alloc (Nat.le_refl _) (.cells #[.int .i64 d, .int .i64 m, .int .i64 ka, .int .i64 kb] 34)
    have Z9 := Blk.new w8 34 #[.int .i64 d, .int .i64 m, .int .i64 ka, .int .i64 kb]
    have X9 := Lib.hid (X8.out.below hb X8.out.lt)
    have I9 := Lib.hid (I8.out.below hb)
    have M9 := Lib.hid (M8.out.below hb)
    have G9 := Lib.hid (G8.out.trans (hb.mono hz8))
    have hz9 := G9.out.size
    have HER := Lib.hid (errs_any w8.heap.size 4 4 [d, m, ka, kb] (w8.alloc (.cells #[.int .i64 d, .int .i64 m, .int .i64 ka, .int .i64 kb] 34)) rfl (by omega) (fun i hi => by
      have hi2 : i < 4 := hi
      rcases (by omega : i = 0 ∨ i = 1 ∨ i = 2 ∨ i = 3) with rfl | rfl | rfl | rfl
      · exact Z9.cell 0 _ rfl
      · exact Z9.cell 1 _ rfl
      · exact Z9.cell 2 _ rfl
      · exact Z9.cell 3 _ rfl) ge HF)
    clear hb Z9 X8 I8 M8 G8 hz8
    go_wp2_with fail
    refine (HER.out).mono ?_; rintro e wz ⟨rfl, hwz⟩
    rw [← hwz] at X9 I9 M9 G9 hz9
    clear hwz HER
    by_cases hg0 : ge = 0
    rotate_left
    · have hr0 := HR1.out hg0
      subst hr0
      have e1 : (ge != 0) = true := by simpa using hg0
      have e2 : (ge == ge) = true := by simp
      clear hg0 HR1 HR2
      go_wp2_with fail
      refine (talked_true _).mono ?_; rintro e wb ⟨rfl, hb⟩
      have GZ := Lib.hid (G9.out.trans (hb.mono hz9))
      clear hb
      go_wp2_with fail
      go_ret
      exact ⟨rfl, GZ.out⟩
    · have HRO := Lib.hid (HR2.out hg0)
      subst hg0
      have hm0 : m = 0 := by
        have := HF.out
        unfold fstE fstE at this
        by_cases hd0 : d = 0
        · rw [if_neg (by simpa using hd0)] at this
          by_cases hm0 : m = 0
          · exact hm0
          · rw [if_pos hm0] at this; exact this
        · rw [if_pos hd0] at this; exact absurd this hd0
      subst hm0
      have hok : ∀ x ∈ l, 0 ≤ x.s ∧ x.s ≤ 10 := fun x hx => (chkO_scores l _ _ HMM.out x hx).2
      have HOO := Lib.hid (orderof_walk A n c zs f Am nm cm l ia ib wz HN.out (by omega) I9.out HL.out h9 M9.out hok rr HRO)
      have x0 := X9.out.cell 0 _ rfl
      have x1 := X9.out.cell 1 _ rfl
      have x2 := X9.out.lt
      have e3 : (rr == rr) = true := by simp
      clear hok HR1 HR2
      go_wp2_with fail
      refine (HOO.out).mono ?_; rintro e wy ⟨rfl, hb⟩
      have GY := Lib.hid (G9.out.trans (hb.mono hz9))
      have hzY := GY.out.size
      clear hb HOO x0 x1 x2
      go_wp2_with fail
      refine (talked_true _).mono ?_; rintro e wb ⟨rfl, hb⟩
      have GZ := Lib.hid (GY.out.trans (hb.mono hzY))
      clear hb
      go_wp2_with fail
      go_ret
      exact ⟨rfl, GZ.out⟩
end Go.Proofs.YtmihbfmlnfhgcadGreatDoor.Cal
