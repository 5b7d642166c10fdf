/-
  THE MAKER OF MARKS.
-/
import Derived.Test.YthhiefpickpiaaaGreatDoorMk
import Derived.Deep.RegionLaw
import Derived.Deep.CutBlock
import Derived.Deep.DeepCutAuto
import Derived.Laws.MakeOwn
namespace Go.Proofs.YthhiefpickpiaaaGreatDoor.Cal
open Go.ChangeShapes Go.WideShapes Go.ChangeAt Go.RowKit Stm Key
set_option linter.unusedVariables false

theorem infoI : (Tryz.prog.info? 3).map (fun i => (i.zero, i.size, i.bytes)) = some (some (.int .i64 0), 1, 8) := by kernel_rfl
theorem infoM : (Tryz.prog.info? 59).map (fun i => (i.zero, i.size, i.bytes)) = some (some (.agg #[.string ⟨#[]⟩, .string ⟨#[]⟩, .int .i64 0]), 3, 40) := by kernel_rfl
theorem make_ints (n : Nat) (hn : n ≤ 1000) : ∃ cs : Array Value, cs.size = n ∧ ∀ W : World, (Instr.makeSlice 22 (.int .i64 n) (.int .i64 n)).run Tryz.prog W = .ok (.slice (some ⟨W.heap.size, 0, none⟩) n n) (W.alloc (.cells cs 3)) := by
  obtain ⟨i0, hi, hz0, hz1, hz2⟩ := info_parts infoI
  refine ⟨madeCells (Value.int .i64 0).cells (n * i0.size), ?_, fun W => ?_⟩
  · rw [hz1, size_madeCells]; omega
  · have h := run_makeSlice (P := Tryz.prog) W 22 3 i0 (.int .i64 0) Tryz.underlying22 hi hz0 .i64 .i64 n n (by omega) (Int.le_refl _) (by rw [hz1]; simp; omega) (by rw [hz2]; omega) (by omega)
    simpa using h
theorem only_undrew {B : Nat} {w w' : World} (h : Only B w.drew w') : Only B w w' := ⟨h.os, h.tape, h.output, h.size, h.block⟩
theorem strm_drew {B k : Nat} {w : World} (h : Strm w B k) : Strm w.drew B k := h.keep ((Below.refl _ _).drew)
theorem enc16 (j : Nat) (h : j ≤ 16) : (Utf8.encode (97 + (j : Int))).size ≤ 4 ∧ IntKind.i32.wrap (97 + (j : Int)) = 97 + (j : Int) := by
  have h2 : j < 17 := by omega
  have : ∀ j : Fin 17, (Utf8.encode (97 + ((j : Nat) : Int))).size ≤ 4 ∧ IntKind.i32.wrap (97 + ((j : Nat) : Int)) = 97 + ((j : Nat) : Int) := by decide +kernel
  exact this ⟨j, h2⟩
/-- The first kk of a block of n are small numbers. -/
def BI (w : World) (g n kk : Nat) : Prop := ∃ cs : Array Value, cs.size = n ∧ Blk w g 3 cs ∧ ∀ j, j < kk → ∃ z : Int, -2 ≤ z ∧ z ≤ 2 ∧ cs[j]? = some (.int .i64 z)
theorem BI.lt {w : World} {g n kk : Nat} (h : BI w g n kk) : g < w.heap.size := by obtain ⟨cs, _, hb, _⟩ := h; exact hb.lt
theorem BI.some {w : World} {g n kk j : Nat} (h : BI w g n kk) (hj : j < n) : ∃ v, w.cell? ⟨g, j, none⟩ = Option.some v := by
  obtain ⟨cs, hs, hb, _⟩ := h; exact ⟨cs[j], hb.cell j _ (by rw [Array.getElem?_eq_getElem])⟩
theorem BI.cell {w : World} {g n kk j : Nat} (h : BI w g n kk) (hj : j < kk) : ∃ z : Int, -2 ≤ z ∧ z ≤ 2 ∧ w.cell? ⟨g, j, none⟩ = Option.some (.int .i64 z) := by
  obtain ⟨cs, hs, hb, hc⟩ := h; obtain ⟨z, h1, h2, h3⟩ := hc j hj; exact ⟨z, h1, h2, hb.cell j _ h3⟩
theorem BI.frozen {w : World} {g n kk : Nat} (h : BI w g n kk) (j : Nat) : w.frozen? ⟨g, j, none⟩ = false := by obtain ⟨cs, _, hb, _⟩ := h; exact hb.frozen j
theorem BI.gr {B : Nat} {w w' : World} {g n kk : Nat} (h : BI w g n kk) (hg : Gr B w w') (hne : g ≠ B) : BI w' g n kk := by
  obtain ⟨cs, hs, hb, hc⟩ := h; exact ⟨cs, hs, (hg.block g hb.lt (fun e => hne (by injection e))).trans hb, hc⟩
theorem BI.set {w : World} {g n kk : Nat} (h : BI w g n kk) (hk : kk < n) (z : Int) (h1 : -2 ≤ z) (h2 : z ≤ 2) : BI (w.setCell ⟨g, kk, none⟩ (.int .i64 z)) g n (kk + 1) := by
  obtain ⟨cs, hs, hb, hc⟩ := h
  refine ⟨_, by simpa using hs, hb.set_ kk _, fun j hj => ?_⟩
  by_cases e : j = kk
  · subst e; exact ⟨z, h1, h2, by rw [Array.getElem?_setIfInBounds_self_of_lt (by omega)]⟩
  · obtain ⟨y, h3, h4, h5⟩ := hc j (by omega); exact ⟨y, h3, h4, by rw [Array.getElem?_setIfInBounds_ne (by omega)]; exact h5⟩

theorem wrap_at (x : Int) (h1 : -1000000 ≤ x) (h2 : x ≤ 1000000) : IntKind.i64.wrap x = x := by
  exact IntWalk.i64_in _ (by omega)
theorem pick5 (B K g : Nat) (W : World) (hg : g ≠ B) (hK : K ≤ 800000) (hW : W.heap[g]? = Option.some (.cells #[.int .i64 0, .int .i64 0, .int .i64 0, .int .i64 1, .int .i64 (-1)] 3 (0, 0))) (hS : Strm W B K) :
    Calls Tryz.prog 32 #[.pointer (Option.some ⟨B, 0, none⟩), .slice (Option.some ⟨g, 0, none⟩) 5 5] W fun e w' => ∃ r : Int, -1 ≤ r ∧ r ≤ 1 ∧ e = .returned (.int .i64 r) ∧ Only B W w' ∧ Strm w' B (K + 1) :=
  (pick_any B K g 5 [0, 0, 0, 1, -1] _ _ W hS (by omega) hg hW (by simp) (by simp)).mono fun e w' ⟨r, hr, he, ho, hs⟩ => by
    refine ⟨r, ?_, ?_, he, ho, hs⟩ <;> (simp only [List.mem_cons, List.mem_nil_iff, or_false] at hr; omega)
/-- A world that is the old one with the five numbers in a new block, drawn from or not. -/
def Five (w W : World) : Prop := W.heap = (w.alloc (.cells #[.int .i64 0, .int .i64 0, .int .i64 0, .int .i64 1, .int .i64 (-1)] 3)).heap ∧ W.os = w.os ∧ W.tape = w.tape ∧ W.output = w.output
theorem Five.below {w W : World} (h : Five w W) : Below w.heap.size w W :=
  ⟨h.2.1, h.2.2.1, h.2.2.2, by rw [h.1]; simp, fun i hi => by rw [h.1]; exact ((Below.refl w.heap.size w).alloc (Nat.le_refl _) _).block i hi⟩
theorem pick_five (B K : Nat) (w W : World) (hS : Strm w B K) (hK : K ≤ 800000) (h : Five w W) :
    Calls Tryz.prog 32 #[.pointer (Option.some ⟨B, 0, none⟩), .slice (Option.some ⟨w.heap.size, 0, none⟩) 5 5] W fun e w' => ∃ r : Int, -1 ≤ r ∧ r ≤ 1 ∧ e = .returned (.int .i64 r) ∧ Gr B w w' ∧ Strm w' B (K + 1) :=
  (pick5 B K w.heap.size W (by have := hS.lt; omega) hK (by rw [h.1]; exact heap_alloc_new w _) (hS.keep (h.below.mono (by have := hS.lt; omega)))).mono fun e w' ⟨r, h0, h1, he, ho, hs⟩ =>
    ⟨r, h0, h1, he, (Gr.below h.below).trans (Gr.only ho), hs⟩

set_option maxRecDepth 100000 in
set_option maxHeartbeats 2000000 in
theorem marks_any (B k p q : Nat) (w : World) (hs : Strm w B k) (hk : k ≤ 700000) (hp : p ≤ 16) (hq : q ≤ 16) :
    Calls Tryz.prog 12 #[.pointer (some ⟨B, 0, none⟩), .int .i64 p, .int .i64 q] w (MkRet B k 600 256 w) := by
  have hB := hs.lt
  have HS := Lib.hid hs
  clear hs
  obtain ⟨cs0, hcs0, hmk⟩ := make_ints q (by omega)
  go_enter Tryz.func12, Tryz.ntmps12
  go_wp2_with fail
  clear hmk
  go_loopw [19] (fun i wr => ∃ kk : Nat, kk ≤ q ∧ i = .int .i64 kk ∧ Hid (BI wr w.heap.size q kk) ∧ Hid (Gr B w wr) ∧ Hid (Strm wr B (k + kk))) (fun i _ => q - (intOf i).toNat)
  case atStart => exact ⟨0, Nat.zero_le _, rfl, Lib.hid ⟨cs0, hcs0, Blk.new w _ _, fun j hj => absurd hj (by omega)⟩, Lib.hid ((Gr.refl B w).alloc _), Lib.hid (HS.out.keep ((Below.refl _ _).alloc (by omega) _))⟩
  case round =>
    obtain ⟨kk, hkk, rfl, HI, HG, HST⟩ := hrel
    have hzr := HG.out.size
    have hBr := HST.out.lt
    by_cases hlt : kk < q
    · go_wp2_with fail
      refine (range_any B (k + kk) (-2) 2 _ HST.out (by omega) (by omega) (by omega) (by omega)).mono ?_
      rintro e w1 ⟨z, z0, z1, rfl, ho, hs⟩
      have I1 := Lib.hid (HI.out.gr (Gr.only ho) (by omega))
      have G1 := Lib.hid (HG.out.trans (Gr.only ho))
      have S1 := Lib.hid hs
      obtain ⟨u, hu⟩ := I1.out.some hlt
      have fu := I1.out.frozen kk
      have a0 : (0 : Int) ≤ (kk : Int) := by omega
      have a1 : (kk : Int) < (q : Int) := by omega
      clear ho hs HI HG HST
      go_wp2_with fail
      go_roundw
      case rel => exact ⟨kk + 1, by omega, by go_num, Lib.hid (I1.out.set hlt z z0 z1), Lib.hid (G1.out.setCell (p := ⟨w.heap.size, kk, none⟩) (Nat.le_refl _) _), Lib.hid (S1.out.keep ((Below.refl _ _).setCell (p := ⟨w.heap.size, kk, none⟩) (by show B + 1 ≤ w.heap.size; omega) _))⟩
      case measure => simp [intOf]; omega
    · have hkq : kk = q := by omega
      subst hkq
      go_wp2_with fail
      have I1 := HI
      have G1 := HG
      have S1 := Lib.hid (HST.out.mono (show k + kk ≤ k + 16 by omega))
      have O1 : Hid (wr.ownsRow (w.heap.size + 1) 59 3 (.slice none 0 0) 0 (flatM [])) := Lib.hid (World.ownsRow_nil _ _ _ _)
      have hzI := HI.out.lt
      clear HI HG HST HS hcs0 hkk
      rename World => wa
      go_loopw [7, 29] (fun o i wr => ∃ (ii m : Nat) (A : Option Addr) (c : Nat) (l : List Mk), ii ≤ p ∧ m ≤ ii * 16 ∧ o = .slice A m c ∧ i = .int .i64 ii ∧ l.length = m ∧ Hid (∀ x ∈ l, mOk x) ∧ Hid (wr.ownsRow (w.heap.size + 1) 59 3 (.slice A m c) m (flatM l)) ∧ Hid (BI wr w.heap.size kk kk) ∧ Hid (Gr B w wr) ∧ Hid (Strm wr B (k + 16 + ii * 33))) (fun _ i _ => p - (intOf i).toNat)
      case atStart => exact ⟨0, 0, none, 0, [], Nat.zero_le _, Nat.zero_le _, rfl, rfl, rfl, Lib.hid (by simp), O1, I1, G1, S1⟩
      case round =>
        obtain ⟨ii, m, A, c, l, hii, hm, rfl, rfl, hl, HX, HO, HI, HG, HST⟩ := hrel
        have HL := Lib.hid hl
        have HM := Lib.hid hm
        have hzr := HG.out.size
        have hzi := HI.out.lt
        have hBr := HST.out.lt
        clear hl hm O1 I1 G1 S1
        by_cases hip : ii < p
        · go_wp2_with fail
          refine (range_any B (k + 16 + ii * 33) 2 8 _ HST.out (by omega) (by omega) (by omega) (by omega)).mono ?_
          rintro e w1 ⟨lv, lv0, lv1, rfl, ho, hs⟩
          have O1 := Lib.hid (own_gr HO.out (Gr.only ho) (by omega))
          have I1 := Lib.hid (HI.out.gr (Gr.only ho) (by omega))
          have G1 := Lib.hid (HG.out.trans (Gr.only ho))
          have S1 := Lib.hid hs
          have hz1 := G1.out.size
          clear ho hs HO HI HG HST
          go_wp2_with fail
          rename World => wo
          go_loopw [7, 35] (fun o i wr => ∃ (jj m : Nat) (A : Option Addr) (c : Nat) (l : List Mk), jj ≤ kk ∧ m ≤ ii * 16 + jj ∧ o = .slice A m c ∧ i = .int .i64 jj ∧ l.length = m ∧ Hid (∀ x ∈ l, mOk x) ∧ Hid (wr.ownsRow (w.heap.size + 1) 59 3 (.slice A m c) m (flatM l)) ∧ Hid (BI wr w.heap.size kk kk) ∧ Hid (Gr B w wr) ∧ Hid (Strm wr B (k + 16 + ii * 33 + 1 + jj * 2))) (fun _ i _ => kk - (intOf i).toNat)
          case atStart => exact ⟨0, m, A, c, l, Nat.zero_le _, by have := HM.out; omega, rfl, rfl, HL.out, HX, O1, I1, G1, S1⟩
          case round =>
            clear O1 I1 G1 S1 HX HL HM hz1
            obtain ⟨jj, m, A, c, l, hjj, hm, rfl, rfl, hl, HX, HO, HI, HG, HST⟩ := hrel
            have HL := Lib.hid hl
            have HM := Lib.hid hm
            have hzr := HG.out.size
            have hzi := HI.out.lt
            have hBr := HST.out.lt
            clear hl hm
            by_cases hj : jj < kk
            · go_wp2_with fail
              refine (flip_any B (k + 16 + ii * 33 + 1 + jj * 2) 3 _ HST.out (by omega) (by omega) (by omega)).mono ?_
              rintro e w2 ⟨fl, rfl, ho, hs⟩
              have O2 := Lib.hid (own_gr HO.out (Gr.only ho) (by omega))
              have I2 := Lib.hid (HI.out.gr (Gr.only ho) (by omega))
              have G2 := Lib.hid (HG.out.trans (Gr.only ho))
              have S2 := Lib.hid hs
              have hz2 := G2.out.size
              have hi2 := I2.out.lt
              have hB2 := hs.lt
              clear ho hs HO HI HG HST
              cases fl
              · obtain ⟨bz, b0, b1, cb⟩ := I2.out.cell hj
                have a0 : (0 : Int) ≤ (jj : Int) := by omega
                have a1 : (jj : Int) < (kk : Int) := by omega
                have wq1 : IntKind.i64.wrap (lv + bz) = lv + bz := wrap_at _ (by omega) (by omega)
                have wq2 : ∀ r : Int, -1 ≤ r → r ≤ 1 → IntKind.i64.wrap (lv + bz + r) = lv + bz + r := fun r h1 h2 => wrap_at _ (by omega) (by omega)
                go_wp2_with fail
                go_region_law ((first
                  | (go_simp; go_at_call 32
                     refine (pick_five B (k + 16 + ii * 33 + 1 + jj * 2 + 1) w2 _ S2.out (by omega) ⟨by rfl, by rfl, by rfl, by rfl⟩).mono ?_
                     rintro e w5 ⟨r, r0, r1, rfl, hgr, hs⟩
                     have cb5 := (hgr.cell w.heap.size jj hi2 (by omega)).trans cb
                     have O5 := Lib.hid (own_gr O2.out hgr (by omega))
                     have I5 := Lib.hid (I2.out.gr hgr (by omega))
                     have G5 := Lib.hid (G2.out.trans hgr)
                     have S5 := Lib.hid hs
                     have hz5 := hgr.size
                     have wq3 := wq2 r r0 r1
                     clear hgr hs)))
                all_goals
                  have ⟨hen, hwr⟩ := enc16 ii (by omega)
                  have ⟨hen2, hwr2⟩ := enc16 jj (by omega)
                  go_upto_region 17 with fail
                  go_simp
                  generalize hsm : (if lv + bz + r < 0 then (0 : Int) else lv + bz + r) = sm
                  have hsm0 : 0 ≤ sm := by rw [← hsm]; split <;> omega
                  generalize hsc : (if 10 < sm then (10 : Int) else sm) = sc
                  have hsc0 : 0 ≤ sc ∧ sc ≤ 10 := by rw [← hsc]; split <;> omega
                  have hkx : ((⟨#[112]⟩ : ByteArray) ++ Utf8.encode (97 + (ii : Int))).size ≤ 1000 := by rw [ByteArray.size_append]; have : (⟨#[112]⟩ : ByteArray).size = 1 := rfl; omega
                  have hhx : ((⟨#[104]⟩ : ByteArray) ++ Utf8.encode (97 + (jj : Int))).size ≤ 1000 := by rw [ByteArray.size_append]; have : (⟨#[104]⟩ : ByteArray).size = 1 := rfl; omega
                  have hsum1 : (⟨#[112]⟩ : ByteArray).size + (Utf8.encode (97 + (ii : Int))).size ≤ 9223372036854775807 := by have : (⟨#[112]⟩ : ByteArray).size = 1 := rfl; omega
                  have hsum2 : (⟨#[104]⟩ : ByteArray).size + (Utf8.encode (97 + (jj : Int))).size ≤ 9223372036854775807 := by have : (⟨#[104]⟩ : ByteArray).size = 1 := rfl; omega
                  have wi1 : IntKind.i64.wrap (97 + (ii : Int)) = 97 + (ii : Int) := wrap_at _ (by omega) (by omega)
                  have wi2 : IntKind.i64.wrap (97 + (jj : Int)) = 97 + (jj : Int) := wrap_at _ (by omega) (by omega)
                  clear wq1 wq2 wq3 hsm hsc hsm0
                  obtain ⟨i0, hi0, hz0, hz1', hz2'⟩ := info_parts infoM
                  have HI := Lib.hid hi0
                  have Z0 := Lib.hid hz0
                  have Z1 := Lib.hid hz1'
                  have Z2 := Lib.hid hz2'
                  have hB5 := S5.out.lt
                  have HAP := Lib.hid (flatM_snoc l ⟨((⟨#[112]⟩ : ByteArray) ++ Utf8.encode (97 + (ii : Int))), ((⟨#[104]⟩ : ByteArray) ++ Utf8.encode (97 + (jj : Int))), sc⟩)
                  have HOK : Hid (∀ x ∈ l ++ [⟨((⟨#[112]⟩ : ByteArray) ++ Utf8.encode (97 + (ii : Int))), ((⟨#[104]⟩ : ByteArray) ++ Utf8.encode (97 + (jj : Int))), sc⟩], mOk x) := Lib.hid (fun x hx => by
                    rcases List.mem_append.1 hx with h | h
                    · exact HX.out x h
                    · obtain rfl := List.mem_singleton.1 h; exact ⟨hkx, hhx, by show -1000000 ≤ sc; omega, by show sc ≤ 1000000; omega⟩)
                  have hmb : m ≤ 256 := by have := HM.out; omega
                  clear hi0 hz0 hz1' hz2' hkx hhx hsc0 HX
                  go_wp2_with (at_builtin; (refine wpList_append_lies _ rfl _ _ _ rfl (w.heap.size + 1) 59 i0 _ 3 40 Tryz.underlying26 HI.out Z0.out Z1.out Z2.out rfl (by omega) (.slice A m c) m (flatM l) rfl (O5.out.alloc _) ⟨w5.heap.size, 0, none⟩ 1 1 [.string ((⟨#[112]⟩ : ByteArray) ++ Utf8.encode (97 + (ii : Int))), .string ((⟨#[104]⟩ : ByteArray) ++ Utf8.encode (97 + (jj : Int))), .int .i64 sc] rfl rfl (World.news_of_block (cs := #[.string ((⟨#[112]⟩ : ByteArray) ++ Utf8.encode (97 + (ii : Int))), .string ((⟨#[104]⟩ : ByteArray) ++ Utf8.encode (97 + (jj : Int))), .int .i64 sc]) (t := 59) (fr := (0, 0)) (heap_alloc_new w5 _)) (by simp [Value.oneCell']) (by omega) (by unfold maxLen; omega) (by omega) (by simp; omega) (w5.heap.size + 1) (by simp) ?_); intro gg cap' w7 hown hgrow hat hgl; (have O7 := Lib.hid (show w7.ownsRow (w.heap.size + 1) 59 3 (.slice (some ⟨gg, 0, none⟩) (m + 1) cap') (m + 1) (flatM (l ++ [⟨((⟨#[112]⟩ : ByteArray) ++ Utf8.encode (97 + (ii : Int))), ((⟨#[104]⟩ : ByteArray) ++ Utf8.encode (97 + (jj : Int))), sc⟩])) by rw [HAP.out]; exact hown)); (have G7 := Lib.hid (gr_row (w0 := w) (G5.out.alloc _) hgrow (fun r e => by have := O5.out.lt r e; omega))); (have I7 := Lib.hid (show BI w7 w.heap.size kk kk by obtain ⟨cs, h1, h2, h3⟩ := I5.out; exact ⟨cs, h1, (hgrow.block w.heap.size (by have := h2.lt; simp; omega) (fun e => by have := O5.out.lt _ e.symm; omega)).trans (h2.alloc _), h3⟩)); (have S7 := Lib.hid (S5.out.keep (((Below.refl _ _).alloc (by omega) _).trans (grownB (C := B + 1) hgrow (fun r e => by have := O5.out.lt r e; omega) (by simp; omega))))); clear hown hgrow hat hgl)
                  go_roundw
                  case rel => exact ⟨jj + 1, m + 1, some ⟨gg, 0, none⟩, cap', l ++ [⟨((⟨#[112]⟩ : ByteArray) ++ Utf8.encode (97 + (ii : Int))), ((⟨#[104]⟩ : ByteArray) ++ Utf8.encode (97 + (jj : Int))), sc⟩], by omega, by have := HM.out; omega, rfl, by go_num, by simp [HL.out], HOK, O7, I7, G7, Lib.hid (S7.out.mono (by omega))⟩
                  case measure => simp [intOf]; omega
              · go_wp2_with fail
                go_roundw
                case rel => exact ⟨jj + 1, m, A, c, l, by omega, by have := HM.out; omega, rfl, by go_num, HL.out, HX, O2, I2, G2, Lib.hid (S2.out.mono (by omega))⟩
                case measure => simp [intOf]; omega
            · have hjk : jj = kk := by omega
              subst hjk
              go_wp2_with fail
              refine ⟨⟨ii + 1, m, A, c, l, by omega, by have := HM.out; omega, rfl, by go_num, HL.out, HX, HO, HI, HG, Lib.hid (HST.out.mono (by omega))⟩, ?_⟩
              simp [intOf]; omega
        · have hipe : ii = p := by omega
          subst hipe
          have hmb : m ≤ 256 := by have := HM.out; omega
          go_wp2_with fail
          refine (flip_any B (k + 16 + ii * 33) 15 _ HST.out (by omega) (by omega) (by omega)).mono ?_
          rintro e w2 ⟨fl, rfl, ho, hs⟩
          have O2 := Lib.hid (own_gr HO.out (Gr.only ho) (by omega))
          have G2 := Lib.hid (HG.out.trans (Gr.only ho))
          have S2 := Lib.hid hs
          have hz2 := G2.out.size
          have hB2 := hs.lt
          have FIN := Lib.hid (mk_fin (k := k) (d := 600) hB O2.out HL.out HX.out hmb G2.out (S2.out.mono (by omega)))
          clear ho hs HO HI HG HST
          cases fl
          · go_wp2_with fail
            go_ret
            exact FIN.out
          · by_cases hm0 : m = 0
            · subst hm0
              go_wp2_with fail
              go_ret
              exact FIN.out
            · obtain ⟨g, cap', hv, hgw, hlt2⟩ := O2.out.form (by omega)
              obtain ⟨rfl, _, rfl⟩ : A = some ⟨g, 0, none⟩ ∧ True ∧ c = cap' := by injection hv with a b c; exact ⟨a, trivial, c⟩
              have hnp : (m : Int) > 0 := by omega
              clear hv FIN
              go_wp2_with fail
              refine (next_any B (k + 16 + ii * 33 + 1) m _ S2.out (by omega) (by omega) (by omega)).mono ?_
              rintro e w3 ⟨j, h0, h1, rfl, ho, hs⟩
              obtain ⟨j, rfl⟩ : ∃ z : Nat, j = z := ⟨j.toNat, by omega⟩
              have O3 := Lib.hid (own_gr O2.out (Gr.only ho) (by omega))
              have G3 := Lib.hid (G2.out.trans (Gr.only ho))
              have S3 := Lib.hid hs
              have hB3 := hs.lt
              have hz3 := G3.out.size
              have hjm : j < m := by omega
              have hg3 := (O3.out.lt g rfl).2
              have j0 : (0 : Int) ≤ (j : Int) := by omega
              clear ho hs O2 G2 S2
              go_wp2_with fail
              refine (next_any B (k + 16 + ii * 33 + 1 + 1) 3 _ S3.out (by omega) (by omega) (by omega)).mono ?_
              rintro e w4 ⟨z, z0, z1, rfl, ho, hs⟩
              have O4 := Lib.hid (own_gr O3.out (Gr.only ho) (by omega))
              have G4 := Lib.hid (G3.out.trans (Gr.only ho))
              have S4 := Lib.hid hs
              have hB4 := hs.lt
              have hz4 := G4.out.size
              have hg4 := (O4.out.lt g rfl).2
              clear ho hs O3 G3 S3
              have hjl : j < l.length := by have := HL.out; omega
              have HXJ := Lib.hid (HX.out _ (List.getElem_mem hjl))
              rcases (by omega : z = 0 ∨ z = 1 ∨ z = 2) with rfl | rfl | rfl
              · go_wp2_with fail
                refine (h06_le 1000 B (k + 16 + ii * 33 + 1 + 1 + 1) _ _ [⟨#[]⟩, ⟨#[112, 97]⟩, ⟨#[80]⟩] _ _ _ (S4.out.keep (by go_grown)) (by omega) (by omega) (new_at rfl) (by simp) (by simp) (le_all (by decide +kernel))).mono ?_
                rintro e w5 ⟨x, hx, rfl, ho, hs⟩
                have Q5 := Lib.hid (((Gr.refl B w4).alloc (.cells #[.string ⟨#[]⟩, .string ⟨#[112, 97]⟩, .string ⟨#[80]⟩] 9)).trans (Gr.only ho))
                have O5 := Lib.hid (own_gr O4.out Q5.out (by omega))
                have G5 := Lib.hid (G4.out.trans Q5.out)
                have S5 := Lib.hid hs
                obtain ⟨v, cv⟩ : ∃ v, w5.cell? ⟨g, j * 3, none⟩ = some v := ⟨_, by have h := O5.out.cells (g := g) rfl _ _ (flatM_get l j hjl).1; rw [row_add'] at h; exact h⟩
                have fv := own_frozen O5.out (j * 3)
                have FIN := Lib.hid (mk_set (k := k) (d := 600) (j := j) (p := j * 3) hB O5.out HL.out HX.out hmb G5.out (S5.out.mono (by omega)) hgw (by omega) (flatM_set0 l j x hjl) ⟨hx, HXJ.out.2.1, HXJ.out.2.2⟩)
                clear ho hs O4 G4 S4
                go_wp2_with fail
                go_ret
                exact FIN.out
              · go_wp2_with fail
                refine (h06_le 1000 B (k + 16 + ii * 33 + 1 + 1 + 1) _ _ [⟨#[]⟩, ⟨#[104, 97]⟩, ⟨#[72]⟩] _ _ _ (S4.out.keep (by go_grown)) (by omega) (by omega) (new_at rfl) (by simp) (by simp) (le_all (by decide +kernel))).mono ?_
                rintro e w5 ⟨x, hx, rfl, ho, hs⟩
                have Q5 := Lib.hid (((Gr.refl B w4).alloc (.cells #[.string ⟨#[]⟩, .string ⟨#[104, 97]⟩, .string ⟨#[72]⟩] 9)).trans (Gr.only ho))
                have O5 := Lib.hid (own_gr O4.out Q5.out (by omega))
                have G5 := Lib.hid (G4.out.trans Q5.out)
                have S5 := Lib.hid hs
                obtain ⟨v, cv⟩ : ∃ v, w5.cell? ⟨g, j * 3 + 1, none⟩ = some v := ⟨_, by have h := O5.out.cells (g := g) rfl _ _ (flatM_get l j hjl).2.1; rw [row_add'] at h; exact h⟩
                have fv := own_frozen O5.out (j * 3 + 1)
                have FIN := Lib.hid (mk_set (k := k) (d := 600) (j := j) (p := j * 3 + 1) hB O5.out HL.out HX.out hmb G5.out (S5.out.mono (by omega)) hgw (by omega) (flatM_set1 l j x hjl) ⟨HXJ.out.1, hx, HXJ.out.2.2⟩)
                clear ho hs O4 G4 S4
                go_wp2_with fail
                go_ret
                exact FIN.out
              · go_wp2_with fail
                refine (pick_any B (k + 16 + ii * 33 + 1 + 1 + 1) _ _ [-1, 11] _ _ _ (S4.out.keep (by go_grown)) (by omega) (by omega) (new_at rfl) (by simp) (by simp)).mono ?_
                rintro e w5 ⟨x, hx, rfl, ho, hs⟩
                have hx2 : -1000000 ≤ x ∧ x ≤ 1000000 := by simp only [List.mem_cons, List.mem_nil_iff, or_false] at hx; omega
                have Q5 := Lib.hid (((Gr.refl B w4).alloc (.cells #[.int .i64 (-1), .int .i64 11] 3)).trans (Gr.only ho))
                have O5 := Lib.hid (own_gr O4.out Q5.out (by omega))
                have G5 := Lib.hid (G4.out.trans Q5.out)
                have S5 := Lib.hid hs
                obtain ⟨v, cv⟩ : ∃ v, w5.cell? ⟨g, j * 3 + 2, none⟩ = some v := ⟨_, by have h := O5.out.cells (g := g) rfl _ _ (flatM_get l j hjl).2.2; rw [row_add'] at h; exact h⟩
                have fv := own_frozen O5.out (j * 3 + 2)
                have FIN := Lib.hid (mk_set (k := k) (d := 600) (j := j) (p := j * 3 + 2) hB O5.out HL.out HX.out hmb G5.out (S5.out.mono (by omega)) hgw (by omega) (flatM_set2 l j x hjl) ⟨HXJ.out.1, HXJ.out.2.1, hx2⟩)
                clear ho hs O4 G4 S4 hx
                go_wp2_with fail
                go_ret
                exact FIN.out
end Go.Proofs.YthhiefpickpiaaaGreatDoor.Cal
