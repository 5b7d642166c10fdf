/-
  THE ORDER OF PAPERS: rows of fractions; discuss.judge.
-/
import Derived.Test.YtmihbfmlnfhgcadGreatDoorOrdV
import Derived.Test.YtmihbfmlnfhgcadGreatDoorDecF
import Derived.Deep.RegionLaw
import Derived.Deep.AppendLies
import Derived.Deep.RegionWith
import Derived.BigRegion
import Derived.Deep.CutBlock
import Derived.Deep.DeepCutAuto
namespace Go.Proofs.YtmihbfmlnfhgcadGreatDoor.Cal
open Go.Shelf
open Go.ChangeShapes Go.WideShapes Go.ChangeAt Go.RowKit Stm Key
set_option linter.unusedVariables false

def encF (x : Int × Int) : List Value := [.int .i64 x.1, .int .i64 x.2]
def flatF (l : List (Int × Int)) : List Value := l.flatMap encF
theorem flatF_cons (x : Int × Int) (t : List (Int × Int)) : flatF (x :: t) = .int .i64 x.1 :: .int .i64 x.2 :: flatF t := rfl
theorem flatF_snoc (l : List (Int × Int)) (x : Int × Int) : flatF (l ++ [x]) = flatF l ++ encF x := by simp [flatF]
theorem flatF_get : ∀ (l : List (Int × Int)) (i : Nat) (h : i < l.length), (flatF l)[i * 2]? = some (.int .i64 l[i].1) ∧ (flatF l)[i * 2 + 1]? = some (.int .i64 l[i].2)
  | [], i, h => by simp at h
  | x :: t, 0, _ => ⟨rfl, rfl⟩
  | x :: t, i + 1, h => by
    have := flatF_get t i (by simpa using h)
    have e1 : (i + 1) * 2 = i * 2 + 1 + 1 := by omega
    rw [e1, flatF_cons]
    simpa using this
/-- A slice's cells are these fractions. -/
def FL (w : World) (A : Option Addr) (l : List (Int × Int)) : Prop := 0 < l.length → ∃ b, A = some ⟨b, 0, none⟩ ∧ b < w.heap.size ∧ ∀ (i : Nat) (h : i < l.length), w.cell? ⟨b, i * 2, none⟩ = some (.int .i64 l[i].1) ∧ w.cell? ⟨b, i * 2 + 1, none⟩ = some (.int .i64 l[i].2)
theorem FL.below {w w' : World} {A : Option Addr} {l : List (Int × Int)} (h : FL w A l) (hb : Below w.heap.size w w') : FL w' A l := fun h0 => by
  obtain ⟨b, hA, hlt, hc⟩ := h h0
  refine ⟨b, hA, Nat.lt_of_lt_of_le hlt hb.size, fun i hi => ?_⟩
  obtain ⟨c0, c1⟩ := hc i hi
  exact ⟨(hb.cell (p := ⟨b, i * 2, none⟩) hlt).trans c0, (hb.cell (p := ⟨b, i * 2 + 1, none⟩) hlt).trans c1⟩
theorem row_fl {w : World} {base n cap : Nat} {A : Option Addr} {l : List (Int × Int)} (h : w.ownsRow base 71 2 (.slice A n cap) n (flatF l)) (hL : l.length = n) : FL w A l := fun h0 => by
  rcases h.2 with ⟨e, e0⟩ | ⟨g, cap', cur, e, hb, hh, _⟩
  · omega
  · injection e with e1
    subst e1
    refine ⟨g, rfl, lt_of_block hh, fun i hi => ?_⟩
    have hc := h.cells (g := g) rfl
    obtain ⟨f0, f1⟩ := flatF_get l i hi
    have e0 := hc _ _ f0; have e1 := hc _ _ f1
    rw [row_add'] at e0 e1
    exact ⟨e0, e1⟩
theorem infoF : (Tryz.prog.info? 71).map (fun i => (i.zero, i.size, i.bytes)) = some (some (.agg #[.int .i64 0, .int .i64 0]), 2, 16) := by kernel_rfl
/-- A paper that is judged. -/
def JRet (id : ByteArray) (zs s : List Int) (w : World) (e : Ending) (w' : World) : Prop :=
  ∃ (A : Option Addr) (n c : Nat) (b : Bool), e = .returned (.agg #[.string id, .slice A n c, .bool b]) ∧ zs.length = n ∧ n ≤ c ∧ FL w' A (zs.map fun k => frP k s) ∧ Below w.heap.size w w'
theorem il_far {w w' : World} {A : Option Addr} {l : List Int} {C : Nat} (h : IL w A l) (hC : w.heap.size ≤ C) {wb : World} (hb : Below w.heap.size w wb) (hb2 : Below C wb w') : IL w' A l :=
  h.below (hb.trans (hb2.mono hC))
/-- The state of judge's loop. -/
def JSt (id : ByteArray) (zs s : List Int) (jb : Nat) (b : Bool) (wb : World) (ii : Nat) (A : Option Addr) (c : Nat) (wr : World) : Prop :=
  Blk wr jb 62 #[.string id, .slice A ii c, .bool b] ∧ wr.ownsRow (jb + 1) 71 2 (.slice A ii c) ii (flatF ((zs.take ii).map fun k => frP k s)) ∧ Below jb wb wr
theorem jst_below {id : ByteArray} {zs s : List Int} {jb ii c : Nat} {b : Bool} {wb wr w5 : World} {A : Option Addr} (h : JSt id zs s jb b wb ii A c wr) (hb : Below wr.heap.size wr w5) : JSt id zs s jb b wb ii A c w5 :=
  ⟨h.1.below hb h.1.lt, own_bel h.2.1 hb, h.2.2.trans (hb.mono (Nat.le_of_lt h.1.lt))⟩
theorem jst_grow {id : ByteArray} {zs s : List Int} {jb ii c m' : Nat} {b : Bool} {wb w5 w7 : World} {A : Option Addr} {o : Obj} {v' : Value} {xs : List Value} (h : JSt id zs s jb b wb ii A c w5) (hjb : jb ≤ wb.heap.size)
    (hown : w7.ownsRow (jb + 1) 71 2 v' m' xs) (hgrow : (w5.alloc o).grownBy w7 (Value.slice A ii c).ownBlock) : Blk w7 jb 62 #[.string id, .slice A ii c, .bool b] ∧ w7.ownsRow (jb + 1) 71 2 v' m' xs ∧ Below jb wb w7 :=
  ⟨(hgrow.block jb (by have := h.1.lt; simp; omega) (fun e => by have := (h.2.1.lt _ e.symm).1; omega)).trans (h.1.alloc o), hown,
    (h.2.2.alloc (Nat.le_trans hjb h.2.2.size) o).grown hgrow (by have := h.2.2.size; simp; omega) (fun j hj => by have := (h.2.1.lt j hj).1; omega)⟩
theorem jst_store {id : ByteArray} {zs s : List Int} {jb ii c gg cap7 : Nat} {b : Bool} {wb w7 : World} {A : Option Addr} {v1 v2 : Int}
    (h : Blk w7 jb 62 #[.string id, .slice A ii c, .bool b] ∧ w7.ownsRow (jb + 1) 71 2 (.slice (some ⟨gg, 0, none⟩) (ii + 1) cap7) (ii + 1) (flatF ((zs.take ii).map fun k => frP k s) ++ [.int .i64 v1, .int .i64 v2]) ∧ Below jb wb w7)
    (hx : (zs.take (ii + 1)).map (fun k => frP k s) = (zs.take ii).map (fun k => frP k s) ++ [(v1, v2)]) : JSt id zs s jb b wb (ii + 1) (some ⟨gg, 0, none⟩) cap7 (w7.setCell ⟨jb, 1, none⟩ (.slice (some ⟨gg, 0, none⟩) (ii + 1) cap7)) :=
  ⟨h.1.set_ 1 _, own_gr (by rw [hx, flatF_snoc]; exact h.2.1) (Gr.only ((Only.refl jb w7).setCell 1 none _)) (Nat.lt_succ_self _), h.2.2.setCell (p := ⟨jb, 1, none⟩) (Nat.le_refl _) _⟩
theorem jst_fin {id : ByteArray} {zs s : List Int} {jb n c : Nat} {b : Bool} {w wb wr : World} {A : Option Addr} (hn : zs.length = n) (h : JSt id zs s jb b wb n A c wr) (hB : Below w.heap.size w wb) (hj : w.heap.size + 1 < jb) :
    JRet id zs s w (.returned (.agg #[.string id, .slice A n c, .bool b])) (((wr.setCell ⟨w.heap.size + 1, 0, none⟩ (.string id)).setCell ⟨w.heap.size + 1, 1, none⟩ (.slice A n c)).setCell ⟨w.heap.size + 1, 2, none⟩ (.bool b)) := by
  have hfull : zs.take n = zs := List.take_of_length_le (by omega)
  have ho := own_gr h.2.1 (Gr.only ((((Only.refl (w.heap.size + 1) wr).setCell 0 none (.string id)).setCell 1 none (.slice A n c)).setCell 2 none (.bool b))) (show w.heap.size + 1 < jb + 1 by omega)
  rw [hfull] at ho
  exact ⟨A, n, c, b, rfl, hn, row_cap ho, row_fl ho (by rw [List.length_map]; exact hn), (((hB.trans (h.2.2.mono (by omega))).setCell (p := ⟨w.heap.size + 1, 0, none⟩) (by show w.heap.size ≤ w.heap.size + 1; omega) _).setCell (p := ⟨w.heap.size + 1, 1, none⟩) (by show w.heap.size ≤ w.heap.size + 1; omega) _).setCell (p := ⟨w.heap.size + 1, 2, none⟩) (by show w.heap.size ≤ w.heap.size + 1; omega) _⟩
set_option maxRecDepth 100000 in
set_option maxHeartbeats 8000000 in
theorem judge_walk (A : Option Addr) (n c : Nat) (zs : List Int) (f : Int) (id : ByteArray) (As : Option Addr) (m cs : Nat) (s : List Int) (w : World) (hn : zs.length = n) (hn2 : n ≤ 1000) (hI : IL w A zs) (hf : -1000 ≤ f) (hf2 : f ≤ 1000) (hs : s.length = m) (hm : m ≤ 256) (hIs : IL w As s) :
    Calls Tryz.prog 26 #[.agg #[.slice A n c, .int .i64 f], .string id, .slice As m cs] w (JRet id zs s w) := by
  have HN := Lib.hid hn
  have HS := Lib.hid hs
  have hx0 := (Below.refl w.heap.size w).alloc (Nat.le_refl _) (.cells #[.slice A n c, .int .i64 f] 27)
  have B0 := Lib.hid (hx0.alloc hx0.size (.cells #[.string ⟨#[]⟩, .slice none 0 0, .bool false] 62))
  have X0 := Lib.hid ((Blk.new w 27 #[.slice A n c, .int .i64 f]).alloc (.cells #[.string ⟨#[]⟩, .slice none 0 0, .bool false] 62))
  have Y0 : Hid (Blk ((w.alloc (.cells #[.slice A n c, .int .i64 f] 27)).alloc (.cells #[.string ⟨#[]⟩, .slice none 0 0, .bool false] 62)) (w.heap.size + 1) 62 #[.string ⟨#[]⟩, .slice none 0 0, .bool false]) := Lib.hid (by
    have h := Blk.new (w.alloc (.cells #[.slice A n c, .int .i64 f] 27)) 62 #[.string ⟨#[]⟩, .slice none 0 0, .bool false]
    simpa using h)
  have I0 := Lib.hid (hI.below B0.out)
  have S0 := Lib.hid (hIs.below B0.out)
  clear hn hs hI hIs hx0
  go_enter Tryz.func26, Tryz.ntmps26
  go_upto_region 1 with fail
  generalize hwa : (w.alloc (.cells #[.slice A n c, .int .i64 f] 27)).alloc (.cells #[.string ⟨#[]⟩, .slice none 0 0, .bool false] 62) = wa at *
  clear hwa
  have x0 := X0.out.cell 0 _ rfl
  have x1 := X0.out.cell 1 _ rfl
  have x2 := X0.out.lt
  have x3 := Y0.out.lt
  have hz0 := B0.out.size
  go_cut [7] (fun p wx => ∃ (jb : Nat) (b : Bool), p = .pointer (some ⟨jb, 0, none⟩) ∧ Hid (Blk wx jb 62 #[.string id, .slice none 0 0, .bool b]) ∧ Hid (Below wa.heap.size wa wx) ∧ wa.heap.size ≤ jb)
  case first =>
    have HB0 := Lib.hid (show Below wa.heap.size wa wa from Below.refl _ _)
    by_cases hm0 : m = 0
    · subst hm0
      have hd0 : decide (((0 : Nat) : Int) > 0) = false := by simp
      go_region
      all_goals
        go_wp2_with fail
        go_meet
        case rel => exact ⟨_, _, rfl, Lib.hid ((Blk.new wa 62 #[.string id, .slice none 0 0, .bool false])), Lib.hid (((Below.refl _ wa).alloc (Nat.le_refl _) _).drew), Nat.le_refl _⟩
    · obtain ⟨u, hu⟩ : ∃ u, lowZ (sumI s) (m : Int) = u := ⟨_, rfl⟩
      have hbd : (0 ≤ u.1 ∧ u.1 ≤ 2560) ∧ 1 ≤ u.2 ∧ u.2 ≤ 256 := by
        have hb := sumI_bd s S0.out.1
        have h1 := lowZ_says (sumI s) (show (0 : Int) < (m : Int) by omega)
        have h2 := lowZ_abs (M := 2560) (show (0 : Int) < (m : Int) by omega) hb.1 (by have := HS.out; omega)
        rw [hu] at h1 h2
        exact ⟨h2, by omega, by omega⟩
      have hd0 : decide ((m : Int) > 0) = true := by simp; omega
      have hd1 : (m : Int) > 0 := by omega
      have hd2 : 0 < m := by omega
      have hd3 : decide (0 < m) = true := by simpa using hd2
      obtain ⟨u1, u2⟩ := u
      obtain ⟨⟨hu0, hu1⟩, hu2, hu3⟩ := hbd
      simp only at hu0 hu1 hu2 hu3
      have hp1 : f * u2 ≤ 256000 := by
        have := Int.mul_le_mul_of_nonneg_right hf2 (show 0 ≤ u2 by omega); omega
      have hp2 : -256000 ≤ f * u2 := by
        have := Int.mul_le_mul_of_nonneg_right hf (show 0 ≤ u2 by omega); omega
      have HM := Lib.hid (show ∀ W, Below wa.heap.size wa W → Calls Tryz.prog 46 #[.slice As m cs] W fun e w' => e = .returned (.agg #[.int .i64 u1, .int .i64 u2]) ∧ Below wa.heap.size wa w' ∧ ∀ B t cs, Blk W B t cs → Blk w' B t cs from fun W h => by
        have hh := mean_walk As m cs s W HS.out (by omega) (by omega) (S0.out.below h)
        rw [hu] at hh
        exact hh.mono fun e w' ⟨he, hb⟩ => ⟨he, h.trans (hb.mono h.size), fun B t cs hB => hB.below hb hB.lt⟩)
      have HRE := Lib.hid (show ∀ W, Below wa.heap.size wa W → Calls Tryz.prog 45 #[.agg #[.int .i64 u1, .int .i64 u2], .int .i64 f] W fun e w' => e = .returned (.bool (decide (f * u2 ≤ 10 * u1))) ∧ Below wa.heap.size wa w' ∧ ∀ B t cs, Blk W B t cs → Blk w' B t cs from fun W h =>
        (reaches_any u1 u2 f W (by omega) (by omega) (by omega) (by omega)).mono fun e w' ⟨he, hb⟩ => ⟨he, h.trans (hb.mono h.size), fun B t cs hB => hB.below hb hB.lt⟩)
      generalize decide (f * u2 ≤ 10 * u1) = en at *
      clear hu hp1 hp2
      go_region_with (first
        | (go_at_call 46; refine (HM.out _ ?_).mono ?_; (first | exact HB0.out.drew | exact HB0.out | exact (HB0.out.alloc (Nat.le_refl _) _).drew | exact HB0.out.alloc (Nat.le_refl _) _); rintro e w5 ⟨rfl, hb5, hk5⟩; have HB5 := Lib.hid hb5; have x6 := (hb5.cell (p := ⟨w.heap.size, 1, none⟩) x2).trans x1; have x7 : w.heap.size < w5.heap.size := Nat.lt_of_lt_of_le x2 hb5.size; (try (have z5 := Lib.hid (hk5 wa.heap.size 62 #[.string ⟨#[]⟩, .slice none 0 0, .bool false] (Blk.new wa _ _)); have za := z5.out.cell 0 _ rfl; have zb := z5.out.cell 1 _ rfl; have zc := z5.out.cell 2 _ rfl; have zd := z5.out.frozen 0; have ze := z5.out.frozen 1; have zf := z5.out.frozen 2; have zl := z5.out.lt)); clear hb5 hk5)
        | (go_at_call 45; refine (HRE.out _ ?_).mono ?_; (first | exact HB5.out | exact HB5.out.drew | exact HB5.out.alloc HB5.out.size _ | exact (HB5.out.alloc HB5.out.size _).drew); rintro e w6 ⟨rfl, hb6, hk6⟩; have HB6 := Lib.hid hb6; (first | (have y6 := Lib.hid (hk6 _ _ _ z5.out)) | (have y6 := Lib.hid (hk6 w5.heap.size 62 #[.string ⟨#[]⟩, .slice none 0 0, .bool false] (Blk.new w5 _ _))) | skip); (try (have ya := y6.out.cell 0 _ rfl; have yb := y6.out.cell 1 _ rfl; have yc := y6.out.cell 2 _ rfl; have yd := y6.out.frozen 0; have ye := y6.out.frozen 1; have yf := y6.out.frozen 2; have yl := y6.out.lt)); clear hb6 hk6))
      all_goals
        go_wp2_with fail
        go_meet
        case rel =>
          first
            | exact ⟨_, _, rfl, Lib.hid (Blk.new w6 _ _), Lib.hid (HB6.out.alloc HB6.out.size _), HB6.out.size⟩
            | exact ⟨_, _, rfl, Lib.hid (((y6.out.set_ 0 _).set_ 1 _).set_ 2 _), Lib.hid (((HB6.out.setCell (p := ⟨w5.heap.size, 0, none⟩) HB5.out.size _).setCell (p := ⟨w5.heap.size, 1, none⟩) HB5.out.size _).setCell (p := ⟨w5.heap.size, 2, none⟩) HB5.out.size _), HB5.out.size⟩
            | exact ⟨_, _, rfl, Lib.hid (((y6.out.set_ 0 _).set_ 1 _).set_ 2 _), Lib.hid (((HB6.out.setCell (p := ⟨wa.heap.size, 0, none⟩) (Nat.le_refl _) _).setCell (p := ⟨wa.heap.size, 1, none⟩) (Nat.le_refl _) _).setCell (p := ⟨wa.heap.size, 2, none⟩) (Nat.le_refl _) _), Nat.le_refl _⟩
  case rest =>
    obtain ⟨jb, en, rfl, HBJ, HBW, hjb⟩ := hcut
    have I1 := Lib.hid (I0.out.below HBW.out)
    have S1 := Lib.hid (S0.out.below HBW.out)
    have X1 := Lib.hid (X0.out.below HBW.out X0.out.lt)
    have Y1 := Lib.hid (Y0.out.below HBW.out Y0.out.lt)
    have B1 := Lib.hid (B0.out.trans (HBW.out.mono hz0))
    have hIlt : ∀ b, A = some ⟨b, 0, none⟩ → 0 < zs.length → b < jb := fun b hb h0 => by
      obtain ⟨b', hb', hl, _⟩ := I0.out.2 h0
      rw [hb] at hb'; injection hb' with e; injection e with e; omega
    have HIL := Lib.hid hIlt
    have hSlt : ∀ b, As = some ⟨b, 0, none⟩ → 0 < s.length → b < jb := fun b hb h0 => by
      obtain ⟨b', hb', hl, _⟩ := S0.out.2 h0
      rw [hb] at hb'; injection hb' with e; injection e with e; omega
    have HSL := Lib.hid hSlt
    have hjl := HBJ.out.lt
    have J := Lib.hid (show JSt id zs s jb en wc 0 none 0 wc from ⟨HBJ.out, World.ownsRow_nil _ _ _ _, Below.refl _ _⟩)
    clear hIlt hSlt I0 S0 X0 Y0 B0 x0 x1 HBJ HBW
    have x0 := X1.out.cell 0 _ rfl
    have x4 := X1.out.lt
    obtain ⟨i0, hi0, hz0', hz1', hz2'⟩ := info_parts infoF
    have HI := Lib.hid hi0
    have Z0 := Lib.hid hz0'
    have Z1 := Lib.hid hz1'
    have Z2 := Lib.hid hz2'
    clear hi0 hz0' hz1' hz2'
    go_wp2_with fail
    go_loopw [25] (fun i wr => ∃ (ii : Nat) (A' : Option Addr) (c' : Nat), ii ≤ n ∧ i = .int .i64 ii ∧ Hid (JSt id zs s jb en wc ii A' c' wr)) (fun i _ => n - (intOf i).toNat)
    case atStart => exact ⟨0, none, 0, Nat.zero_le _, rfl, J⟩
    case round =>
      clear J
      obtain ⟨ii, A', c', hii, rfl, J0⟩ := hrel
      by_cases hlt : ii < n
      · have hil : ii < zs.length := by rw [HN.out]; exact hlt
        obtain ⟨b, hA, hbl, hcl⟩ := I1.out.2 (by omega)
        have hbj := HIL.out b hA (by omega)
        subst hA
        have c0 := (J0.out.2.2.cell (p := ⟨b, ii, none⟩) hbj).trans (hcl ii hil)
        have HNX := Lib.hid (show (zs.take (ii + 1)).map (fun k => frP k s) = (zs.take ii).map (fun k => frP k s) ++ [frP zs[ii] s] by rw [take_snocI hil, List.map_append]; rfl)
        generalize zs[ii] = k at *
        obtain ⟨v, hv⟩ : ∃ v, frP k s = v := ⟨_, rfl⟩
        rw [hv] at HNX
        obtain ⟨v1, v2⟩ := v
        have y0 := J0.out.1.cell 1 _ rfl
        have y1 := J0.out.1.frozen 1
        have y2 := J0.out.1.lt
        have S2 : Hid (IL wr As s) := Lib.hid ⟨S1.out.1, fun h0 => by
          obtain ⟨b2, e, hl, hc⟩ := S1.out.2 h0
          have hb2 := HSL.out b2 e h0
          exact ⟨b2, e, Nat.lt_of_lt_of_le hl J0.out.2.2.size, fun i hi => (J0.out.2.2.cell (p := ⟨b2, i, none⟩) hb2).trans (hc i hi)⟩⟩
        have HVA := Lib.hid (show ∀ W, Below wr.heap.size wr W → Calls Tryz.prog 47 #[.int .i64 k, .slice As m cs] W fun e w' => e = .returned (.agg #[.int .i64 v1, .int .i64 v2]) ∧ Below wr.heap.size wr w' from fun W h =>
          (value_walk k As m cs s W HS.out hm (S2.out.below h) _ hv).mono fun e w' ⟨he, hb⟩ => ⟨he, h.trans (hb.mono h.size)⟩)
        have HB0 := Lib.hid (show Below wr.heap.size wr wr from Below.refl _ _)
        have a0 : (0 : Int) ≤ (ii : Int) := by omega
        have a1 : (ii : Int) < (n : Int) := by omega
        have hjc : jb ≤ wc.heap.size := by omega
        clear hcl hv
        go_upto_region 5 with fail
        go_region_law ((first
          | (go_simp; go_at_call 47
             refine (HVA.out _ ?_).mono ?_
             · first
                 | exact HB0.out.drew
                 | exact HB0.out
             rintro e w5 ⟨rfl, hb5⟩
             have J5 := Lib.hid (jst_below J0.out hb5)
             have z0 := J5.out.1.cell 1 _ rfl
             have z1 := J5.out.1.frozen 1
             have z2 := J5.out.1.lt
             clear hb5)
          | (refine step_append_lies _ (by rfl) _ _ _ (by rfl) (jb + 1) 71 i0 _ 2 16 Tryz.underlying60 HI.out Z0.out Z1.out Z2.out rfl (by omega) (.slice A' ii c') ii (flatF ((zs.take ii).map fun k => frP k s)) (by rfl) (World.ownsRow.alloc J5.out.2.1 _)
                 ⟨w5.heap.size, 0, none⟩ 1 1 [.int .i64 v1, .int .i64 v2] (by rfl) (by rfl) (World.news_of_block (cs := #[.int .i64 v1, .int .i64 v2]) (t := 71) (fr := (0, 0)) (new_at (by simp))) (by simp [Value.oneCell']) (by omega) (by unfold maxLen; omega) (by omega) (by simp; omega) (w5.heap.size + 1) (by simp) ?_
             intro gg7 cap7 w7 hown hgrow hat hgl
             have J7 := Lib.hid (jst_grow J5.out hjc hown hgrow)
             have q0 := J7.out.1.cell 1 _ rfl
             have q1 := J7.out.1.frozen 1
             have q2 := J7.out.1.lt
             clear hown hgrow hat hgl)))
        all_goals
          have J8 := Lib.hid (jst_store J7.out HNX.out)
          clear y0 y1 y2 z0 z1 z2 q0 q1 q2 J7 J5 J0
          go_wp2_with fail
          go_roundw
          case rel => exact ⟨ii + 1, _, _, by omega, by go_num, J8⟩
          case measure => simp [intOf]; omega
      · have hkn : ii = n := by omega
        subst hkn
        have YR := Lib.hid (Y1.out.below J0.out.2.2 (by omega))
        have y0 := J0.out.1.cell 0 _ rfl
        have y1 := J0.out.1.cell 1 _ rfl
        have y2 := J0.out.1.cell 2 _ rfl
        have y3 := J0.out.1.lt
        have r0 := YR.out.cell 0 _ rfl
        have r1 := YR.out.cell 1 _ rfl
        have r2 := YR.out.cell 2 _ rfl
        have r3 := YR.out.frozen 0
        have r4 := YR.out.frozen 1
        have r5 := YR.out.frozen 2
        have r6 := YR.out.lt
        have FIN := Lib.hid (jst_fin (n := ii) HN.out J0.out B1.out (show w.heap.size + 1 < jb by omega))
        go_wp2_with fail
        exact bodyPost_ret (v := .agg #[.string id, .slice A' ii c', .bool en]) (by simp only [results, Tryz.results26]; go_simp) rfl FIN.out
end Go.Proofs.YtmihbfmlnfhgcadGreatDoor.Cal
