/-
  MARKS, the seventh chapter's way: discuss.scoresOf: the scores of each paper, sorted, in a map of slices.
-/
import Derived.Test.YtmihbfmlnfhgcadGreatDoorMapS
import Derived.Test.YtmihbfmlnfhgcadGreatDoorDisC
import Derived.Deep.RegionLaw
import Derived.Deep.AppendLies
import Derived.Deep.CutBlock
import Derived.Deep.DeepCutAuto
namespace Go.Proofs.YtmihbfmlnfhgcadGreatDoor.Cal
open Go.ChangeShapes Go.WideShapes Go.ChangeAt Go.RowKit Stm Key
open Go.Maps (Keyed string_keyed)
set_option linter.unusedVariables false

theorem FS.congr {w : World} {base : Nat} {V : ByteArray → Option Value} {X Y : ByteArray → List Int} (h : FS w base V X) (e : ∀ s v, V s = some v → X s = Y s) : FS w base V Y :=
  ⟨fun s v hv => by rw [← e s v hv]; exact h.1 s v hv, h.2⟩
/-- A paper's slice so far. -/
theorem fs_form {w : World} {base : Nat} {V : ByteArray → Option Value} {X : ByteArray → List Int} {s : ByteArray} (h : FS w base V X) (hx : V s = none → X s = []) :
    ∃ (A : Option Addr) (c : Nat), (V s).getD (.slice none 0 0) = .slice A (X s).length c ∧ w.ownsRow base 3 1 (.slice A (X s).length c) (X s).length ((X s).map (Value.int .i64)) ∧
      (∀ g, (Value.slice A (X s).length c).ownBlock = some g → base ≤ g ∧ g < w.heap.size) ∧ (V s = none → (Value.slice A (X s).length c).ownBlock = none) ∧ (V s = some (.slice A (X s).length c) ∨ V s = none) := by
  cases hv : V s with
  | none =>
    rw [hx hv]
    exact ⟨none, 0, rfl, World.ownsRow_nil _ _ _ _, fun g hg => (by cases hg), fun _ => rfl, Or.inr rfl⟩
  | some v =>
    obtain ⟨h1, h2⟩ := h.1 s v hv
    rcases h1.2 with ⟨rfl, h0⟩ | ⟨g, cap, cur, rfl, hb, hh, _⟩
    · exact absurd rfl h2
    · exact ⟨_, _, rfl, h1, fun g' hg => h1.lt g' hg, fun e => (by cases e), Or.inl rfl⟩
/-- One step: a paper's slice grows, and is put back. -/
def StepD (w1 : World) (k c : Nat) (l : List Mk) (V : ByteArray → Option Value) (xp : ByteArray) (v' : Value) (w8 : World) : Prop :=
  MS w8 w1.heap.size (c + 1) (updV V xp v') ∧ FS w8 (w1.heap.size + 1) (updV V xp v') (fun s => scB (l.take (k + 1)) s) ∧ Below w1.heap.size w1 w8
theorem dis_step {w1 we w7 : World} {k c m gg cap' M2 H : Nat} {RA : Option Addr} {cR : Nat} {zs : List Int} {l : List Mk} {V : ByteArray → Option Value} {xp xh : ByteArray} {xs : Int}
    (hown : w7.ownsRow (w1.heap.size + 1) 3 1 (.slice (some ⟨gg, 0, none⟩) (m + 1) cap') (m + 1) (zs.map (Value.int .i64) ++ [.int .i64 xs])) (hgrow : we.grownBy w7 (Value.slice RA m cR).ownBlock) (hat : (Value.slice RA m cR).ownBlock = some gg ∨ gg = H)
    (SE : MS we w1.heap.size c V) (FE : FS we (w1.heap.size + 1) V (fun s => scB (l.take k) s)) (XE : Blk we M2 51 #[.string xp, .string xh, .int .i64 xs]) (BE : Below w1.heap.size w1 we)
    (HBK : ∀ g, (Value.slice RA m cR).ownBlock = some g → w1.heap.size + 1 ≤ g ∧ g < M2) (HVN : V xp = none → (Value.slice RA m cR).ownBlock = none) (HVS : V xp = some (.slice RA m cR) ∨ V xp = none)
    (HKEY : keyOf Tryz.prog 9 (.string xp) = some (.string xp.data.toList)) (HZS : scB (l.take k) xp = zs) (HMm : zs.length = m) (HNX : ∀ p, scB (l.take (k + 1)) p = scB (l.take k) p ++ if eqB xp p = true then [xs] else []) (hH : H = we.heap.size) (hc : c < maxLen) (hM2 : w1.heap.size ≤ M2) :
    ∃ w8, (Instr.mapUpdate 56 (.map (some w1.heap.size)) (.string xp) (.slice (some ⟨gg, 0, none⟩) (m + 1) cap')).run Tryz.prog w7 = .ok () w8 ∧ Hid (StepD w1 k c l V xp (.slice (some ⟨gg, 0, none⟩) (m + 1) cap') w8) ∧
      w7.cell? ⟨M2, 0, none⟩ = some (.string xp) ∧ w7.cell? ⟨M2, 1, none⟩ = some (.string xh) ∧ w7.cell? ⟨M2, 2, none⟩ = some (.int .i64 xs) ∧ M2 < w7.heap.size := by
  have hneM : some w1.heap.size ≠ (Value.slice RA m cR).ownBlock := fun e => by have := (HBK _ e.symm).1; omega
  obtain ⟨D7, hD7, hf7⟩ := SE.gr hgrow hneM
  obtain ⟨w8, hrun, hown8, hgrow8⟩ := hD7.update keyLaw Tryz.underlying56 hc HKEY (val := .slice (some ⟨gg, 0, none⟩) (m + 1) cap') (encS_head rfl)
  have X7 : Blk w7 M2 51 #[.string xp, .string xh, .int .i64 xs] := (hgrow.block _ XE.lt (fun e => by have := (HBK _ e.symm).2; omega)).trans XE
  have hys : zs.map (Value.int .i64) ++ [.int .i64 xs] = (scB (l.take (k + 1)) xp).map (Value.int .i64) := by
    rw [HNX xp, if_pos (eqB_self _), List.map_append, HZS]; rfl
  have hyl : (scB (l.take (k + 1)) xp).length = m + 1 := by rw [HNX xp, if_pos (eqB_self _), List.length_append, HZS, HMm]; rfl
  rw [hys, ← hyl] at hown
  have hb : (Value.slice (some ⟨gg, 0, none⟩) (m + 1) cap').ownBlock = some gg := rfl
  have F7 := FE.turn (s := xp) (v' := .slice (some ⟨gg, 0, none⟩) (m + 1) cap') HVS hgrow HVN (by rw [hyl] at hown ⊢; exact hown) (by rw [hb]; simp) (by
    rcases hat with h | h
    · exact Or.inl (by rw [h, hb])
    · exact Or.inr ⟨gg, hb, by rw [h, hH]; exact Nat.le_refl _⟩)
  have F8 := F7.kept hgrow8 (fun s v hv => fun e => by
    have := ((F7.1 s v hv).1.lt _ e).1
    omega)
  refine ⟨w8, hrun, Lib.hid ⟨ms_put hD7 hf7 rfl hown8, F8.congr (fun s v _ => ?_), ?_⟩, X7.cell 0 _ rfl, X7.cell 1 _ rfl, X7.cell 2 _ rfl, X7.lt⟩
  · show (if eqB xp s = true then scB (l.take (k + 1)) xp else scB (l.take k) s) = scB (l.take (k + 1)) s
    by_cases he : eqB xp s = true
    · rw [if_pos he, (eqB_iff _ _).1 he]
    · rw [if_neg he, HNX s, if_neg he, List.append_nil]
  · exact (BE.grown hgrow BE.size (fun j hj => by have := (HBK _ hj).1; omega)).grown hgrow8 (Nat.le_trans BE.size hgrow.size) (fun j hj => by cases hj; exact Nat.le_refl _)
theorem isd_step {l : List Mk} {k : Nat} {V : ByteArray → Option Value} {xp : ByteArray} {v' : Value} {xs : Int} (h : ∀ s, (V s).isSome = decide (0 < (scB (l.take k) s).length)) (hn : ∀ p, scB (l.take (k + 1)) p = scB (l.take k) p ++ if eqB xp p = true then [xs] else []) :
    ∀ s, (updV V xp v' s).isSome = decide (0 < (scB (l.take (k + 1)) s).length) := fun s => by
  unfold updV
  rw [hn s]
  by_cases he : eqB xp s = true
  · rw [if_pos he, if_pos he]; simp
  · rw [if_neg he, if_neg he, List.append_nil]; exact h s
theorem fs_sorted {w w' : World} {base : Nat} {V : ByteArray → Option Value} {l : List Mk} {left : Lit → Bool} {x : ByteArray} {v : Value} {zs : List Int} (h : FS w base V (fun s => if left (.string s.data.toList) = true then scB l s else srtI (scB l s)))
    (hu : V x = some v) (hz : scB l x = zs) (hg : w.grownBy w' v.ownBlock) (ho : w'.ownsRow base 3 1 v (srtI zs).length ((srtI zs).map (Value.int .i64))) (hn : v.ownBlock ≠ none) :
    FS w' base V (fun s => if (left (.string s.data.toList) && !(Lit.string s.data.toList).sameKey (.string x.data.toList)) = true then scB l s else srtI (scB l s)) := by
  have h3 := h.turn (s := x) (v := v) (v' := v) (ys := srtI zs) (Or.inl hu) hg (fun e => by rw [hu] at e; cases e) ho hn (Or.inl rfl)
  have hV : updV V x v = V := funext fun t => by
    unfold updV
    by_cases he : eqB x t = true
    · rw [if_pos he, ← (eqB_iff _ _).1 he, hu]
    · rw [if_neg he]
  rw [hV] at h3
  refine h3.congr (fun s u _ => ?_)
  by_cases he : eqB x s = true
  · obtain rfl := (eqB_iff _ _).1 he
    simp [Lit.sameKey, eqB_self, hz]
  · have hne : s ≠ x := fun e => he ((eqB_iff _ _).2 e.symm)
    have : (Lit.string s.data.toList).sameKey (.string x.data.toList) = false := by
      simp only [Lit.sameKey, beq_eq_false_iff_ne, ne_eq]
      exact fun e => hne (ByteArray.ext (Array.toList_inj.1 e))
    simp only [this, if_neg he, Bool.not_false, Bool.and_true]
/-- What scoresOf hands back. -/
def ScoRet (r : Int) (l : List Mk) (w : World) (e : Ending) (w' : World) : Prop := Below w.heap.size w w' ∧ ((r ≠ 0 ∧ e = .returned (.tuple #[.map none, .int .i64 r])) ∨
  (r = 0 ∧ ∃ (M c C : Nat) (V : ByteArray → Option Value), e = .returned (.tuple #[.map (some M), .int .i64 0]) ∧ w.heap.size ≤ M ∧ w.heap.size ≤ C ∧ MS w' M c V ∧ FS w' C V (fun s => srtI (scB l s)) ∧ ∀ s, (V s).isSome = decide (0 < (scB l s).length)))
set_option maxRecDepth 100000 in
set_option maxHeartbeats 8000000 in
theorem scoresofD_walk (A : Option Addr) (n cap : Nat) (l : List Mk) (w : World) (hn : l.length = n) (hn2 : n ≤ 256) (hM : ML w A l) (r : Int) (hr : Hid (chkO ⟨#[]⟩ ⟨#[]⟩ l = r)) :
    Calls Tryz.prog 22 #[.slice A n cap] w (ScoRet r l w) := by
  have HN := Lib.hid hn
  have HM := Lib.hid hM
  have HCK := Lib.hid (checkmarksO_walk A n cap l w hn (by omega) hM r hr)
  clear hn hM
  go_enter Tryz.func22, Tryz.ntmps22
  go_wp2_with fail
  refine (HCK.out).mono ?_; rintro e w1 ⟨rfl, hb1⟩
  have B1 := Lib.hid hb1
  have M1 := Lib.hid (HM.out.below hb1)
  have hz1 := hb1.size
  clear hb1 HCK HM
  by_cases hr0 : r = 0
  rotate_left
  · have H0 := Lib.hid hr0
    have e1 : (r != 0) = true := by simpa using hr0
    clear hr0
    go_wp2_with fail
    go_ret2
    exact ⟨B1.out, Or.inl ⟨H0.out, rfl⟩⟩
  · subst hr0
    have S0 := Lib.hid (ms_new w1)
    have B2 := Lib.hid (B1.out.alloc hz1 (.map #[] 0))
    obtain ⟨i0, hi0, hz0, hz1', hz2'⟩ := info_parts infoI1
    have HI := Lib.hid hi0
    have Z0 := Lib.hid hz0
    have Z1 := Lib.hid hz1'
    have Z2 := Lib.hid hz2'
    clear hi0 hz0 hz1' hz2'
    have hmm : ∀ W : World, (Instr.makeMap 56 none).run Tryz.prog W = .ok (.map (some W.heap.size)) (W.alloc (.map #[] 0)) := fun W => by
      simp [Instr.makeMap, Result.andThen]
    go_wp2_with fail
    clear hmm
    go_loopw [18] (fun i wr => ∃ (k c : Nat) (V : ByteArray → Option Value), k ≤ n ∧ i = .int .i64 k ∧ c ≤ k ∧ Hid (MS wr w1.heap.size c V) ∧ Hid (FS wr (w1.heap.size + 1) V (fun s => scB (l.take k) s)) ∧ Hid (∀ s, (V s).isSome = decide (0 < (scB (l.take k) s).length)) ∧ Hid (Below w1.heap.size w1 wr)) (fun i _ => n - (intOf i).toNat)
    case atStart => exact ⟨0, 0, fun _ => none, Nat.zero_le _, rfl, Nat.le_refl _, S0, Lib.hid ⟨fun s v h => (by cases h), fun s t v u h => (by cases h)⟩, Lib.hid (fun _ => rfl), Lib.hid ((Below.refl _ _).alloc (Nat.le_refl _) _)⟩
    case round =>
      clear S0 B2
      obtain ⟨k, c, V, hk, rfl, hc, HMS, HFS, HIS, HB⟩ := hrel
      have hzr := HB.out.size
      have hml := HMS.out.lt
      by_cases hlt : k < n
      · have hkl : k < l.length := by rw [HN.out]; exact hlt
        obtain ⟨g, hA, hgW, hcl⟩ := M1.out.2 (by omega)
        subst hA
        obtain ⟨d0, d1, d2⟩ := hcl k hkl
        have c0 := (HB.out.cell (p := ⟨g, k * 3, none⟩) hgW).trans d0
        have c1 := (HB.out.cell (p := ⟨g, k * 3 + 1, none⟩) hgW).trans d1
        have c2 := (HB.out.cell (p := ⟨g, k * 3 + 2, none⟩) hgW).trans d2
        have hx := M1.out.1 _ (List.getElem_mem hkl)
        have HNX := Lib.hid (fun p => scB_next (p := p) hkl)
        have hlen := scB_len (l.take k) l[k].p
        rw [List.length_take] at hlen
        obtain ⟨RA, cR, hv, hown, hblk, hvn, hvs⟩ := fs_form (s := l[k].p) HFS.out (fun e => by
          have := HIS.out l[k].p
          rw [e] at this
          have h2 : ¬ 0 < (scB (l.take k) l[k].p).length := by simpa using this.symm
          exact List.length_eq_zero_iff.1 (by omega))
        clear hcl d0 d1 d2
        generalize l[k] = x at *
        obtain ⟨xp, xh, xs⟩ := x
        obtain ⟨hx0, hx1, hx2, hx3⟩ := hx
        simp only at c0 c1 c2 hx0 hx1 hx2 hx3 HNX hlen hv hown hblk hvn hvs
        obtain ⟨zs, hzs⟩ : ∃ zs, scB (l.take k) xp = zs := ⟨_, rfl⟩
        rw [hzs] at hlen hv hown hblk hvn hvs
        obtain ⟨m, hm⟩ : ∃ m, zs.length = m := ⟨_, rfl⟩
        rw [hm] at hlen hv hown hblk hvn hvs
        have b0 : (0 : Int) ≤ (k : Int) := by omega
        have b1 : (k : Int) < (n : Int) := by omega
        have hm2 : m ≤ 256 := by omega
        have HZS := Lib.hid hzs
        have HMm := Lib.hid hm
        have HV := Lib.hid hv
        have OW := Lib.hid hown
        have HBK := Lib.hid hblk
        have HVN := Lib.hid hvn
        have HVS := Lib.hid hvs
        clear hzs hm hv hown hblk hvn hvs hlen
        have HSA := Lib.hid (HMS.out.below ((Below.refl wr.heap.size wr).alloc (Nat.le_refl _) (.cells #[.string xp, .string xh, .int .i64 xs] 51)))
        have HFA := Lib.hid (HFS.out.below ((Below.refl wr.heap.size wr).alloc (Nat.le_refl _) (.cells #[.string xp, .string xh, .int .i64 xs] 51)))
        have OWA := Lib.hid (OW.out.alloc (.cells #[.string xp, .string xh, .int .i64 xs] 51))
        have BA := Lib.hid (HB.out.alloc hzr (.cells #[.string xp, .string xh, .int .i64 xs] 51))
        have XA := Lib.hid (Blk.new wr 51 #[.string xp, .string xh, .int .i64 xs])
        have HKEY := Lib.hid (show keyOf Tryz.prog 9 (.string xp) = some (.string xp.data.toList) from Go.WideMaps.keyOf_string_mk Tryz.underlying9 (by unfold maxLen; omega))
        go_upto_region 8 with fail
        generalize (wr.alloc (.cells #[.string xp, .string xh, .int .i64 xs] 51)) = wa at *
        have hxw : wr.heap.size < wa.heap.size := XA.out.lt
        have hza := BA.out.size
        have x0 : wa.cell? ⟨wr.heap.size, 0, none⟩ = some (.string xp) := XA.out.cell 0 _ rfl
        have x1 : wa.cell? ⟨wr.heap.size, 1, none⟩ = some (.string xh) := XA.out.cell 1 _ rfl
        have x2 : wa.cell? ⟨wr.heap.size, 2, none⟩ = some (.int .i64 xs) := XA.out.cell 2 _ rfl
        have SE := Lib.hid (show MS (wa.alloc (.cells #[.int .i64 xs] 3)).drew w1.heap.size c V from (HSA.out.below ((Below.refl wa.heap.size wa).alloc (Nat.le_refl _) (.cells #[.int .i64 xs] 3))).below (Below.drew (Below.refl _ _)))
        have FE := Lib.hid (show FS (wa.alloc (.cells #[.int .i64 xs] 3)).drew (w1.heap.size + 1) V (fun s => scB (l.take k) s) from (HFA.out.below ((Below.refl wa.heap.size wa).alloc (Nat.le_refl _) (.cells #[.int .i64 xs] 3))).below (Below.drew (Below.refl _ _)))
        have XE := Lib.hid (show Blk (wa.alloc (.cells #[.int .i64 xs] 3)).drew wr.heap.size 51 #[.string xp, .string xh, .int .i64 xs] from XA.out.alloc _)
        have BE := Lib.hid (show Below w1.heap.size w1 (wa.alloc (.cells #[.int .i64 xs] 3)).drew from Below.drew (BA.out.alloc hza _))
        have OE := Lib.hid (show ((wa.alloc (.cells #[.int .i64 xs] 3)).drew).ownsRow (w1.heap.size + 1) 3 1 (.slice RA m cR) m (zs.map (Value.int .i64)) from OWA.out.alloc _)
        have l2 : (Instr.lookup 56 (.map (some w1.heap.size)) (.string xp) false).run Tryz.prog (wa.alloc (.cells #[.int .i64 xs] 3)).drew = .ok (.slice RA m cR) (wa.alloc (.cells #[.int .i64 xs] 3)).drew := by
          rw [ms_look SE.out hx0, HV.out]
        have l1 : (Instr.lookup 56 (.map (some w1.heap.size)) (.string xp) false).run Tryz.prog wa.drew = .ok (.slice RA m cR) wa.drew := by
          rw [ms_look (show MS wa.drew w1.heap.size c V from HSA.out.below (Below.drew (Below.refl _ _))) hx0, HV.out]
        clear HSA HFA XA BA OWA
        go_region_law ((first
          | (refine step_append_lies _ (by rfl) _ _ _ (by rfl) (w1.heap.size + 1) 3 i0 _ 1 8 Tryz.underlying22 HI.out Z0.out Z1.out Z2.out rfl (by omega) (.slice RA m cR) m (zs.map (Value.int .i64)) (by rfl) OE.out
               ⟨wa.heap.size, 0, none⟩ 1 1 [.int .i64 xs] (by rfl) (by rfl) (World.news_of_block (cs := #[.int .i64 xs]) (t := 3) (fr := (0, 0)) (new_at (by simp))) (by simp [Value.oneCell']) (by omega) (by unfold maxLen; omega) (by omega) (by simp; omega) (wa.heap.size + 1) (by simp) ?_
             intro gg7 cap7 w7 hown hgrow hat hgl
             obtain ⟨w8, hrun8, HJ8, y0, y1, y2, ly⟩ := dis_step hown hgrow hat SE.out FE.out XE.out BE.out HBK.out HVN.out HVS.out HKEY.out HZS.out HMm.out (fun p => HNX.out p) (by simp) (by unfold maxLen; omega) hzr
             clear hown hgrow hat hgl)))
        all_goals
          clear SE FE XE BE OE l1 l2 hrun8 y0 y1 y2 x0 x1 x2 b0 b1
          have J1 := HJ8.out.1
          have J2 := HJ8.out.2.1
          have J3 := HJ8.out.2.2
          have IS8 := Lib.hid (isd_step (v' := .slice (some ⟨gg7, 0, none⟩) (m + 1) cap7) (xs := xs) HIS.out (fun p => HNX.out p))
          go_wp2_with fail
          go_roundw
          case rel => exact ⟨k + 1, c + 1, _, by omega, by go_num, by omega, Lib.hid J1, Lib.hid J2, IS8, Lib.hid J3⟩
          case measure => simp [intOf]; omega
      · obtain rfl : k = n := by omega
        have hkn : ¬ ((k : Int) < (k : Int)) := by omega
        have hkn2 : decide ((k : Int) < (k : Int)) = false := by simp
        have htk : l.take k = l := List.take_of_length_le (by rw [HN.out]; exact Nat.le_refl _)
        rw [htk] at HFS HIS
        obtain ⟨D, hown, hf⟩ := HMS.out
        have HO := Lib.hid hown
        have HF := Lib.hid hf
        have FB := Lib.hid (fun (s : ByteArray) (v : Value) (hv : V s = some v) (g : Nat) (hg : v.ownBlock = some g) => ((HFS.out.1 s v hv).1.lt g hg))
        clear hown hf HMS hkn htk hml
        go_wp2_with (at_range; refine wpList_range_own _ rfl _ 56 rfl 9 22 keyLaw Tryz.underlying56 encS w1.heap.size c D rfl HO.out ?_; intro w0 hrg0 hg0 hs0; (have RG0 := Lib.hid hrg0); (have G0 := Lib.hid hg0); clear hrg0 hg0 hs0)
        go_frame
        have F0 := Lib.hid (HFS.out.kept G0.out (fun s v hv => (HFS.out.1 s v hv).2))
        have B0 := Lib.hid (HB.out.grown G0.out hzr (fun j hj => by cases hj))
        clear HFS HB G0
        obtain ⟨H, hH⟩ : ∃ H, wr.heap.size = H := ⟨_, rfl⟩
        rw [hH] at RG0 FB ⊢
        have hHz : w1.heap.size ≤ H := by rw [← hH]; exact hzr
        clear hH
        go_loopw [] (fun wq => ∃ (left : Lit → Bool) (cnt : Nat), Hid (wq.ranges Tryz.prog 9 encS w1.heap.size H c D left cnt) ∧ Hid (∀ z, left z = true → Maps.has D z = true) ∧
          Hid (FS wq (w1.heap.size + 1) V (fun s => if left (.string s.data.toList) = true then scB l s else srtI (scB l s))) ∧ Hid (Below w1.heap.size w1 wq)) (fun wq => wq.rangeLeft w1.heap.size H)
        case atStart =>
          exact ⟨_, _, RG0, Lib.hid (fun _ h => h), Lib.hid (F0.out.congr (fun s v hv => by
            have : Maps.has D (.string s.data.toList) = true := by rw [(HF.out s).2.1, hv]; rfl
            rw [if_pos this])), B0⟩
        case round =>
          clear RG0 F0 B0 HO
          obtain ⟨left, cnt, HRG, HLS, HFQ, HBQ⟩ := hrel
          go_wp2_with (at_next; refine wpList_next_ss _ rfl _ rfl w1.heap.size H c D left cnt rfl HRG.out ?_ ?_)
          · intro hc0 hl0
            have FD := Lib.hid (HFQ.out.congr (Y := fun s => srtI (scB l s)) (fun s v _ => by rw [hl0]; rfl))
            have OW := Lib.hid HRG.out.owns
            clear HRG HLS HFQ hc0 hl0
            go_wp2_with fail
            go_ret2
            exact ⟨B1.out.trans (HBQ.out.mono B1.out.size), Or.inr ⟨rfl, w1.heap.size, c, w1.heap.size + 1, V, rfl, hz1, by omega, ⟨D, OW.out, HF.out⟩, FD.out, HIS.out⟩⟩
          · intro x v w5 cnt1 hxs hhd hlx hxat hrg1 hlt hg1 hs1 hen
            have hhas := HLS.out _ hlx
            rw [(HF.out x).2.1] at hhas
            obtain ⟨u, hu⟩ := Option.isSome_iff_exists.1 hhas
            have h2 : D.atKey (.string x.data.toList) .nil = encD u := by have h3 := (HF.out x).1 .nil; rw [hu] at h3; exact h3
            obtain rfl : v = u := encD_inj hhd ((HF.out x).2.2 u hu) ((hxat .nil).symm.trans h2)
            obtain ⟨o1, o2⟩ := HFQ.out.1 x v hu
            have ho : wr.ownsRow (w1.heap.size + 1) 3 1 v (scB l x).length ((scB l x).map (Value.int .i64)) := by simpa only [hlx, if_true] using o1
            have hfb := FB.out x v hu
            clear o1 h2 hhas hxat
            have F2 := Lib.hid (HFQ.out.kept hg1 (fun s v hv => fun e => by have := (FB.out s v hv _ e).2; omega))
            have ho2 := ho.kept hg1 (Or.inr (fun e => by have := (hfb _ e).2; omega))
            have B2 := Lib.hid (HBQ.out.grown hg1 HBQ.out.size (fun j hj => by have := Option.some.inj hj; omega))
            obtain ⟨gA, cP, rfl, hgb⟩ : ∃ gA cP, v = .slice (some ⟨gA, 0, none⟩) (scB l x).length cP ∧ w1.heap.size + 1 ≤ gA ∧ gA < H := by
              rcases ho.2 with ⟨rfl, h0⟩ | ⟨g, cap, cur, rfl, hb, hh, _⟩
              · exact absurd rfl o2
              · exact ⟨g, cap, rfl, hfb g rfl⟩
            obtain ⟨zs, hzs⟩ : ∃ zs, scB l x = zs := ⟨_, rfl⟩
            have hzl := scB_len l x
            rw [hzs] at ho2 ho hu o2 hen hhd hzl
            obtain ⟨m, hm⟩ : ∃ m, zs.length = m := ⟨_, rfl⟩
            rw [hm] at ho2 ho hu o2 hen hhd hzl
            have HCS := Lib.hid (sortsI_grown (w1.heap.size + 1) m cP (some ⟨gA, 0, none⟩) zs w5 hm (by have := HN.out; omega) ho2)
            have HZ := Lib.hid hzs
            have HM := Lib.hid hm
            have HU := Lib.hid hu
            have O2 := Lib.hid o2
            have RG1 := Lib.hid hrg1
            have HLT := Lib.hid (show cnt1 < cnt from hlt)
            have HLX := Lib.hid hlx
            clear hzs hm hu o2 hrg1 hlt hlx hfb ho ho2 hhd hg1 hs1 hzl
            go_wp2_with fail
            refine (HCS.out).mono ?_; rintro e w3 ⟨rfl, ho3, hg3⟩
            have LS1 := Lib.hid (show ∀ z, (fun z => left z && !z.sameKey (.string x.data.toList)) z = true → Maps.has D z = true from fun z hz => HLS.out z (by simp only [Bool.and_eq_true] at hz; exact hz.1))
            have RG3 := Lib.hid (RG1.out.kept hg3 (fun e => by have : w1.heap.size = gA := Option.some.inj e; omega) (fun e => by have : H = gA := Option.some.inj e; omega))
            have B3 := Lib.hid (B2.out.grown hg3 B2.out.size (fun j hj => by have : gA = j := Option.some.inj hj; omega))
            have F3 := Lib.hid (fs_sorted F2.out HU.out HZ.out hg3 (by rw [(srtI_perm zs).length_eq, HM.out]; exact ho3) O2.out)
            clear ho3 hg3 HCS hen
            go_wp2_with fail
            go_roundw
            case rel => exact ⟨_, cnt1, RG3, LS1, F3, B3⟩
            case measure => rw [RG3.out.left_eq, HRG.out.left_eq]; exact HLT.out
end Go.Proofs.YtmihbfmlnfhgcadGreatDoor.Cal
