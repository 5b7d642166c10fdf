/-
  THE CONTRACTS OF newForest, CheckForest AND twoOf.
-/
import Derived.Test.YtnjigaklkalebaaDoorTopPar
namespace Go.Proofs.YtnjigaklkalebaaDoor.For
open Go.ChangeShapes Go.WideShapes Go.ChangeAt Go.RowKit Stm Key
set_option linter.unusedVariables false

def depthI (P : List Int) (i : Nat) : Int := ((way P i).length : Nat)
def deps (l : List Tp) : List Int := (List.range l.length).map (depthI (pars l))
/-- A forest as newForest lays it. -/
def FM (w : World) (F : Nat) (A : Option Addr) (n cap : Nat) (l : List Tp) : Prop := ∃ (M g : Nat) (D : Option Addr) (cd : Nat),
  Blk w F 68 #[.slice A n cap, .map (some M), .slice (some ⟨g, 0, none⟩) n n, .slice D n cd] ∧ NM w M l ∧ IL w (some ⟨g, 0, none⟩) (pars l) ∧ IL w D (deps l)
theorem FM.below {w w' : World} {F : Nat} {A : Option Addr} {n cap : Nat} {l : List Tp} (h : FM w F A n cap l) (hb : Below w.heap.size w w') : FM w' F A n cap l := by
  obtain ⟨M, g, D, cd, h1, h2, h3, h4⟩ := h
  exact ⟨M, g, D, cd, h1.below hb h1.lt, h2.below hb, h3.below hb, h4.below hb⟩
theorem FM.lt {w : World} {F : Nat} {A : Option Addr} {n cap : Nat} {l : List Tp} (h : FM w F A n cap l) : F < w.heap.size := by
  obtain ⟨M, g, D, cd, h1, h2, h3, h4⟩ := h; exact h1.lt
theorem forestE_first {l : List Tp} {n : Nat} (hn : l.length = n) {r1 : Int} (h : (if 100 < n then 2 else topicsE ⟨#[]⟩ l) = r1) (h0 : r1 ≠ 0) : forestE l = r1 := by
  unfold forestE
  rw [hn]
  by_cases h4 : 100 < n
  · rw [if_pos h4] at h ⊢; exact h
  · rw [if_neg h4] at h ⊢
    rw [if_pos (by rw [h]; exact h0)]; exact h
theorem forestE_then {l : List Tp} {n : Nat} (hn : l.length = n) (h : (if 100 < n then 2 else topicsE ⟨#[]⟩ l) = 0) : forestE l = (if parE l ≠ 0 then parE l else if deeps (pars l) then 2 else 0) := by
  unfold forestE parE
  rw [hn]
  by_cases h4 : 100 < n
  · rw [if_pos h4] at h; cases h
  · rw [if_neg h4] at h ⊢
    rw [if_neg (by rw [h]; simp)]
    cases l.any (misses l) <;> cases hasLoop (pars l) <;> simp
theorem parE_zero {l : List Tp} (h : parE l = 0) : l.any (misses l) = false ∧ hasLoop (pars l) = false := by
  unfold parE at h
  cases h1 : l.any (misses l) with
  | true => rw [h1] at h; simp at h
  | false =>
    cases h2 : hasLoop (pars l) with
    | true => rw [h1, h2] at h; simp at h
    | false => exact ⟨rfl, rfl⟩
theorem range_next (P : List Int) (k : Nat) : (List.range (k + 1)).map (depthI P) = (List.range k).map (depthI P) ++ [depthI P k] := by rw [List.range_succ]; simp
theorem own_ne {w : World} {C E S n : Nat} {v : Value} {xs : List Value} (h : w.ownsRow (C + 1) E S v n xs) : some C ≠ v.ownBlock := by
  intro e; have := h.lt C e.symm; omega
theorem blk_grown {w w' : World} {B : Nat} {t : TypeId} {cs : Array Value} {row : Option Nat} (h : Blk w B t cs) (hb : w.grownBy w' row) (hg : some B ≠ row) : Blk w' B t cs := (hb.block B h.lt hg).trans h
theorem own_below {w w' : World} {base E S n : Nat} {v : Value} {xs : List Value} (h : w.ownsRow base E S v n xs) (hb : Below w.heap.size w w') : w'.ownsRow base E S v n xs :=
  h.kept (row := none) ⟨hb.os, hb.tape, hb.output, hb.size, fun k hk _ => hb.block k hk⟩ (by
    rcases hh : v.ownBlock with _ | g
    · exact Or.inl rfl
    · exact Or.inr (by simp))
theorem own_far {w : World} {base E S n : Nat} {v : Value} {xs : List Value} {p : Addr} (h : w.ownsRow base E S v n xs) (hp : p.block < base) (u : Value) : (w.setCell p u).ownsRow base E S v n xs := by
  have ho : Only p.block w (w.setCell p u) := ⟨rfl, rfl, rfl, by simp [World.setCell], fun k hk => Below.heap_setCell _ _ _ _ hk⟩
  exact h.kept (Gr.only ho) (by
    rcases hb : v.ownBlock with _ | g
    · exact Or.inl rfl
    · refine Or.inr ?_; have := h.lt g hb; intro e; injection e; omega)

set_option maxRecDepth 100000 in
set_option maxHeartbeats 8000000 in
theorem forest_walk (A : Option Addr) (n cap : Nat) (l : List Tp) (w : World) (hn : l.length = n) (hn2 : n ≤ 1000) (hS : TL w A l) (r : Int) (hr : Hid (forestE l = r)) :
    Calls Tryd.prog 35 #[.slice A n cap] w fun e w' =>
      ∃ (F : Nat), (r ≠ 0 ∧ e = .returned (.tuple #[.pointer none, .int .i64 r]) ∨ r = 0 ∧ e = .returned (.tuple #[.pointer (some ⟨F, 0, none⟩), .int .i64 0]) ∧ w.heap.size ≤ F ∧ FM w' F A n cap l) ∧ Below w.heap.size w w' := by
  have HS := Lib.hid hS
  have HL := Lib.hid hn
  clear hS hn
  obtain ⟨r1, hr1⟩ : ∃ r1, (if 100 < n then 2 else topicsE ⟨#[]⟩ l) = r1 := ⟨_, rfl⟩
  have HR1 := Lib.hid hr1
  have HC1 := Lib.hid (topics_walk A n cap l w HL.out hn2 HS.out r1 HR1)
  by_cases h1 : r1 ≠ 0
  · have HE := Lib.hid (show r1 = r from (forestE_first HL.out hr1 h1).symm.trans hr.out)
    have hb : (r1 != 0) = true := by rw [bne_iff_ne]; exact h1
    have H1 := Lib.hid h1
    clear hr1 h1
    go_enter Tryd.func35, Tryd.ntmps35
    go_wp2_with fail
    refine (HC1.out).mono ?_; rintro e w1 ⟨rfl, hb1⟩
    go_wp2_with fail
    go_ret2
    exact ⟨0, Or.inl ⟨by rw [← HE.out]; exact H1.out, by rw [HE.out]; try rfl⟩, hb1⟩
  obtain rfl : r1 = 0 := by simpa using h1
  have hr2 := (forestE_then HL.out hr1).symm.trans hr.out
  have HF := Lib.hid hr2
  have hcap0 := HS.out
  clear hr1 h1 hr2 hcap0
  obtain ⟨r2, hr2⟩ : ∃ r2, parE l = r2 := ⟨_, rfl⟩
  have HP2 := Lib.hid hr2
  by_cases h2 : r2 ≠ 0
  · have HE := Lib.hid (show r2 = r by have := HF.out; rw [hr2, if_pos h2] at this; exact this)
    have hb : (r2 != 0) = true := by rw [bne_iff_ne]; exact h2
    have H2 := Lib.hid h2
    clear hr2 h2
    go_enter Tryd.func35, Tryd.ntmps35
    go_wp2_with fail
    refine (HC1.out).mono ?_; rintro e w1 ⟨rfl, hb1⟩
    have B1 := Lib.hid hb1
    clear hb1
    go_wp2_with fail
    refine (of_walk A n cap l w1 HL.out hn2 (HS.out.below B1.out)).mono ?_; rintro e w2 ⟨M, rfl, hM, hnm, hb2⟩
    have B2 := Lib.hid (B1.out.trans (hb2.mono B1.out.size))
    have NM2 := Lib.hid hnm
    clear hb2 hnm
    go_wp2_with fail
    refine (parents_walk A n cap M l w2 HL.out hn2 (HS.out.below B2.out) NM2.out r2 HP2).mono ?_; rintro e w3 ⟨g, hor, hb3⟩
    have B3 := Lib.hid (B2.out.trans (hb3.mono B2.out.size))
    rcases hor with ⟨_, rfl⟩ | ⟨h0, _⟩
    · clear hb3
      go_wp2_with fail
      go_ret2
      exact ⟨0, Or.inl ⟨by rw [← HE.out]; exact H2.out, by rw [HE.out]; try rfl⟩, B3.out⟩
    · exact absurd h0 H2.out
  obtain rfl : r2 = 0 := by simpa using h2
  have HE := Lib.hid (show (if deeps (pars l) then 2 else 0) = r by have := HF.out; rw [hr2] at this; simpa using this)
  have HPZ := Lib.hid (parE_zero hr2)
  have HNL := Lib.hid (NL_of HPZ.out.2)
  clear hr2 h2 HF
  go_enter Tryd.func35, Tryd.ntmps35
  go_wp2_with fail
  refine (HC1.out).mono ?_; rintro e w1 ⟨rfl, hb1⟩
  have B1 := Lib.hid hb1
  clear hb1
  go_wp2_with fail
  refine (of_walk A n cap l w1 HL.out hn2 (HS.out.below B1.out)).mono ?_; rintro e w2 ⟨M, rfl, hM, hnm, hb2⟩
  have B2 := Lib.hid (B1.out.trans (hb2.mono B1.out.size))
  have NM2 := Lib.hid hnm
  clear hb2 hnm
  go_wp2_with fail
  refine (parents_walk A n cap M l w2 HL.out hn2 (HS.out.below B2.out) NM2.out 0 HP2).mono ?_; rintro e w3 ⟨g, hor, hb3⟩
  have B3 := Lib.hid (B2.out.trans (hb3.mono B2.out.size))
  have NM3 := Lib.hid (NM2.out.below hb3)
  rcases hor with ⟨h0, _⟩ | ⟨_, rfl, hg, hil⟩
  · exact absurd rfl h0
  have IL3 := Lib.hid hil
  have hz3 := B3.out.size
  clear hb3 hil hg hM NM2 B1 B2 HC1 HR1 HP2
  go_wp2_with fail
  go_loopw [34] (fun i wr => ∃ (k : Nat) (D : Option Addr) (c : Nat), k ≤ n ∧ i = .int .i64 k ∧ Hid (Blk wr w3.heap.size 68 #[.slice A n cap, .map (some M), .slice (some ⟨g, 0, none⟩) n n, .slice D k c]) ∧
    Hid (wr.ownsRow (w3.heap.size + 1) 3 1 (.slice D k c) k (((List.range k).map (depthI (pars l))).map (Value.int .i64))) ∧ Hid (∀ j, j < k → (way (pars l) (j : Nat)).length ≤ 5) ∧ Hid (Below w3.heap.size w3 wr)) (fun i _ => n - (intOf i).toNat)
  case atStart => exact ⟨0, none, 0, Nat.zero_le _, rfl, Lib.hid (Blk.new w3 _ _), Lib.hid (World.ownsRow_nil _ _ _ _), Lib.hid (fun j hj => absurd hj (by omega)), Lib.hid ((Below.refl _ _).alloc (Nat.le_refl _) _)⟩
  case round =>
    obtain ⟨k, D, c, hk, rfl, HK, HO, HD, HB⟩ := hrel
    by_cases hlt : k < n
    · have hkl : k < (pars l).length := by rw [pars_len]; have := HL.out; omega
      have hpn : (pars l).length = n := by rw [pars_len]; exact HL.out
      have HPW := Lib.hid (path_walk (some ⟨g, 0, none⟩) n n (pars l) k wr hpn hn2 (IL3.out.below HB.out) (pars_good l) (by omega) (by omega) (by have := HNL.out k hkl; rwa [hpn] at this) (way (pars l) k) (Lib.hid (by unfold way; rw [hpn])))
      have HDD : Hid (5 < (way (pars l) (k : Nat)).length → r = 2) := Lib.hid (fun h => by
        have : deeps (pars l) = true := List.any_eq_true.2 ⟨k, by simpa using hkl, by simpa using h⟩
        rw [← HE.out, this]; rfl)
      have HRN := Lib.hid (range_next (pars l) k)
      have hzk := HK.out.lt
      have hzw := HB.out.size
      clear hkl hpn
      have c2 := HK.out.cell 2 _ rfl
      go_wp2_with fail
      refine (HPW.out).mono ?_; rintro e w4 ⟨A', m, c', rfl, hm, hmn, _, hb4⟩
      have K4 := Lib.hid (HK.out.below hb4 hzk)
      have O4 := Lib.hid (own_below HO.out hb4)
      have B4 := Lib.hid (HB.out.trans (hb4.mono hzw))
      have HM := Lib.hid hm
      have hz4 : w3.heap.size < w4.heap.size := K4.out.lt
      clear hb4 hm c2 HK HO HB HPW
      by_cases h5 : 5 < m
      · have hE := HDD.out (by rw [HM.out]; exact h5)
        have HE2 := Lib.hid hE
        have d5 : decide ((m : Int) > 5) = true := by simp; omega
        clear hE
        go_wp2_with fail
        go_ret2
        exact ⟨0, Or.inl ⟨by rw [HE2.out]; decide, by rw [HE2.out]; try rfl⟩, B3.out.trans (B4.out.mono hz3)⟩
      · have d5 : decide ((m : Int) > 5) = false := by simp; omega
        have HD2 : Hid (∀ j, j < k + 1 → (way (pars l) (j : Nat)).length ≤ 5) := Lib.hid (fun j hj => by
          rcases (by omega : j < k ∨ j = k) with h | rfl
          · exact HD.out j h
          · rw [HM.out]; omega)
        have HDK : Hid (depthI (pars l) k = (m : Int)) := Lib.hid (by unfold depthI; rw [HM.out])
        have c3 := K4.out.cell 3 _ rfl
        obtain ⟨i0, hi0, hz0, hz1', hz2⟩ := info_parts infoI
        have HI := Lib.hid hi0
        have Z0 := Lib.hid hz0
        have Z1 := Lib.hid hz1'
        have Z2 := Lib.hid hz2
        clear hi0 hz0 hz1' hz2 HD HDD
        go_wp2_with (at_builtin; (refine wpList_append_lies _ rfl _ _ _ rfl (w3.heap.size + 1) 3 i0 _ 1 8 Tryd.underlying22 HI.out Z0.out Z1.out Z2.out rfl (by omega) (.slice D k c) k (((List.range k).map (depthI (pars l))).map (Value.int .i64)) rfl (O4.out.alloc _) ⟨w4.heap.size, 0, none⟩ 1 1 [.int .i64 (m : Int)] rfl rfl (World.news_of_block (cs := #[.int .i64 (m : Int)]) (t := 3) (fr := (0, 0)) (heap_alloc_new w4 _)) (by simp [Value.oneCell']) (by omega) (by unfold maxLen; omega) (by omega) (by simp; omega) (w4.heap.size + 1) (by simp) ?_); intro gg cap' w5 hown hgrow hat hgl; (have O5 := Lib.hid (own_far (p := ⟨w3.heap.size, 3, none⟩) (show w5.ownsRow (w3.heap.size + 1) 3 1 (.slice (some ⟨gg, 0, none⟩) (k + 1) cap') (k + 1) (((List.range (k + 1)).map (depthI (pars l))).map (Value.int .i64)) by rw [HRN.out, List.map_append, HDK.out]; exact hown) (by simp) (.slice (some ⟨gg, 0, none⟩) (k + 1) cap'))); (have K5 := Lib.hid (blk_grown (K4.out.alloc (.cells #[.int .i64 (m : Int)] 3)) hgrow (own_ne O4.out))); (have B5 := Lib.hid (((B4.out.alloc B4.out.size (.cells #[.int .i64 (m : Int)] 3)).trans (grown_below hgrow (fun g e => by have := (O4.out.lt g e).1; omega) (by simp; omega))).setCell (p := ⟨w3.heap.size, 3, none⟩) (Nat.le_refl _) (.slice (some ⟨gg, 0, none⟩) (k + 1) cap'))); clear c3; (have c3 := K5.out.cell 3 _ rfl); (have f3 := K5.out.frozen 3); (have K6 := Lib.hid (K5.out.set_ 3 (.slice (some ⟨gg, 0, none⟩) (k + 1) cap'))); clear hown hgrow hat)
        go_roundw
        case rel => exact ⟨k + 1, some ⟨gg, 0, none⟩, cap', by omega, by go_num, K6, O5, HD2, B5⟩
        case measure => simp [intOf]; omega
    · have hkn : k = n := by omega
      subst hkn
      have hd : deeps (pars l) = false := List.any_eq_false.2 (fun i hi => by
        have hi2 : i < k := by have := HL.out; rw [pars_len] at hi; simp at hi; omega
        have := HD.out i hi2
        simp; omega)
      have HR0 := Lib.hid (show r = 0 by rw [← HE.out, hd]; rfl)
      have HFM := Lib.hid (show FM wr w3.heap.size A k cap l from ⟨M, g, D, c, HK.out, NM3.out.below HB.out, IL3.out.below HB.out, row_il (L := deps l) (by unfold deps; rw [HL.out]; exact HO.out) (by unfold deps; simp [HL.out])⟩)
      clear hd
      go_wp2_with fail
      go_ret2
      exact ⟨w3.heap.size, Or.inr ⟨HR0.out, rfl, hz3, HFM.out⟩, B3.out.trans (HB.out.mono hz3)⟩

end Go.Proofs.YtnjigaklkalebaaDoor.For
