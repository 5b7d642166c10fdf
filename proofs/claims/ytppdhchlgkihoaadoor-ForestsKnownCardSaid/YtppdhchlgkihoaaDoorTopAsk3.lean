/-
  THE CONTRACTS OF near, Above, Below, Meet AND Near.
-/
import Derived.Test.YtppdhchlgkihoaaDoorTopAsk2
namespace Go.Proofs.YtppdhchlgkihoaaDoor.For
open Go.ChangeShapes Go.WideShapes Go.ChangeAt Go.RowKit Stm Key
set_option linter.unusedVariables false

def nearI (P : List Int) (a b : Nat) : Int := if MF P a b = -1 then 0 else 5040 * (((way P (MF P a b)).length : Nat) : Int) / ((((way P a).length : Nat) : Int) + (((way P b).length : Nat) : Int))

set_option maxRecDepth 100000 in
set_option maxHeartbeats 4000000 in
theorem near_walk (F n cap : Nat) (A : Option Addr) (l : List Tp) (a b : Nat) (w : World) (hn : l.length = n) (hn2 : n ≤ 1000) (hF : FM w F A n cap l) (hNL : NL (pars l)) (hdp : deeps (pars l) = false) (ha : a < n) (hb : b < n) (r : Int) (hr : Hid (nearI (pars l) a b = r)) :
    Calls Tryd.prog 33 #[.pointer (some ⟨F, 0, none⟩), .int .i64 a, .int .i64 b] w fun e w' => e = .returned (.int .i64 r) ∧ ∃ m, w' = w.drewN m := by
  have hpn : (pars l).length = n := by rw [pars_len]; exact hn
  obtain ⟨m, hm⟩ : ∃ m, MF (pars l) a b = m := ⟨_, rfl⟩
  have HMW := Lib.hid (meet_walk F n cap A l a b w hn hn2 hF hNL ha hb m (Lib.hid hm))
  have hmr := MF_range (b := b) (pars_good l) (a := a) (by omega) (by omega)
  rw [hm] at hmr
  have hr2 := hr.out
  unfold nearI at hr2
  rw [hm] at hr2
  by_cases hm1 : m = -1
  · subst hm1
    rw [if_pos rfl] at hr2
    have HR := Lib.hid hr2
    clear hr hr2 hm hmr hF hNL hdp hn hpn
    go_enter Tryd.func33, Tryd.ntmps33
    go_wp2_with fail
    refine (HMW.out).mono ?_; rintro e w1 ⟨rfl, q, rfl⟩
    go_wp2_with fail
    go_ret
    exact ⟨by rw [← HR.out]; try rfl, q, rfl⟩
  · rw [if_neg hm1] at hr2
    obtain ⟨c, rfl⟩ : ∃ c : Nat, m = c := ⟨m.toNat, by omega⟩
    have la := way_pos hNL (i := a) (by omega)
    have lb := way_pos hNL (i := b) (by omega)
    have lc := way_pos hNL (i := c) (by omega)
    have ua := deep_le hdp (i := a) (by omega)
    have ub := deep_le hdp (i := b) (by omega)
    have uc := deep_le hdp (i := c) (by omega)
    obtain ⟨M, g, D, cd, k1, k2, k3, k4⟩ := hF
    have x3 : w.cell? ⟨F, 3, none⟩ = some (.slice D n cd) := k1.cell 3 _ rfl
    obtain ⟨bd, hD, hbd, hcd⟩ := k4 (by rw [deps_len]; omega)
    have da := hcd a (by rw [deps_len]; omega)
    have db := hcd b (by rw [deps_len]; omega)
    have dc := hcd c (by rw [deps_len]; omega)
    rw [deps_get] at da db dc
    unfold depthI at da db dc
    generalize (way (pars l) (a : Nat)).length = p at *
    generalize (way (pars l) (b : Nat)).length = q at *
    generalize (way (pars l) (c : Nat)).length = s at *
    have HR := Lib.hid hr2
    have i0 : (0 : Int) ≤ (a : Int) := by omega
    have i1 : (a : Int) < (n : Int) := by omega
    have i2 : (0 : Int) ≤ (b : Int) := by omega
    have i3 : (b : Int) < (n : Int) := by omega
    have i4 : (0 : Int) ≤ (c : Int) := by omega
    have i5 : (c : Int) < (n : Int) := by omega
    have hcb : ((c : Int) == -1) = false := by rw [beq_eq_false_iff_ne]; omega
    have hz : ((p : Int) + (q : Int) == 0) = false := by rw [beq_eq_false_iff_ne]; omega
    have b1 : (0 : Int) ≤ (p : Int) + (q : Int) := by omega
    have b2 : (p : Int) + (q : Int) ≤ 10 := by omega
    have b3 : (0 : Int) ≤ 5040 * (s : Int) := by omega
    have b4 : 5040 * (s : Int) ≤ 25200 := by omega
    have b5 : 0 ≤ 5040 * (s : Int) / ((p : Int) + (q : Int)) := Int.ediv_nonneg b3 b1
    have b6 : 5040 * (s : Int) / ((p : Int) + (q : Int)) ≤ 25200 := Int.le_trans (Int.ediv_le_self _ b3) b4
    have e1 : wrap64 (5040 * (s : Int) / ((p : Int) + (q : Int))) = 5040 * (s : Int) / ((p : Int) + (q : Int)) := IntWalk.wrap64_in _ (by omega)
    subst hD
    clear hr hr2 hm hmr hNL hdp hn hpn k1 k2 k3 k4 hcd hbd hm1
    go_enter Tryd.func33, Tryd.ntmps33
    go_wp2_with fail
    refine (HMW.out).mono ?_; rintro e w1 ⟨rfl, z, rfl⟩
    go_wp2_with fail
    go_quiet (fail)
    go_wp2_with fail
    go_ret
    exact ⟨by rw [← HR.out]; try rfl, _, by first | rfl | rw [World.drewN_drewN]⟩

/-- What Near hands back: numerator, denominator. -/
def nearR (l : List Tp) (i j : Nat) : Int × Int := ((((nearI (pars l) i j).toNat / Nat.gcd (nearI (pars l) i j).toNat 2520 : Nat) : Int), ((2520 / Nat.gcd (nearI (pars l) i j).toNat 2520 : Nat) : Int))
theorem nearI_bd {P : List Int} (hN : NL P) (hG : Good P) (hd : deeps P = false) {a b : Nat} (ha : a < P.length) (hb : b < P.length) : 0 ≤ nearI P a b ∧ nearI P a b ≤ 25200 := by
  unfold nearI
  split
  · omega
  · rename_i hm
    have hmr := MF_range (b := b) hG (a := a) (by omega) (by omega)
    obtain ⟨c, hc⟩ : ∃ c : Nat, MF P a b = c := ⟨(MF P a b).toNat, by omega⟩
    rw [hc] at hmr ⊢
    have la := way_pos hN (i := a) ha
    have lb := way_pos hN (i := b) hb
    have uc := deep_le hd (i := c) (by omega)
    generalize (way P (a : Nat)).length = p at *
    generalize (way P (b : Nat)).length = q at *
    generalize (way P (c : Nat)).length = s at *
    exact ⟨Int.ediv_nonneg (by omega) (by omega), Int.le_trans (Int.ediv_le_self _ (by omega)) (by omega)⟩

/-- What Near hands back, as an ending. -/
def NearRet (l : List Tp) (a b : ByteArray) (r : Int) (w : World) (e : Ending) (w' : World) : Prop := ∃ (x y : Int), e = .returned (.tuple #[.agg #[.int .i64 x, .int .i64 y], .int .i64 r]) ∧
  (r ≠ 0 ∧ x = 0 ∧ y = 0 ∨ r = 0 ∧ ∃ i j : Nat, lk l a = some i ∧ lk l b = some j ∧ (x, y) = nearR l i j) ∧ Below w.heap.size w w'

set_option maxRecDepth 100000 in
set_option maxHeartbeats 4000000 in
theorem nearf_walk (A : Option Addr) (n cap : Nat) (l : List Tp) (a b : ByteArray) (w : World) (hn : l.length = n) (hn2 : n ≤ 1000) (hS : TL w A l) (ha : a.size ≤ 1000) (hb : b.size ≤ 1000) (r : Int) (hr : Hid (askE l a b = r)) :
    Calls Tryd.prog 11 #[.slice A n cap, .string a, .string b] w (NearRet l a b r w) := by
  have HTW := Lib.hid (fun W hW => twoof_walk A n cap l a b W hn hn2 (hS.below (w' := W) hW) ha hb r hr)
  have HL := Lib.hid hn
  clear hn hS hr
  go_enter Tryd.func11, Tryd.ntmps11
  go_wp2_with fail
  refine (HTW.out _ ((Below.refl _ _).alloc (Nat.le_refl _) _)).mono ?_; rintro e w1 ⟨F, i, j, hor, hb1⟩
  obtain ⟨hc, hf⟩ := Frac.bcell hb1
  have r0 : w1.cell? ⟨w.heap.size, 0, none⟩ = some (.int .i64 0) := by rw [hc _ _ (by go_size)]; go_cell
  have r1 : w1.cell? ⟨w.heap.size, 1, none⟩ = some (.int .i64 0) := by rw [hc _ _ (by go_size)]; go_cell
  have f0 : w1.frozen? ⟨w.heap.size, 0, none⟩ = false := by rw [hf _ _ (by go_size)]; go_cell
  have f1 : w1.frozen? ⟨w.heap.size, 1, none⟩ = false := by rw [hf _ _ (by go_size)]; go_cell
  have z1 : w.heap.size < w1.heap.size := by have := hb1.size; simp at this; omega
  have B1 := Lib.hid (show Below w.heap.size w w1 from ((Below.refl _ _).alloc (Nat.le_refl _) _).trans (hb1.mono (by simp)))
  clear hc hf hb1
  rcases hor with ⟨h0, rfl⟩ | ⟨rfl, rfl, hfe, hi, hj, hFM⟩
  · have H0 := Lib.hid h0
    have hbb : (r != 0) = true := by rw [bne_iff_ne]; exact h0
    clear h0
    go_wp2_with fail
    refine bodyPost_ret (v := .tuple #[.agg #[.int .i64 0, .int .i64 0], .int .i64 r]) (by simp only [results, Tryd.results11]; go_simp) rfl ⟨0, 0, rfl, Or.inl ⟨H0.out, rfl, rfl⟩, ?_⟩
    exact (B1.out.setCell (by simp) _).setCell (by simp) _
  · obtain ⟨_, _, _, hlo, hdp⟩ := forest_parts hfe
    have hNL := NL_of hlo
    obtain ⟨hil, _⟩ := lk_some l a i hi
    obtain ⟨hjl, _⟩ := lk_some l b j hj
    have hpn : (pars l).length = n := by rw [pars_len]; exact HL.out
    have hl := HL.out
    have hbd := nearI_bd hNL (pars_good l) hdp (a := i) (b := j) (by omega) (by omega)
    have HNW := Lib.hid (near_walk F n cap A l i j w1 HL.out hn2 hFM hNL hdp (by omega) (by omega) _ (Lib.hid rfl))
    obtain ⟨v, hv⟩ : ∃ v : Nat, nearI (pars l) i j = v := ⟨(nearI (pars l) i j).toNat, by omega⟩
    have HRR : Hid (nearR l i j = (((v / Nat.gcd v 2520 : Nat) : Int), ((2520 / Nat.gcd v 2520 : Nat) : Int))) := Lib.hid (by unfold nearR; rw [hv]; rfl)
    rw [hv] at HNW hbd
    have HLW := Lib.hid (fun W => Frac.low_any v 2520 W (by omega) (by omega) (by omega))
    have HI := Lib.hid hi
    have HJ := Lib.hid hj
    generalize ((v / Nat.gcd v 2520 : Nat) : Int) = x at *
    generalize ((2520 / Nat.gcd v 2520 : Nat) : Int) = y at *
    clear hfe hi hj hFM hlo hdp hNL hpn hl hv
    go_wp2_with fail
    refine (HNW.out).mono ?_; rintro e w2 ⟨rfl, z, rfl⟩
    go_wp2_with fail
    refine (HLW.out _).mono ?_; rintro e w3 ⟨rfl, hb3⟩
    obtain ⟨hc, hf⟩ := Frac.bcell hb3
    have r0b : w3.cell? ⟨w.heap.size, 0, none⟩ = some (.int .i64 0) := by rw [hc _ _ (by go_size)]; go_cell
    have r1b : w3.cell? ⟨w.heap.size, 1, none⟩ = some (.int .i64 0) := by rw [hc _ _ (by go_size)]; go_cell
    have f0b : w3.frozen? ⟨w.heap.size, 0, none⟩ = false := by rw [hf _ _ (by go_size)]; go_cell
    have f1b : w3.frozen? ⟨w.heap.size, 1, none⟩ = false := by rw [hf _ _ (by go_size)]; go_cell
    have B3 := Lib.hid (B1.out.trans ((Stm.Below.drewN (Below.refl w.heap.size w1) z).trans (hb3.mono (by simp; omega))))
    clear hc hf hb3 r0 r1 f0 f1
    go_wp2_with fail
    refine bodyPost_ret (v := .tuple #[.agg #[.int .i64 x, .int .i64 y], .int .i64 0]) (by simp only [results, Tryd.results11]; go_simp) rfl ⟨x, y, rfl, Or.inr ⟨rfl, i, j, HI.out, HJ.out, HRR.out.symm⟩, ?_⟩
    exact (B3.out.setCell (by simp) _).setCell (by simp) _

/-- What Meet hands back. -/
def MeetRet (l : List Tp) (a b : ByteArray) (r : Int) (w : World) (e : Ending) (w' : World) : Prop := ∃ s : ByteArray, e = .returned (.tuple #[.string s, .int .i64 r]) ∧
  (r = 0 → ∃ i j : Nat, lk l a = some i ∧ lk l b = some j ∧ s = (if MF (pars l) i j = -1 then ⟨#[]⟩ else (l.getD (MF (pars l) i j).toNat ⟨⟨#[]⟩, ⟨#[]⟩⟩).k)) ∧ Below w.heap.size w w'

set_option maxRecDepth 100000 in
set_option maxHeartbeats 4000000 in
theorem meetf_walk (A : Option Addr) (n cap : Nat) (l : List Tp) (a b : ByteArray) (w : World) (hn : l.length = n) (hn2 : n ≤ 1000) (hS : TL w A l) (ha : a.size ≤ 1000) (hb : b.size ≤ 1000) (r : Int) (hr : Hid (askE l a b = r)) :
    Calls Tryd.prog 10 #[.slice A n cap, .string a, .string b] w (MeetRet l a b r w) := by
  have HTW := Lib.hid (twoof_walk A n cap l a b w hn hn2 hS ha hb r hr)
  have HL := Lib.hid hn
  have HS := Lib.hid hS
  clear hn hS hr
  go_enter Tryd.func10, Tryd.ntmps10
  go_wp2_with fail
  refine (HTW.out).mono ?_; rintro e w1 ⟨F, i, j, hor, hb1⟩
  have B1 := Lib.hid hb1
  clear hb1
  rcases hor with ⟨h0, rfl⟩ | ⟨rfl, rfl, hfe, hi, hj, hFM⟩
  · have H0 := Lib.hid h0
    have hbb : (r != 0) = true := by rw [bne_iff_ne]; exact h0
    clear h0
    go_wp2_with fail
    go_ret2
    exact ⟨_, rfl, fun h => absurd h H0.out, B1.out⟩
  · obtain ⟨_, _, _, hlo, hdp⟩ := forest_parts hfe
    have hNL := NL_of hlo
    obtain ⟨hil, _⟩ := lk_some l a i hi
    obtain ⟨hjl, _⟩ := lk_some l b j hj
    have hpn : (pars l).length = n := by rw [pars_len]; exact HL.out
    have hl := HL.out
    have hmr := MF_range (b := j) (pars_good l) (a := i) (by omega) (by omega)
    obtain ⟨m, hm⟩ : ∃ m, MF (pars l) i j = m := ⟨_, rfl⟩
    have HMW := Lib.hid (meet_walk F n cap A l i j w1 HL.out hn2 hFM hNL (by omega) (by omega) m (Lib.hid hm))
    have HM := Lib.hid hm
    have HI := Lib.hid hi
    have HJ := Lib.hid hj
    rw [hm] at hmr
    clear hfe hi hj hFM hlo hdp hNL hm
    by_cases hm1 : m = -1
    · subst hm1
      go_wp2_with fail
      refine (HMW.out).mono ?_; rintro e w2 ⟨rfl, z, rfl⟩
      go_wp2_with fail
      go_ret2
      exact ⟨_, rfl, fun _ => ⟨i, j, HI.out, HJ.out, by rw [HM.out, if_pos rfl]⟩, Stm.Below.drewN B1.out _⟩
    · obtain ⟨c, rfl⟩ : ∃ c : Nat, m = c := ⟨m.toNat, by omega⟩
      have hcb : ((c : Int) != -1) = true := by rw [bne_iff_ne]; omega
      have hcl : c < l.length := by omega
      obtain ⟨bl, hA, hbl, hcells⟩ := HS.out.2 (by omega)
      have c0 := (B1.out.cell (p := ⟨bl, c * 2, none⟩) hbl).trans (hcells c hcl).1
      have HX : Hid ((l.getD ((c : Nat) : Int).toNat ⟨⟨#[]⟩, ⟨#[]⟩⟩).k = l[c].k) := Lib.hid (by simp [List.getD, List.getElem?_eq_getElem hcl])
      generalize l[c] = x at *
      have i4 : (0 : Int) ≤ (c : Int) := by omega
      have i5 : (c : Int) < (n : Int) := by omega
      subst hA
      clear hcells hmr
      go_wp2_with fail
      refine (HMW.out).mono ?_; rintro e w2 ⟨rfl, z, rfl⟩
      go_wp2_with fail
      go_ret2
      exact ⟨_, rfl, fun _ => ⟨i, j, HI.out, HJ.out, by rw [HM.out, if_neg (by omega), HX.out]⟩, Stm.Below.drewN B1.out _⟩
end Go.Proofs.YtppdhchlgkihoaaDoor.For
