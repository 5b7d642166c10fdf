/-
  THE CONTRACTS OF twoOf, Above, Below, Meet AND Near.
-/
import Derived.Test.YtebfndiaiaegmaaGreatDoorTopNew
import Derived.Test.YtebfndiaiaegmaaGreatDoorStrs
import Derived.Test.YtebfndiaiaegmaaGreatDoorGPart
import Derived.Test.YtebfndiaiaegmaaGreatDoorShelf
namespace Go.Proofs.YtebfndiaiaegmaaGreatDoor.For
open Go.ChangeShapes Go.WideShapes Go.ChangeAt Go.RowKit Stm Key
set_option linter.unusedVariables false

/-- The error of two topics. -/
def askE (l : List Tp) (a b : ByteArray) : Int := if forestE l ≠ 0 then forestE l else (twoE l a b).2.2
theorem twoE_ok {l : List Tp} {a b : ByteArray} (h : (twoE l a b).2.2 = 0) : ∃ i j : Nat, lk l a = some i ∧ lk l b = some j ∧ twoE l a b = ((i : Int), (j : Int), 0) := by
  unfold twoE at h ⊢
  split at h
  · rename_i hh
    obtain ⟨i, hi⟩ := Option.isSome_iff_exists.1 hh.1
    obtain ⟨j, hj⟩ := Option.isSome_iff_exists.1 hh.2
    refine ⟨i, j, hi, hj, ?_⟩
    rw [if_pos hh]; unfold lkI; rw [hi, hj]
  · cases h
theorem twoE_no {l : List Tp} {a b : ByteArray} (h : (twoE l a b).2.2 ≠ 0) : twoE l a b = (0, 0, 8) := by
  unfold twoE at h ⊢
  split at h
  · exact absurd rfl h
  · rename_i hh; rw [if_neg hh]

end Go.Proofs.YtebfndiaiaegmaaGreatDoor.For

/-
  THE CONTRACTS OF Inside, meet AND near, over a forest as newForest lays it.
-/
namespace Go.Proofs.YtebfndiaiaegmaaGreatDoor.For
open Go.ChangeShapes Go.WideShapes Go.ChangeAt Go.RowKit Stm Key
set_option linter.unusedVariables false

theorem forest_parts {l : List Tp} (h : forestE l = 0) : topicsE ⟨#[]⟩ l = 0 ∧ l.length ≤ 100 ∧ l.any (misses l) = false ∧ hasLoop (pars l) = false ∧ deeps (pars l) = false := by
  unfold forestE at h
  by_cases h1 : 100 < l.length
  · rw [if_pos h1] at h; cases h
  rw [if_neg h1] at h
  by_cases h2 : topicsE ⟨#[]⟩ l ≠ 0
  · rw [if_pos h2] at h; exact absurd h h2
  rw [if_neg h2] at h
  cases h3 : l.any (misses l) with
  | true => rw [h3] at h; simp at h
  | false =>
    cases h4 : hasLoop (pars l) with
    | true => rw [h3, h4] at h; simp at h
    | false =>
      cases h5 : deeps (pars l) with
      | true => rw [h3, h4, h5] at h; simp at h
      | false => exact ⟨by simpa using h2, by omega, rfl, rfl, rfl⟩
theorem deep_le {P : List Int} (h : deeps P = false) {i : Nat} (hi : i < P.length) : (way P i).length ≤ 5 := by
  have := List.any_eq_false.1 h i (by simpa using hi)
  simp at this; omega
theorem way_pos {P : List Int} (hN : NL P) {i : Nat} (hi : i < P.length) : 1 ≤ (way P i).length := by
  rw [way_cons hN (by omega) (by omega)]; simp
theorem any_contains (W : List Int) (x : Int) (m : Nat) (hm : W.length = m) : ((W.take m).any fun y => x == y) = W.contains x := by
  rw [← hm, List.take_length, Bool.eq_iff_iff, List.any_eq_true, List.contains_iff_mem]
  constructor
  · rintro ⟨y, hy, he⟩; rw [beq_iff_eq] at he; rw [he]; exact hy
  · intro h; exact ⟨x, h, by simp⟩

theorem deps_len (l : List Tp) : (deps l).length = l.length := by simp [deps]
theorem deps_get {l : List Tp} {i : Nat} (h : i < (deps l).length) : (deps l)[i] = depthI (pars l) i := by simp [deps]
theorem pars_at {l : List Tp} {i : Nat} (h : i < (pars l).length) : (pars l)[i] = up (pars l) i := (up_get h).symm
/-- The measure of a pair. -/
def span (P : List Int) (a b : Value) : Nat := (way P (intOf a)).length + (way P (intOf b)).length

set_option maxRecDepth 100000 in
set_option maxHeartbeats 4000000 in
theorem meet_walk (F n cap : Nat) (A : Option Addr) (l : List Tp) (a b : Nat) (w : World) (hn : l.length = n) (hn2 : n ≤ 1000) (hF : FM w F A n cap l) (hNL : NL (pars l)) (ha : a < n) (hb : b < n) (r : Int) (hr : Hid (MF (pars l) a b = r)) :
    Calls Tryz.prog 69 #[.pointer (some ⟨F, 0, none⟩), .int .i64 a, .int .i64 b] w fun e w' => e = .returned (.int .i64 r) ∧ ∃ m, w' = w.drewN m := by
  have HL := Lib.hid hn
  have HNL := Lib.hid hNL
  have HG := Lib.hid (pars_good l)
  obtain ⟨M, g, D, cd, k1, k2, k3, k4⟩ := hF
  have x2 : w.cell? ⟨F, 2, none⟩ = some (.slice (some ⟨g, 0, none⟩) n n) := k1.cell 2 _ rfl
  have x3 : w.cell? ⟨F, 3, none⟩ = some (.slice D n cd) := k1.cell 3 _ rfl
  have K3 := Lib.hid k3
  have K4 := Lib.hid k4
  have hpn : (pars l).length = n := by rw [pars_len]; exact hn
  have HPN := Lib.hid hpn
  clear k1 k2 k3 k4 hn hpn hNL
  go_enter Tryz.func69, Tryz.ntmps69
  go_wp2_with fail
  go_loopw [1, 2] (fun va vb wr => ∃ (a b m : Nat), va = .int .i64 a ∧ vb = .int .i64 b ∧ a < n ∧ b < n ∧ Hid (wr = w.drewN m) ∧ Hid (MF (pars l) a b = r)) (fun va vb _ => span (pars l) va vb)
  case atStart => exact ⟨a, b, 0, rfl, rfl, ha, hb, Lib.hid rfl, hr⟩
  case round =>
    clear ha hb hr
    obtain ⟨a, b, m, rfl, rfl, ha, hb, HW, HM⟩ := hrel
    obtain rfl := HW.out
    by_cases hab : a = b
    · subst hab
      have HE := Lib.hid (show r = (a : Int) by rw [← HM.out]; exact MF_self HG.out HNL.out (by omega) (by have := HPN.out; omega))
      go_wp2_with fail
      go_ret
      exact ⟨by rw [HE.out]; try rfl, m, rfl⟩
    · have hne : ((a : Int) != (b : Int)) = true := by rw [bne_iff_ne]; omega
      have hL := HL.out
      have hP := HPN.out
      obtain ⟨bd, hD, hbd, hcd⟩ := K4.out (by rw [deps_len]; omega)
      obtain ⟨bp, hPp, hbp, hcp⟩ := K3.out (by omega)
      injection hPp with hPp
      injection hPp with hPp
      subst hPp
      subst hD
      have da := hcd a (by rw [deps_len]; omega)
      have db := hcd b (by rw [deps_len]; omega)
      rw [deps_get] at da db
      unfold depthI at da db
      have pa := hcp a (by omega)
      have pb := hcp b (by omega)
      rw [pars_at] at pa pb
      have ra := up_range HG.out (p := a) (by omega) (by omega)
      have rb := up_range HG.out (p := b) (by omega) (by omega)
      have wa := congrArg List.length (way_cons HNL.out (p := a) (by omega) (by omega))
      have wb := congrArg List.length (way_cons HNL.out (p := b) (by omega) (by omega))
      rw [List.length_cons] at wa wb
      have HU1 : Hid ((way (pars l) (a : Nat)).length < (way (pars l) (b : Nat)).length → MF (pars l) (up (pars l) b) a = r) := Lib.hid (fun h => by
        rw [← HM.out, MF_comm HG.out HNL.out (a := a) (b := b) (by omega) (by omega) (by omega) (by omega)]
        exact (MF_up HG.out HNL.out (by omega) (by omega) (by omega) (by omega) (by omega) (by omega)).symm)
      have HU2 : Hid (¬ (way (pars l) (a : Nat)).length < (way (pars l) (b : Nat)).length → MF (pars l) (up (pars l) a) b = r) := Lib.hid (fun h => by
        rw [← HM.out]
        exact (MF_up HG.out HNL.out (by omega) (by omega) (by omega) (by omega) (by omega) (by omega)).symm)
      have HWA := Lib.hid wa
      have HWB := Lib.hid wb
      have HMN := Lib.hid (MF_neg (pars l))
      have hsp : span (pars l) (.int .i64 a) (.int .i64 b) = (way (pars l) (a : Nat)).length + (way (pars l) (b : Nat)).length := rfl
      have HSP := Lib.hid hsp
      have HSN : Hid (∀ x y : Int, span (pars l) (.int .i64 x) (.int .i64 y) = (way (pars l) x).length + (way (pars l) y).length) := Lib.hid (fun _ _ => rfl)
      rw [hP] at ra rb
      have a0 : (0 : Int) ≤ (a : Int) := by omega
      have b0 : (0 : Int) ≤ (b : Int) := by omega
      have a1 : (a : Int) < (n : Int) := by omega
      have b1 : (b : Int) < (n : Int) := by omega
      clear hcd hcp wa wb hsp hL hP hbd hbp HM
      by_cases hd : (way (pars l) (a : Nat)).length < (way (pars l) (b : Nat)).length
      · have hu1 := HU1.out hd
        have HU := Lib.hid hu1
        have hdd : decide ((way (pars l) (a : Nat)).length < (way (pars l) (b : Nat)).length) = true := by simp; omega
        clear HU1 HU2 hu1 hd
        generalize hub : up (pars l) (b : Int) = u at *
        have HUB := Lib.hid hub
        clear hub
        by_cases hu : u = -1
        · subst hu
          have HE := Lib.hid (show r = -1 by rw [← HU.out]; exact HMN.out _)
          go_wp2_with fail
          go_quiet (fail)
          go_wp2_with fail
          go_ret
          exact ⟨by rw [HE.out]; try rfl, _, by first | rfl | rw [World.drewN_drewN]⟩
        · obtain ⟨q, rfl⟩ : ∃ q : Nat, u = q := ⟨u.toNat, by omega⟩
          have hq : ((q : Int) == -1) = false := by rw [beq_eq_false_iff_ne]; omega
          go_wp2_with fail
          go_quiet (fail)
          go_wp2_with fail
          go_roundw
          case rel => exact ⟨q, a, _, rfl, rfl, by omega, ha, Lib.hid (by first | rfl | rw [World.drewN_drewN]), HU⟩
          case measure => rw [HSN.out, HSN.out, HWB.out]; omega
      · have hu1 := HU2.out hd
        have HU := Lib.hid hu1
        have hdd : decide ((way (pars l) (a : Nat)).length < (way (pars l) (b : Nat)).length) = false := by simp; omega
        clear HU1 HU2 hu1 hd
        generalize hub : up (pars l) (a : Int) = u at *
        have HUB := Lib.hid hub
        clear hub
        by_cases hu : u = -1
        · subst hu
          have HE := Lib.hid (show r = -1 by rw [← HU.out]; exact HMN.out _)
          go_wp2_with fail
          go_quiet (fail)
          go_wp2_with fail
          go_ret
          exact ⟨by rw [HE.out]; try rfl, _, by first | rfl | rw [World.drewN_drewN]⟩
        · obtain ⟨q, rfl⟩ : ∃ q : Nat, u = q := ⟨u.toNat, by omega⟩
          have hq : ((q : Int) == -1) = false := by rw [beq_eq_false_iff_ne]; omega
          go_wp2_with fail
          go_quiet (fail)
          go_wp2_with fail
          go_roundw
          case rel => exact ⟨q, b, _, rfl, rfl, by omega, hb, Lib.hid (by first | rfl | rw [World.drewN_drewN]), HU⟩
          case measure => rw [HSN.out, HSN.out, HWA.out]; omega
end Go.Proofs.YtebfndiaiaegmaaGreatDoor.For

/-
  THE CONTRACTS OF near, Above, Below, Meet AND Near.
-/
namespace Go.Proofs.YtebfndiaiaegmaaGreatDoor.For
open Go.ChangeShapes Go.WideShapes Go.ChangeAt Go.RowKit Stm Key
set_option linter.unusedVariables false

def nearI (P : List Int) (a b : Nat) : Int := if MF P a b = -1 then 0 else 5040 * (((way P (MF P a b)).length : Nat) : Int) / ((((way P a).length : Nat) : Int) + (((way P b).length : Nat) : Int))

set_option maxRecDepth 100000 in
set_option maxHeartbeats 4000000 in
theorem near_walk (F n cap : Nat) (A : Option Addr) (l : List Tp) (a b : Nat) (w : World) (hn : l.length = n) (hn2 : n ≤ 1000) (hF : FM w F A n cap l) (hNL : NL (pars l)) (hdp : deeps (pars l) = false) (ha : a < n) (hb : b < n) (r : Int) (hr : Hid (nearI (pars l) a b = r)) :
    Calls Tryz.prog 45 #[.pointer (some ⟨F, 0, none⟩), .int .i64 a, .int .i64 b] w fun e w' => e = .returned (.int .i64 r) ∧ ∃ m, w' = w.drewN m := by
  have hpn : (pars l).length = n := by rw [pars_len]; exact hn
  obtain ⟨m, hm⟩ : ∃ m, MF (pars l) a b = m := ⟨_, rfl⟩
  have HMW := Lib.hid (meet_walk F n cap A l a b w hn hn2 hF hNL ha hb m (Lib.hid hm))
  have hmr := MF_range (b := b) (pars_good l) (a := a) (by omega) (by omega)
  rw [hm] at hmr
  have hr2 := hr.out
  unfold nearI at hr2
  rw [hm] at hr2
  by_cases hm1 : m = -1
  · subst hm1
    rw [if_pos rfl] at hr2
    have HR := Lib.hid hr2
    clear hr hr2 hm hmr hF hNL hdp hn hpn
    go_enter Tryz.func45, Tryz.ntmps45
    go_wp2_with fail
    refine (HMW.out).mono ?_; rintro e w1 ⟨rfl, q, rfl⟩
    go_wp2_with fail
    go_ret
    exact ⟨by rw [← HR.out]; try rfl, q, rfl⟩
  · rw [if_neg hm1] at hr2
    obtain ⟨c, rfl⟩ : ∃ c : Nat, m = c := ⟨m.toNat, by omega⟩
    have la := way_pos hNL (i := a) (by omega)
    have lb := way_pos hNL (i := b) (by omega)
    have lc := way_pos hNL (i := c) (by omega)
    have ua := deep_le hdp (i := a) (by omega)
    have ub := deep_le hdp (i := b) (by omega)
    have uc := deep_le hdp (i := c) (by omega)
    obtain ⟨M, g, D, cd, k1, k2, k3, k4⟩ := hF
    have x3 : w.cell? ⟨F, 3, none⟩ = some (.slice D n cd) := k1.cell 3 _ rfl
    obtain ⟨bd, hD, hbd, hcd⟩ := k4 (by rw [deps_len]; omega)
    have da := hcd a (by rw [deps_len]; omega)
    have db := hcd b (by rw [deps_len]; omega)
    have dc := hcd c (by rw [deps_len]; omega)
    rw [deps_get] at da db dc
    unfold depthI at da db dc
    generalize (way (pars l) (a : Nat)).length = p at *
    generalize (way (pars l) (b : Nat)).length = q at *
    generalize (way (pars l) (c : Nat)).length = s at *
    have HR := Lib.hid hr2
    have i0 : (0 : Int) ≤ (a : Int) := by omega
    have i1 : (a : Int) < (n : Int) := by omega
    have i2 : (0 : Int) ≤ (b : Int) := by omega
    have i3 : (b : Int) < (n : Int) := by omega
    have i4 : (0 : Int) ≤ (c : Int) := by omega
    have i5 : (c : Int) < (n : Int) := by omega
    have hcb : ((c : Int) == -1) = false := by rw [beq_eq_false_iff_ne]; omega
    have hz : ((p : Int) + (q : Int) == 0) = false := by rw [beq_eq_false_iff_ne]; omega
    have b1 : (0 : Int) ≤ (p : Int) + (q : Int) := by omega
    have b2 : (p : Int) + (q : Int) ≤ 10 := by omega
    have b3 : (0 : Int) ≤ 5040 * (s : Int) := by omega
    have b4 : 5040 * (s : Int) ≤ 25200 := by omega
    have b5 : 0 ≤ 5040 * (s : Int) / ((p : Int) + (q : Int)) := Int.ediv_nonneg b3 b1
    have b6 : 5040 * (s : Int) / ((p : Int) + (q : Int)) ≤ 25200 := Int.le_trans (Int.ediv_le_self _ b3) b4
    have e1 : wrap64 (5040 * (s : Int) / ((p : Int) + (q : Int))) = 5040 * (s : Int) / ((p : Int) + (q : Int)) := IntWalk.wrap64_in _ (by omega)
    subst hD
    clear hr hr2 hm hmr hNL hdp hn hpn k1 k2 k3 k4 hcd hbd hm1
    go_enter Tryz.func45, Tryz.ntmps45
    go_wp2_with fail
    refine (HMW.out).mono ?_; rintro e w1 ⟨rfl, z, rfl⟩
    go_wp2_with fail
    go_quiet (fail)
    go_wp2_with fail
    go_ret
    exact ⟨by rw [← HR.out]; try rfl, _, by first | rfl | rw [World.drewN_drewN]⟩

/-- What Near hands back: numerator, denominator. -/
def nearR (l : List Tp) (i j : Nat) : Int × Int := ((((nearI (pars l) i j).toNat / Nat.gcd (nearI (pars l) i j).toNat 2520 : Nat) : Int), ((2520 / Nat.gcd (nearI (pars l) i j).toNat 2520 : Nat) : Int))
theorem nearI_bd {P : List Int} (hN : NL P) (hG : Good P) (hd : deeps P = false) {a b : Nat} (ha : a < P.length) (hb : b < P.length) : 0 ≤ nearI P a b ∧ nearI P a b ≤ 25200 := by
  unfold nearI
  split
  · omega
  · rename_i hm
    have hmr := MF_range (b := b) hG (a := a) (by omega) (by omega)
    obtain ⟨c, hc⟩ : ∃ c : Nat, MF P a b = c := ⟨(MF P a b).toNat, by omega⟩
    rw [hc] at hmr ⊢
    have la := way_pos hN (i := a) ha
    have lb := way_pos hN (i := b) hb
    have uc := deep_le hd (i := c) (by omega)
    generalize (way P (a : Nat)).length = p at *
    generalize (way P (b : Nat)).length = q at *
    generalize (way P (c : Nat)).length = s at *
    exact ⟨Int.ediv_nonneg (by omega) (by omega), Int.le_trans (Int.ediv_le_self _ (by omega)) (by omega)⟩

/-- What Near hands back, as an ending. -/
def NearRet (l : List Tp) (a b : ByteArray) (r : Int) (w : World) (e : Ending) (w' : World) : Prop := ∃ (x y : Int), e = .returned (.tuple #[.agg #[.int .i64 x, .int .i64 y], .int .i64 r]) ∧
  (r ≠ 0 ∧ x = 0 ∧ y = 0 ∨ r = 0 ∧ ∃ i j : Nat, lk l a = some i ∧ lk l b = some j ∧ (x, y) = nearR l i j) ∧ Below w.heap.size w w'

/-- What Meet hands back. -/
def MeetRet (l : List Tp) (a b : ByteArray) (r : Int) (w : World) (e : Ending) (w' : World) : Prop := ∃ s : ByteArray, e = .returned (.tuple #[.string s, .int .i64 r]) ∧
  (r = 0 → ∃ i j : Nat, lk l a = some i ∧ lk l b = some j ∧ s = (if MF (pars l) i j = -1 then ⟨#[]⟩ else (l.getD (MF (pars l) i j).toNat ⟨⟨#[]⟩, ⟨#[]⟩⟩).k)) ∧ Below w.heap.size w w'

end Go.Proofs.YtebfndiaiaegmaaGreatDoor.For

/-
  THE CONTRACTS OF Above AND Below.
-/
namespace Go.Proofs.YtebfndiaiaegmaaGreatDoor.For
open Go.ChangeShapes Go.WideShapes Go.ChangeAt Go.RowKit Stm Key
set_option linter.unusedVariables false

theorem infoS : (Tryz.prog.info? 9).map (fun i => (i.zero, i.size, i.bytes)) = some (some (.string ⟨#[]⟩), 1, 16) := by kernel_rfl
theorem row_sl {w : World} {base n cap : Nat} {A : Option Addr} {ss : List ByteArray} (h : w.ownsRow base 9 1 (.slice A n cap) n (ss.map Value.string)) (L : ss.length = n) (hsz : ∀ x ∈ ss, x.size ≤ 1000) : SL w A ss := by
  refine ⟨hsz, fun h0 => ?_⟩
  obtain ⟨g, cap', hv, _, hlt⟩ := h.form (by omega)
  have hA : A = some ⟨g, 0, none⟩ := by injection hv
  subst hA
  refine ⟨g, rfl, hlt, fun i hi => ?_⟩
  have e1 := h.cells (g := g) rfl i (.string ss[i]) (by simp [List.getElem?_eq_getElem hi])
  rw [row_add] at e1
  exact e1
/-- A slice of strings that was made. -/
def StrsRet (r : Int) (Q : List ByteArray → Prop) (w : World) (e : Ending) (w' : World) : Prop := ∃ (A : Option Addr) (m c : Nat) (ss : List ByteArray), e = .returned (.tuple #[.slice A m c, .int .i64 r]) ∧ ss.length = m ∧ m ≤ 1000 ∧ m ≤ c ∧ SL w' A ss ∧ (r = 0 → Q ss) ∧ Below w.heap.size w w'
/-- New memory: the list is nil, or lies at the head of a block that is new, whole, and may be written. -/
def NB (w w' : World) (A : Option Addr) (m S : Nat) (T : TypeId) : Prop := (A = none ∧ m = 0) ∨ ∃ g cs, A = some ⟨g, 0, none⟩ ∧ w.heap.size ≤ g ∧ Blk w' g T cs ∧ m * S ≤ cs.size
theorem row_nb {w0 w : World} {base n cap : Nat} {E S : Nat} {A : Option Addr} {xs : List Value} (h : w.ownsRow base E S (.slice A n cap) n xs) (hB : w0.heap.size ≤ base) : NB w0 w A n S E := by
  rcases h.2 with ⟨e, e2⟩ | ⟨g, cap', cur, e, hb, hg, hnc, _, hcs, _⟩
  · injection e with e1; exact Or.inl ⟨e1, e2⟩
  · injection e with e1 _ e3
    exact Or.inr ⟨g, cur, e1, Nat.le_trans hB hb, hg, by rw [hcs]; exact Nat.mul_le_mul_right _ hnc⟩
def StrsRet2 (r : Int) (Q : List ByteArray → Prop) (w : World) (e : Ending) (w' : World) : Prop := ∃ (A : Option Addr) (m c : Nat) (ss : List ByteArray), e = .returned (.tuple #[.slice A m c, .int .i64 r]) ∧ ss.length = m ∧ m ≤ 1000 ∧ m ≤ c ∧ SL w' A ss ∧ (r = 0 → Q ss) ∧ Below w.heap.size w w' ∧ NB w w' A m 1 9
theorem StrsRet2.old {r : Int} {Q : List ByteArray → Prop} {w : World} {e : Ending} {w' : World} (h : StrsRet2 r Q w e w') : StrsRet r Q w e w' := by
  obtain ⟨A, m, c, ss, h1, h2, h3, h4, h5, h6, h7, _⟩ := h
  exact ⟨A, m, c, ss, h1, h2, h3, h4, h5, h6, h7⟩
theorem keysOf_le {l : List Tp} (h : ∀ x ∈ l, x.k.size ≤ 1000 ∧ x.a.size ≤ 1000) (W : List Int) : ∀ s ∈ keysOf l W, s.size ≤ 1000 := by
  intro s hs
  obtain ⟨j, hj, rfl⟩ := List.mem_map.1 hs
  show (l.getD j.toNat ⟨⟨#[]⟩, ⟨#[]⟩⟩).k.size ≤ 1000
  rcases Nat.lt_or_ge j.toNat l.length with h1 | h1
  · simp only [List.getD, List.getElem?_eq_getElem h1, Option.getD_some]; exact (h _ (List.getElem_mem h1)).1
  · simp [List.getD, List.getElem?_eq_none h1]; decide
theorem keysOf_next {l : List Tp} {W : List Int} {k : Nat} (h : k < W.length) {q : Nat} (hq : W[k] = q) (hl : q < l.length) : (keysOf l W).take (k + 1) = (keysOf l W).take k ++ [l[q].k] := by
  have hk : k < (keysOf l W).length := by simp [keysOf]; exact h
  rw [take_next _ _ hk]
  congr 1
  simp [keysOf, hq, List.getD, List.getElem?_eq_getElem hl]

/-- The keys of the first k topics that are below (or are) one. -/
def belS (l : List Tp) (top k : Nat) : List ByteArray := ((List.range k).filter (fun i => (way (pars l) (i : Nat)).contains (top : Int))).map (fun i => (l.getD i ⟨⟨#[]⟩, ⟨#[]⟩⟩).k)
theorem belS_next {l : List Tp} {top k : Nat} (h : k < l.length) : belS l top (k + 1) = if (way (pars l) (k : Nat)).contains (top : Int) then belS l top k ++ [l[k].k] else belS l top k := by
  unfold belS
  rw [List.range_succ, List.filter_append, List.map_append]
  cases hc : (way (pars l) (k : Nat)).contains (top : Int) with
  | true =>
    have : [k].filter (fun i => (way (pars l) (i : Nat)).contains (top : Int)) = [k] := by rw [List.filter_cons_of_pos (by exact hc)]; rfl
    rw [this]; simp [List.getD, List.getElem?_eq_getElem h]
  | false =>
    have : [k].filter (fun i => (way (pars l) (i : Nat)).contains (top : Int)) = [] := by rw [List.filter_cons_of_neg (by rw [hc]; simp)]; rfl
    rw [this]; simp
theorem belS_len (l : List Tp) (top k : Nat) : (belS l top k).length ≤ k := by
  unfold belS; rw [List.length_map]; exact Nat.le_trans (List.length_filter_le _ _) (by simp)
theorem belS_le {l : List Tp} (h : ∀ x ∈ l, x.k.size ≤ 1000 ∧ x.a.size ≤ 1000) (top k : Nat) : ∀ s ∈ belS l top k, s.size ≤ 1000 := by
  intro s hs
  obtain ⟨j, hj, rfl⟩ := List.mem_map.1 hs
  rcases Nat.lt_or_ge j l.length with h1 | h1
  · simp only [List.getD, List.getElem?_eq_getElem h1, Option.getD_some]; exact (h _ (List.getElem_mem h1)).1
  · simp [List.getD, List.getElem?_eq_none h1]; decide

end Go.Proofs.YtebfndiaiaegmaaGreatDoor.For
