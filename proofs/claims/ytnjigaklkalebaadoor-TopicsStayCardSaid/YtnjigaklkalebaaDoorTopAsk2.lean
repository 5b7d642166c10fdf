/-
  THE CONTRACTS OF Inside, meet AND near, over a forest as newForest lays it.
-/
import Derived.Test.YtnjigaklkalebaaDoorTopAsk
namespace Go.Proofs.YtnjigaklkalebaaDoor.For
open Go.ChangeShapes Go.WideShapes Go.ChangeAt Go.RowKit Stm Key
set_option linter.unusedVariables false

theorem forest_parts {l : List Tp} (h : forestE l = 0) : topicsE ⟨#[]⟩ l = 0 ∧ l.length ≤ 100 ∧ l.any (misses l) = false ∧ hasLoop (pars l) = false ∧ deeps (pars l) = false := by
  unfold forestE at h
  by_cases h1 : 100 < l.length
  · rw [if_pos h1] at h; cases h
  rw [if_neg h1] at h
  by_cases h2 : topicsE ⟨#[]⟩ l ≠ 0
  · rw [if_pos h2] at h; exact absurd h h2
  rw [if_neg h2] at h
  cases h3 : l.any (misses l) with
  | true => rw [h3] at h; simp at h
  | false =>
    cases h4 : hasLoop (pars l) with
    | true => rw [h3, h4] at h; simp at h
    | false =>
      cases h5 : deeps (pars l) with
      | true => rw [h3, h4, h5] at h; simp at h
      | false => exact ⟨by simpa using h2, by omega, rfl, rfl, rfl⟩
theorem deep_le {P : List Int} (h : deeps P = false) {i : Nat} (hi : i < P.length) : (way P i).length ≤ 5 := by
  have := List.any_eq_false.1 h i (by simpa using hi)
  simp at this; omega
theorem way_pos {P : List Int} (hN : NL P) {i : Nat} (hi : i < P.length) : 1 ≤ (way P i).length := by
  rw [way_cons hN (by omega) (by omega)]; simp
theorem any_contains (W : List Int) (x : Int) (m : Nat) (hm : W.length = m) : ((W.take m).any fun y => x == y) = W.contains x := by
  rw [← hm, List.take_length, Bool.eq_iff_iff, List.any_eq_true, List.contains_iff_mem]
  constructor
  · rintro ⟨y, hy, he⟩; rw [beq_iff_eq] at he; rw [he]; exact hy
  · intro h; exact ⟨x, h, by simp⟩

set_option maxHeartbeats 2000000 in
theorem inside_walk (g n : Nat) (P : List Int) (a b : Nat) (w : World) (hn : P.length = n) (hn2 : n ≤ 1000) (hS : IL w (some ⟨g, 0, none⟩) P) (hG : Good P) (hNL : NL P) (ha : a < n) (r : Bool) (hr : Hid ((way P a).contains (b : Int) = r)) :
    Calls Tryd.prog 26 #[.slice (some ⟨g, 0, none⟩) n n, .int .i64 a, .int .i64 b] w fun e w' => e = .returned (.bool r) ∧ Below w.heap.size w w' := by
  have HPW := Lib.hid (path_walk (some ⟨g, 0, none⟩) n n P a w hn hn2 hS hG (by omega) (by omega) (by have := hNL a (by omega); rwa [hn] at this) (way P a) (Lib.hid (by unfold way; rw [hn])))
  have hw := way_pos hNL (i := a) (by omega)
  clear hS hG hNL
  go_enter Tryd.func26, Tryd.ntmps26
  go_wp2_with fail
  refine (HPW.out).mono ?_; rintro e w1 ⟨A', m, c, rfl, hm, hmn, hown, hb⟩
  obtain ⟨b1, hA, hbl, hc⟩ := row_il hown hm (by omega)
  subst hA
  have HC := Lib.hid (AnyE.slices_Contains (α := Int) Tryd.laysSlE31_f39 (Value.int .i64) (fun x y => x == y) (EqlAt.int _ _ _) b1 0 m c (way P a) (b : Int) w1 (by omega) (by omega) (fun j hj => by
    rw [Nat.zero_add, getElem!_pos (way P a) j (by omega)]; exact hc j (by omega)))
  rw [any_contains _ _ _ hm, hr.out] at HC
  clear hc hown hm
  go_wp2_with fail
  refine (HC.out).mono ?_; rintro e w2 ⟨rfl, rfl⟩
  go_wp2_with fail
  go_ret; exact ⟨rfl, hb⟩

theorem deps_len (l : List Tp) : (deps l).length = l.length := by simp [deps]
theorem deps_get {l : List Tp} {i : Nat} (h : i < (deps l).length) : (deps l)[i] = depthI (pars l) i := by simp [deps]
theorem pars_at {l : List Tp} {i : Nat} (h : i < (pars l).length) : (pars l)[i] = up (pars l) i := (up_get h).symm
/-- The measure of a pair. -/
def span (P : List Int) (a b : Value) : Nat := (way P (intOf a)).length + (way P (intOf b)).length

set_option maxRecDepth 100000 in
set_option maxHeartbeats 4000000 in
theorem meet_walk (F n cap : Nat) (A : Option Addr) (l : List Tp) (a b : Nat) (w : World) (hn : l.length = n) (hn2 : n ≤ 1000) (hF : FM w F A n cap l) (hNL : NL (pars l)) (ha : a < n) (hb : b < n) (r : Int) (hr : Hid (MF (pars l) a b = r)) :
    Calls Tryd.prog 52 #[.pointer (some ⟨F, 0, none⟩), .int .i64 a, .int .i64 b] w fun e w' => e = .returned (.int .i64 r) ∧ ∃ m, w' = w.drewN m := by
  have HL := Lib.hid hn
  have HNL := Lib.hid hNL
  have HG := Lib.hid (pars_good l)
  obtain ⟨M, g, D, cd, k1, k2, k3, k4⟩ := hF
  have x2 : w.cell? ⟨F, 2, none⟩ = some (.slice (some ⟨g, 0, none⟩) n n) := k1.cell 2 _ rfl
  have x3 : w.cell? ⟨F, 3, none⟩ = some (.slice D n cd) := k1.cell 3 _ rfl
  have K3 := Lib.hid k3
  have K4 := Lib.hid k4
  have hpn : (pars l).length = n := by rw [pars_len]; exact hn
  have HPN := Lib.hid hpn
  clear k1 k2 k3 k4 hn hpn hNL
  go_enter Tryd.func52, Tryd.ntmps52
  go_wp2_with fail
  go_loopw [1, 2] (fun va vb wr => ∃ (a b m : Nat), va = .int .i64 a ∧ vb = .int .i64 b ∧ a < n ∧ b < n ∧ Hid (wr = w.drewN m) ∧ Hid (MF (pars l) a b = r)) (fun va vb _ => span (pars l) va vb)
  case atStart => exact ⟨a, b, 0, rfl, rfl, ha, hb, Lib.hid rfl, hr⟩
  case round =>
    clear ha hb hr
    obtain ⟨a, b, m, rfl, rfl, ha, hb, HW, HM⟩ := hrel
    obtain rfl := HW.out
    by_cases hab : a = b
    · subst hab
      have HE := Lib.hid (show r = (a : Int) by rw [← HM.out]; exact MF_self HG.out HNL.out (by omega) (by have := HPN.out; omega))
      go_wp2_with fail
      go_ret
      exact ⟨by rw [HE.out]; try rfl, m, rfl⟩
    · have hne : ((a : Int) != (b : Int)) = true := by rw [bne_iff_ne]; omega
      have hL := HL.out
      have hP := HPN.out
      obtain ⟨bd, hD, hbd, hcd⟩ := K4.out (by rw [deps_len]; omega)
      obtain ⟨bp, hPp, hbp, hcp⟩ := K3.out (by omega)
      injection hPp with hPp
      injection hPp with hPp
      subst hPp
      subst hD
      have da := hcd a (by rw [deps_len]; omega)
      have db := hcd b (by rw [deps_len]; omega)
      rw [deps_get] at da db
      unfold depthI at da db
      have pa := hcp a (by omega)
      have pb := hcp b (by omega)
      rw [pars_at] at pa pb
      have ra := up_range HG.out (p := a) (by omega) (by omega)
      have rb := up_range HG.out (p := b) (by omega) (by omega)
      have wa := congrArg List.length (way_cons HNL.out (p := a) (by omega) (by omega))
      have wb := congrArg List.length (way_cons HNL.out (p := b) (by omega) (by omega))
      rw [List.length_cons] at wa wb
      have HU1 : Hid ((way (pars l) (a : Nat)).length < (way (pars l) (b : Nat)).length → MF (pars l) (up (pars l) b) a = r) := Lib.hid (fun h => by
        rw [← HM.out, MF_comm HG.out HNL.out (a := a) (b := b) (by omega) (by omega) (by omega) (by omega)]
        exact (MF_up HG.out HNL.out (by omega) (by omega) (by omega) (by omega) (by omega) (by omega)).symm)
      have HU2 : Hid (¬ (way (pars l) (a : Nat)).length < (way (pars l) (b : Nat)).length → MF (pars l) (up (pars l) a) b = r) := Lib.hid (fun h => by
        rw [← HM.out]
        exact (MF_up HG.out HNL.out (by omega) (by omega) (by omega) (by omega) (by omega) (by omega)).symm)
      have HWA := Lib.hid wa
      have HWB := Lib.hid wb
      have HMN := Lib.hid (MF_neg (pars l))
      have hsp : span (pars l) (.int .i64 a) (.int .i64 b) = (way (pars l) (a : Nat)).length + (way (pars l) (b : Nat)).length := rfl
      have HSP := Lib.hid hsp
      have HSN : Hid (∀ x y : Int, span (pars l) (.int .i64 x) (.int .i64 y) = (way (pars l) x).length + (way (pars l) y).length) := Lib.hid (fun _ _ => rfl)
      rw [hP] at ra rb
      have a0 : (0 : Int) ≤ (a : Int) := by omega
      have b0 : (0 : Int) ≤ (b : Int) := by omega
      have a1 : (a : Int) < (n : Int) := by omega
      have b1 : (b : Int) < (n : Int) := by omega
      clear hcd hcp wa wb hsp hL hP hbd hbp HM
      by_cases hd : (way (pars l) (a : Nat)).length < (way (pars l) (b : Nat)).length
      · have hu1 := HU1.out hd
        have HU := Lib.hid hu1
        have hdd : decide ((way (pars l) (a : Nat)).length < (way (pars l) (b : Nat)).length) = true := by simp; omega
        clear HU1 HU2 hu1 hd
        generalize hub : up (pars l) (b : Int) = u at *
        have HUB := Lib.hid hub
        clear hub
        by_cases hu : u = -1
        · subst hu
          have HE := Lib.hid (show r = -1 by rw [← HU.out]; exact HMN.out _)
          go_wp2_with fail
          go_quiet (fail)
          go_wp2_with fail
          go_ret
          exact ⟨by rw [HE.out]; try rfl, _, by first | rfl | rw [World.drewN_drewN]⟩
        · obtain ⟨q, rfl⟩ : ∃ q : Nat, u = q := ⟨u.toNat, by omega⟩
          have hq : ((q : Int) == -1) = false := by rw [beq_eq_false_iff_ne]; omega
          go_wp2_with fail
          go_quiet (fail)
          go_wp2_with fail
          go_roundw
          case rel => exact ⟨q, a, _, rfl, rfl, by omega, ha, Lib.hid (by first | rfl | rw [World.drewN_drewN]), HU⟩
          case measure => rw [HSN.out, HSN.out, HWB.out]; omega
      · have hu1 := HU2.out hd
        have HU := Lib.hid hu1
        have hdd : decide ((way (pars l) (a : Nat)).length < (way (pars l) (b : Nat)).length) = false := by simp; omega
        clear HU1 HU2 hu1 hd
        generalize hub : up (pars l) (a : Int) = u at *
        have HUB := Lib.hid hub
        clear hub
        by_cases hu : u = -1
        · subst hu
          have HE := Lib.hid (show r = -1 by rw [← HU.out]; exact HMN.out _)
          go_wp2_with fail
          go_quiet (fail)
          go_wp2_with fail
          go_ret
          exact ⟨by rw [HE.out]; try rfl, _, by first | rfl | rw [World.drewN_drewN]⟩
        · obtain ⟨q, rfl⟩ : ∃ q : Nat, u = q := ⟨u.toNat, by omega⟩
          have hq : ((q : Int) == -1) = false := by rw [beq_eq_false_iff_ne]; omega
          go_wp2_with fail
          go_quiet (fail)
          go_wp2_with fail
          go_roundw
          case rel => exact ⟨q, b, _, rfl, rfl, by omega, hb, Lib.hid (by first | rfl | rw [World.drewN_drewN]), HU⟩
          case measure => rw [HSN.out, HSN.out, HWA.out]; omega
end Go.Proofs.YtnjigaklkalebaaDoor.For
