/-
  MARKS, the seventh chapter's way: the reference's total, Lowest, scores and MeanOf (committeeref2).
-/
import Derived.Test.YtmihbfmlnfhgcadGreatDoorIntL
import Derived.Handy
import Derived.RegionTactic
import Derived.StillTailTactics
import Derived.Deep.QuietTactic
import Derived.BigQuiet
import Derived.IntWalk
namespace Go.Proofs.YtmihbfmlnfhgcadGreatDoor.Cal
open Go.ChangeShapes Go.WideShapes Go.ChangeAt Go.RowKit Stm Key
set_option linter.unusedVariables false

set_option maxHeartbeats 1000000 in
theorem total2_walk (A : Option Addr) (n cap : Nat) (l : List Int) (w : World) (hn : l.length = n) (hn2 : n ≤ 1000) (hI : IL w A l) :
    Calls Tryz.prog 52 #[.slice A n cap] w fun e w' => e = .returned (.int .i64 (sumI l)) ∧ w' = w := by
  have HN := Lib.hid hn
  have HI := Lib.hid hI
  clear hn hI
  go_enter Tryz.func52, Tryz.ntmps52
  go_wp2_with fail
  go_loop [3, 8] (fun s i => ∃ (k : Nat) (t : Int), k ≤ n ∧ i = .int .i64 k ∧ s = .int .i64 t ∧ Hid (sumI (l.take k) = t)) (fun _ i => n - (intOf i).toNat)
  case atStart => exact ⟨0, 0, Nat.zero_le _, rfl, rfl, Lib.hid rfl⟩
  case round =>
    obtain ⟨k, t, hk, rfl, rfl, HT⟩ := hrel
    by_cases hlt : k < n
    · have hkl : k < l.length := by rw [HN.out]; exact hlt
      obtain ⟨b, hA, hbl, hc⟩ := HI.out.2 (by omega)
      subst hA
      have c0 := hc k hkl
      have hx := HI.out.1 _ (List.getElem_mem hkl)
      have hb := sumI_bd _ (take_mem HI.out.1 k)
      rw [HT.out, List.length_take] at hb
      have HNX := Lib.hid (show sumI (l.take (k + 1)) = t + l[k] by rw [sumI_next hkl, HT.out])
      obtain ⟨hx0, hx1⟩ := hx
      obtain ⟨hb0, hb1⟩ := hb
      have hb2 : t ≤ 10000 := by omega
      generalize l[k] = x at *
      have a0 : (0 : Int) ≤ (k : Int) := by omega
      have a1 : (k : Int) < (n : Int) := by omega
      clear hc hb1
      go_wp2_with fail
      go_round
      case rel => exact ⟨k + 1, t + x, by omega, by go_num, rfl, HNX⟩
      case measure => simp [intOf]; omega
    · have hkn : k = n := by omega
      subst hkn
      have HE := Lib.hid (show t = sumI l by rw [← HT.out, List.take_of_length_le (by rw [HN.out]; exact Nat.le_refl _)])
      go_wp2_with fail
      go_ret
      exact ⟨by rw [← HE.out]; try rfl, rfl⟩
theorem gcd_stepD (x y : Nat) (h : y ≠ 0) : Nat.gcd y (x % y) = Nat.gcd x y := by
  rw [Nat.gcd_comm x y, Nat.gcd_rec y x, Nat.gcd_comm]
/-! ### The scores by their value -/
def oth (xs : List Int) (k : Nat) : List Int := (List.range k).flatMap fun (j : Nat) => xs.filter (· == (j : Int))
theorem oth_next (xs : List Int) (k : Nat) : oth xs (k + 1) = oth xs k ++ xs.filter (· == (k : Int)) := by
  unfold oth; rw [List.range_succ, List.flatMap_append]; simp
theorem oth_perm (xs : List Int) : ∀ k : Nat, (oth xs k).Perm (xs.filter fun x => decide (0 ≤ x) && decide (x < (k : Int)))
  | 0 => by
    have : (xs.filter fun x => decide (0 ≤ x) && decide (x < ((0 : Nat) : Int))) = [] := List.filter_eq_nil_iff.2 (fun x _ => by simp)
    rw [this]; exact List.Perm.refl _
  | k + 1 => by
    rw [oth_next]
    have h := List.filter_append_perm (fun x : Int => decide (x < (k : Int))) (xs.filter fun x => decide (0 ≤ x) && decide (x < ((k + 1 : Nat) : Int)))
    rw [List.filter_filter, List.filter_filter] at h
    refine List.Perm.trans (List.Perm.append ((oth_perm xs k).trans (List.Perm.of_eq (List.filter_congr fun x _ => ?_))) (List.Perm.of_eq (List.filter_congr fun x _ => ?_))) h
    · by_cases h1 : 0 ≤ x <;> by_cases h2 : x < (k : Int) <;> simp [h1, h2] <;> omega
    · by_cases h1 : x = (k : Int)
      · subst h1; simp; omega
      · have e1 : (x == (k : Int)) = false := by simpa using h1
        rw [e1]
        symm
        simp
        omega
theorem oth_all {xs : List Int} (h : ∀ x ∈ xs, 0 ≤ x ∧ x ≤ 10) : (oth xs 11).Perm xs := by
  have h2 := oth_perm xs 11
  rw [List.filter_eq_self.2 (fun x hx => by have := h x hx; simp; omega)] at h2
  exact h2
theorem oth_len (xs : List Int) (k : Nat) : (oth xs k).length ≤ xs.length := by
  rw [(oth_perm xs k).length_eq]; exact List.length_filter_le _ _
theorem oth_mem {xs : List Int} (h : ∀ x ∈ xs, 0 ≤ x ∧ x ≤ 10) (k : Nat) : ∀ x ∈ oth xs k, 0 ≤ x ∧ x ≤ 10 := fun x hx => h x (List.mem_filter.1 ((oth_perm xs k).mem_iff.1 hx)).1
/-- The rows' law again. -/
theorem own_bel {w w' : World} {base E S n : Nat} {v : Value} {xs : List Value} (h : w.ownsRow base E S v n xs) (hb : Below w.heap.size w w') : w'.ownsRow base E S v n xs :=
  h.kept (row := none) ⟨hb.os, hb.tape, hb.output, hb.size, fun k hk _ => hb.block k hk⟩ (by
    rcases hh : v.ownBlock with _ | g
    · exact Or.inl rfl
    · exact Or.inr (by simp))
/-- A list of numbers handed back. -/
def LRet (zs : List Int) (w : World) (e : Ending) (w' : World) : Prop := ∃ (A : Option Addr) (c : Nat), e = .returned (.slice A zs.length c) ∧ IL w' A zs ∧ Below w.heap.size w w'
set_option maxRecDepth 100000 in
set_option maxHeartbeats 4000000 in
theorem scores2_walk (A : Option Addr) (n cap : Nat) (l : List Mk) (p : ByteArray) (w : World) (hn : l.length = n) (hn2 : n ≤ 256) (hM : ML w A l) (hs : ∀ x ∈ l, 0 ≤ x.s ∧ x.s ≤ 10) :
    Calls Tryz.prog 51 #[.slice A n cap, .string p] w (LRet (oth (scB l p) 11) w) := by
  have HN := Lib.hid hn
  have HM := Lib.hid hM
  have HSM := Lib.hid (oth_mem (scB_mem hs p) 11)
  have HLB := Lib.hid (fun k => Nat.le_trans (oth_len (scB l p) k) (Nat.le_trans (scB_len l p) (by rw [hn]; exact hn2)))
  obtain ⟨i0, hi0, hz0, hz1', hz2'⟩ := info_parts infoI1
  have HI := Lib.hid hi0
  have Z0 := Lib.hid hz0
  have Z1 := Lib.hid hz1'
  have Z2 := Lib.hid hz2'
  have HTK := Lib.hid (show l.take n = l from List.take_of_length_le (by rw [hn]; exact Nat.le_refl _))
  clear hn hM hs hi0 hz0 hz1' hz2'
  go_enter Tryz.func51, Tryz.ntmps51
  go_wp2_with fail
  go_loopw [5, 9] (fun o i wr => ∃ (k m : Nat) (Ao : Option Addr) (c : Nat), k ≤ 11 ∧ i = .int .i64 k ∧ o = .slice Ao m c ∧ Hid ((oth (scB l p) k).length = m) ∧ Hid (wr.ownsRow w.heap.size 3 1 (.slice Ao m c) m ((oth (scB l p) k).map (Value.int .i64))) ∧ Hid (Below w.heap.size w wr)) (fun _ i _ => 11 - (intOf i).toNat)
  case atStart => exact ⟨0, 0, none, 0, Nat.zero_le _, rfl, rfl, Lib.hid rfl, Lib.hid (World.ownsRow_nil _ _ _ _), Lib.hid (Below.refl _ _)⟩
  case round =>
    obtain ⟨k, m, Ao, c, hk, rfl, rfl, HMl, HO, HB⟩ := hrel
    have hzr := HB.out.size
    by_cases hlt : k < 11
    · have hm0 := HLB.out k
      rw [HMl.out] at hm0
      have a0 : (0 : Int) ≤ (k : Int) := by omega
      have a1 : (k : Int) < 11 := by omega
      go_wp2_with fail
      go_loopw [5, 14] (fun o j wq => ∃ (i m : Nat) (Ao : Option Addr) (c : Nat), i ≤ n ∧ j = .int .i64 i ∧ o = .slice Ao m c ∧ m ≤ 256 + i ∧ Hid ((oth (scB l p) k ++ (scB (l.take i) p).filter (· == (k : Int))).length = m) ∧ Hid (wq.ownsRow w.heap.size 3 1 (.slice Ao m c) m ((oth (scB l p) k ++ (scB (l.take i) p).filter (· == (k : Int))).map (Value.int .i64))) ∧ Hid (Below w.heap.size w wq)) (fun _ j _ => n - (intOf j).toNat)
      case atStart => exact ⟨0, m, Ao, c, Nat.zero_le _, rfl, rfl, by omega, Lib.hid (by simpa [scB] using HMl.out), Lib.hid (by simpa [scB] using HO.out), HB⟩
      case round =>
        clear HMl HO HB hzr hm0
        obtain ⟨i, m, Ao, c, hi, rfl, rfl, hmi, HMl, HO, HB⟩ := hrel
        have hzr := HB.out.size
        by_cases hlt2 : i < n
        · have hkl : i < l.length := by rw [HN.out]; exact hlt2
          obtain ⟨g, hA, hgW, hcl⟩ := HM.out.2 (by omega)
          subst hA
          obtain ⟨d0, d1, d2⟩ := hcl i hkl
          have c0 := (HB.out.cell (p := ⟨g, i * 3, none⟩) hgW).trans d0
          have c1 := (HB.out.cell (p := ⟨g, i * 3 + 1, none⟩) hgW).trans d1
          have c2 := (HB.out.cell (p := ⟨g, i * 3 + 2, none⟩) hgW).trans d2
          have HNX := Lib.hid (show (scB (l.take (i + 1)) p).filter (· == (k : Int)) = (scB (l.take i) p).filter (· == (k : Int)) ++ (if eqB l[i].p p = true then (if (l[i].s == (k : Int)) = true then [(k : Int)] else []) else []) by
            rw [scB_next (p := p) hkl, List.filter_append]
            congr 1
            by_cases h1 : eqB l[i].p p = true
            · rw [if_pos h1, if_pos h1]
              by_cases h2 : l[i].s = (k : Int)
              · rw [h2]; simp
              · have e2 : (l[i].s == (k : Int)) = false := by simpa using h2
                rw [if_neg (by simp [e2])]; simp [e2]
            · rw [if_neg h1, if_neg h1]; rfl)
          clear hcl d0 d1 d2
          generalize l[i] = x at *
          obtain ⟨xp, xh, xs⟩ := x
          simp only at c0 c1 c2 HNX
          have q0 : (0 : Int) ≤ (i : Int) := by omega
          have q1 : (i : Int) < (n : Int) := by omega
          have B1 := Lib.hid (HB.out.alloc hzr (.cells #[.string xp, .string xh, .int .i64 xs] 51))
          have O1 := Lib.hid (own_bel HO.out ((Below.refl _ _).alloc (Nat.le_refl _) (.cells #[.string xp, .string xh, .int .i64 xs] 51)))
          clear HO HB
          by_cases hb : eqB xp p = true
          · obtain rfl := (eqB_iff _ _).1 hb
            by_cases hxs : xs = (k : Int)
            · subst hxs
              have HNE := Lib.hid (show oth (scB l xp) k ++ (scB (l.take (i + 1)) xp).filter (· == (k : Int)) = (oth (scB l xp) k ++ (scB (l.take i) xp).filter (· == (k : Int))) ++ [(k : Int)] by rw [HNX.out, if_pos hb, if_pos (by simp), List.append_assoc])
              have HMP := Lib.hid (show (oth (scB l xp) k ++ (scB (l.take (i + 1)) xp).filter (· == (k : Int))).map (Value.int .i64) = (oth (scB l xp) k ++ (scB (l.take i) xp).filter (· == (k : Int))).map (Value.int .i64) ++ [.int .i64 (k : Int)] by rw [HNE.out, List.map_append]; rfl)
              clear hb HNX
              go_wp2_with (at_builtin; (refine wpList_append_lies _ rfl _ _ _ rfl w.heap.size 3 i0 _ 1 8 Tryz.underlying22 HI.out Z0.out Z1.out Z2.out rfl (by omega) (.slice Ao m c) m ((oth (scB l xp) k ++ (scB (l.take i) xp).filter (· == (k : Int))).map (Value.int .i64)) rfl (O1.out.alloc _) ⟨wr.heap.size + 1, 0, none⟩ 1 1 [.int .i64 (k : Int)] rfl rfl (World.news_of_block (cs := #[.int .i64 (k : Int)]) (t := 3) (fr := (0, 0)) (new_at (by simp))) (by simp [Value.oneCell']) (by omega) (by unfold maxLen; omega) (by omega) (by simp; omega) (wr.heap.size + 1 + 1) (by simp) ?_); intro gg cap' w5 hown hgrow hat hgl; (have O5 := Lib.hid (show w5.ownsRow w.heap.size 3 1 (.slice (some ⟨gg, 0, none⟩) (m + 1) cap') (m + 1) ((oth (scB l xp) k ++ (scB (l.take (i + 1)) xp).filter (· == (k : Int))).map (Value.int .i64)) by rw [HMP.out]; exact hown)); (have B5 := Lib.hid ((B1.out.alloc B1.out.size (.cells #[.int .i64 (k : Int)] 3)).grown hgrow (by simp; omega) (fun g e => (O1.out.lt g e).1))); clear hown hgrow hat)
              go_roundw
              case rel => exact ⟨i + 1, m + 1, _, _, by omega, by go_num, rfl, by omega, Lib.hid (by rw [HNE.out, List.length_append, HMl.out]; rfl), O5, B5⟩
              case measure => simp [intOf]; omega
            · have e2 : (xs == (k : Int)) = false := by simpa using hxs
              have HNE := Lib.hid (show (scB (l.take (i + 1)) xp).filter (· == (k : Int)) = (scB (l.take i) xp).filter (· == (k : Int)) by rw [HNX.out, if_pos hb, if_neg (by simp [e2]), List.append_nil])
              clear hb HNX
              go_wp2_with fail
              go_roundw
              case rel => exact ⟨i + 1, m, Ao, c, by omega, by go_num, rfl, by omega, Lib.hid (by rw [HNE.out]; exact HMl.out), Lib.hid (by rw [HNE.out]; exact O1.out), B1⟩
              case measure => simp [intOf]; omega
          · have HNE := Lib.hid (show (scB (l.take (i + 1)) p).filter (· == (k : Int)) = (scB (l.take i) p).filter (· == (k : Int)) by rw [HNX.out, if_neg hb, List.append_nil])
            have e1 : (xp.toList == p.toList) = false := by
              have : eqB xp p = false := by simpa using hb
              exact this
            have e2 : ¬ xp.toList = p.toList := by simpa using e1
            have e3 : ¬ p.toList = xp.toList := fun e => e2 e.symm
            clear hb HNX
            go_wp2_with fail
            go_roundw
            case rel => exact ⟨i + 1, m, Ao, c, by omega, by go_num, rfl, by omega, Lib.hid (by rw [HNE.out]; exact HMl.out), Lib.hid (by rw [HNE.out]; exact O1.out), B1⟩
            case measure => simp [intOf]; omega
        · have hin : i = n := by omega
          subst hin
          have HL2 := HMl.out
          have HO2 := HO.out
          rw [HTK.out, ← oth_next] at HL2 HO2
          have L2 := Lib.hid HL2
          have O2 := Lib.hid HO2
          clear HL2 HO2 HMl HO
          go_wp2_with fail
          go_roundw
          case rel => exact ⟨k + 1, m, Ao, c, by omega, by go_num, rfl, L2, O2, HB⟩
          case measure => simp [intOf]; omega
    · have hkn : k = 11 := by omega
      subst hkn
      have HRES := Lib.hid (show LRet (oth (scB l p) 11) w (.returned (.slice Ao m c)) wr from ⟨Ao, c, by rw [HMl.out], row_il HO.out HMl.out HSM.out, HB.out⟩)
      clear HMl HO
      go_wp2_with fail
      go_ret
      exact HRES.out
end Go.Proofs.YtmihbfmlnfhgcadGreatDoor.Cal
