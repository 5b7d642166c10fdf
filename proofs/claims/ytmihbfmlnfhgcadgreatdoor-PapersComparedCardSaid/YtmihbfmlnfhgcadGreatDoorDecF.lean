/-
  THE RULES OF DECISIONS: what is wrong with them: discuss.checkDecideRules, and the reference's DecideFault.
-/
import Derived.Test.YtmihbfmlnfhgcadGreatDoorFcmp
namespace Go.Proofs.YtmihbfmlnfhgcadGreatDoor.Cal
open Go.Shelf
open Go.ChangeShapes Go.WideShapes Go.ChangeAt Go.RowKit Stm Key
set_option linter.unusedVariables false

/-- The first fault of the criteria, behind those of a list. -/
def decT (pre : List Int) : List Int → Int
  | [] => 0
  | k :: t => if k < 1 ∨ 5 < k then 4 else if (pre.any fun y => k == y) = true then 6 else decT (pre ++ [k]) t
/-- What is wrong with rules. -/
def decE (zs : List Int) (f : Int) : Int := if zs.length = 0 then 3 else if decT [] zs ≠ 0 then decT [] zs else if f < 0 ∨ 100 < f then 1 else 0
theorem decT_cons (pre : List Int) (k : Int) (t : List Int) : decT pre (k :: t) = if k < 1 ∨ 5 < k then 4 else if (pre.any fun y => k == y) = true then 6 else decT (pre ++ [k]) t := rfl
theorem decT_ok : ∀ (zs pre : List Int), decT pre zs = 0 → ∀ k ∈ zs, 1 ≤ k ∧ k ≤ 5
  | [], _, _, k, hk => by simp at hk
  | x :: t, pre, h, k, hk => by
    rw [decT_cons] at h
    split at h
    · exact absurd h (by decide)
    · split at h
      · exact absurd h (by decide)
      · rcases List.mem_cons.1 hk with rfl | hk
        · omega
        · exact decT_ok t _ h k hk
theorem decE_ok {zs : List Int} {f : Int} (h : decE zs f = 0) : ∀ k ∈ zs, 1 ≤ k ∧ k ≤ 5 := by
  unfold decE at h
  by_cases h0 : zs.length = 0
  · rw [if_pos h0] at h; exact absurd h (by decide)
  · rw [if_neg h0] at h
    by_cases h1 : decT [] zs ≠ 0
    · rw [if_pos h1] at h; exact absurd h h1
    · exact decT_ok zs [] (by simpa using h1)
theorem take_snocI {l : List Int} {k : Nat} (h : k < l.length) : l.take (k + 1) = l.take k ++ [l[k]] := by
  rw [List.take_succ_eq_append_getElem h]
theorem in_any (n lo hi : Int) (w : World) (b : Bool) (hb : (decide (lo ≤ n) && decide (n ≤ hi)) = b) : Calls Tryz.prog 27 #[.int .i64 n, .int .i64 lo, .int .i64 hi] w fun e w' => e = .returned (.bool b) ∧ w' = w := by
  subst hb
  by_cases h1 : lo ≤ n
  · by_cases h2 : n ≤ hi
    · have e1 : decide (lo ≤ n) = true := by simpa using h1
      have e2 : decide (n ≤ hi) = true := by simpa using h2
      rw [e1, e2]
      go_enter Tryz.func27, Tryz.ntmps27
      go_wp2_with fail
      go_ret
      exact ⟨rfl, rfl⟩
    · have e1 : decide (lo ≤ n) = true := by simpa using h1
      have e2 : decide (n ≤ hi) = false := by simpa using h2
      rw [e1, e2]
      go_enter Tryz.func27, Tryz.ntmps27
      go_wp2_with fail
      go_ret
      exact ⟨rfl, rfl⟩
  · have e1 : decide (lo ≤ n) = false := by simpa using h1
    rw [e1, Bool.false_and]
    go_enter Tryz.func27, Tryz.ntmps27
    go_wp2_with fail
    go_ret
    exact ⟨rfl, rfl⟩

set_option maxRecDepth 100000 in
set_option maxHeartbeats 4000000 in
theorem decchk_walk (A : Option Addr) (n c : Nat) (zs : List Int) (f : Int) (w : World) (hn : zs.length = n) (hn2 : n ≤ 1000) (hnc : n ≤ c) (hc : c ≤ 1000000) (hI : IL w A zs) (hf : -1000 ≤ f) (hf2 : f ≤ 1000) (r : Int) (hr : Hid (decE zs f = r)) :
    Calls Tryz.prog 21 #[.agg #[.slice A n c, .int .i64 f]] w fun e w' => e = .returned (.int .i64 r) ∧ Below w.heap.size w w' := by
  have HN := Lib.hid hn
  have X0 := Lib.hid (Blk.new w 27 #[.slice A n c, .int .i64 f])
  have B0 := Lib.hid ((Below.refl w.heap.size w).alloc (Nat.le_refl _) (.cells #[.slice A n c, .int .i64 f] 27))
  have I0 := Lib.hid (hI.below B0.out)
  obtain ⟨q, hq⟩ : ∃ q, decT [] zs = q := ⟨_, rfl⟩
  have HR := Lib.hid (show (if n = 0 then 3 else if q ≠ 0 then q else if f < 0 ∨ 100 < f then 1 else 0 : Int) = r by rw [← hr.out, ← hn, ← hq]; rfl)
  have HQ := Lib.hid (show decT (zs.take 0) (zs.drop 0) = q from hq)
  clear hn hI hq hr
  go_enter Tryz.func21, Tryz.ntmps21
  go_upto_region 1 with fail
  generalize hwa : w.alloc (.cells #[.slice A n c, .int .i64 f] 27) = wa at *
  clear hwa
  have x0 := X0.out.cell 0 _ rfl
  have x1 := X0.out.cell 1 _ rfl
  have x2 := X0.out.lt
  by_cases hn0 : n = 0
  · subst hn0
    have HE := Lib.hid (show (3 : Int) = r by have := HR.out; rwa [if_pos rfl] at this)
    go_wp2_with fail
    go_ret
    exact ⟨Stm.ret_int HE.out, B0.out⟩
  · have HR2 := Lib.hid (show (if q ≠ 0 then q else if f < 0 ∨ 100 < f then 1 else 0 : Int) = r by have := HR.out; rwa [if_neg hn0] at this)
    have en0 : ((n : Int) == 0) = false := by simp; omega
    obtain ⟨b, hA, hbl, hcl⟩ := I0.out.2 (by rw [HN.out]; omega)
    subst hA
    have HCL := Lib.hid hcl
    clear hcl hn0 HR
    go_wp2_with fail
    go_loop [12] (fun i => ∃ k : Nat, k ≤ n ∧ i = .int .i64 k ∧ Hid (decT (zs.take k) (zs.drop k) = q)) (fun i => n - (intOf i).toNat)
    case atStart => exact ⟨0, Nat.zero_le _, rfl, HQ⟩
    case round =>
      clear HQ
      obtain ⟨k, hk, rfl, HT⟩ := hrel
      by_cases hlt : k < n
      · have hkl : k < zs.length := by rw [HN.out]; exact hlt
        have c0 := HCL.out k hkl
        have HT2 := Lib.hid (show decT (zs.take k) (zs[k] :: zs.drop (k + 1)) = q by rw [← HT.out, List.drop_eq_getElem_cons hkl])
        have HTK := Lib.hid (take_snocI hkl)
        have hx := I0.out.1 _ (List.getElem_mem hkl)
        generalize zs[k] = x at *
        have HCO := Lib.hid (AnyE.slices_Contains (α := Int) Tryz.laysSlE31_f28 (Value.int .i64) (fun x y => x == y) (EqlAt.int _ _ _) b 0 k c zs x wa (by omega) (by omega) (fun j hj => by
          rw [Nat.zero_add, getElem!_pos zs j (by omega)]; exact HCL.out j (by omega)))
        have a0 : (0 : Int) ≤ (k : Int) := by omega
        have a1 : (k : Int) < (n : Int) := by omega
        have a2 : (k : Int) ≤ (c : Int) := by omega
        by_cases hx1 : x < 1
        · have HE := Lib.hid (show (4 : Int) = r by
            have h := HT2.out; rw [decT_cons, if_pos (Or.inl hx1)] at h
            have := HR2.out; rw [← h] at this; simpa using this)
          have d1 : decide (x < 1) = true := by simpa using hx1
          go_wp2_with fail
          go_ret
          exact ⟨Stm.ret_int HE.out, B0.out⟩
        · have d1 : decide (x < 1) = false := by simpa using hx1
          by_cases hx5 : 5 < x
          · have HE := Lib.hid (show (4 : Int) = r by
              have h := HT2.out; rw [decT_cons, if_pos (Or.inr hx5)] at h
              have := HR2.out; rw [← h] at this; simpa using this)
            have d2 : decide (x > 5) = true := by simpa using hx5
            go_wp2_with fail
            go_ret
            exact ⟨Stm.ret_int HE.out, B0.out⟩
          · have d2 : decide (x > 5) = false := by simp; omega
            have HT3 := Lib.hid (show (if ((zs.take k).any fun y => x == y) = true then 6 else decT (zs.take (k + 1)) (zs.drop (k + 1))) = q by
              have h := HT2.out; rw [decT_cons, if_neg (by omega)] at h; rw [HTK.out]; exact h)
            obtain ⟨bb, hbb⟩ : ∃ bb, ((zs.take k).any fun y => x == y) = bb := ⟨_, rfl⟩
            rw [hbb] at HCO HT3
            clear hbb HT HT2 hx1 hx5
            cases bb
            · have HE := Lib.hid (show decT (zs.take (k + 1)) (zs.drop (k + 1)) = q by have := HT3.out; simpa using this)
              go_wp2_with fail
              refine (HCO.out).mono ?_; rintro e w1 ⟨rfl, rfl⟩
              go_wp2_with fail
              go_round
              case rel => exact ⟨k + 1, by omega, by go_num, HE⟩
              case measure => simp [intOf]; omega
            · have HE := Lib.hid (show (6 : Int) = r by
                have h := HT3.out; rw [if_pos rfl] at h
                have := HR2.out; rw [← h] at this; simpa using this)
              go_wp2_with fail
              refine (HCO.out).mono ?_; rintro e w1 ⟨rfl, rfl⟩
              go_wp2_with fail
              go_ret
              exact ⟨Stm.ret_int HE.out, B0.out⟩
      · have hkn : k = n := by omega
        subst hkn
        have HR3 := Lib.hid (show (if f < 0 ∨ 100 < f then 1 else 0 : Int) = r by
          have h := HT.out; rw [List.drop_eq_nil_of_le (by rw [HN.out]; exact Nat.le_refl _)] at h
          have := HR2.out; rw [← h] at this; simpa [decT] using this)
        clear HT HR2
        by_cases hf0 : f < 0
        · have HE := Lib.hid (show (1 : Int) = r by have := HR3.out; rwa [if_pos (Or.inl hf0)] at this)
          have d1 : decide (f < 0) = true := by simpa using hf0
          go_wp2_with fail
          go_ret
          exact ⟨Stm.ret_int HE.out, B0.out⟩
        · have d1 : decide (f < 0) = false := by simpa using hf0
          by_cases hf1 : 100 < f
          · have HE := Lib.hid (show (1 : Int) = r by have := HR3.out; rwa [if_pos (Or.inr hf1)] at this)
            have d2 : decide (f > 100) = true := by simpa using hf1
            go_wp2_with fail
            go_ret
            exact ⟨Stm.ret_int HE.out, B0.out⟩
          · have HE := Lib.hid (show (0 : Int) = r by have := HR3.out; rwa [if_neg (by omega)] at this)
            have d2 : decide (f > 100) = false := by simp; omega
            go_wp2_with fail
            go_ret
            exact ⟨Stm.ret_int HE.out, B0.out⟩
set_option maxRecDepth 100000 in
set_option maxHeartbeats 4000000 in
theorem decref_walk (A : Option Addr) (n c : Nat) (zs : List Int) (f : Int) (w : World) (hn : zs.length = n) (hn2 : n ≤ 1000) (hnc : n ≤ c) (hc : c ≤ 1000000) (hI : IL w A zs) (hf : -1000 ≤ f) (hf2 : f ≤ 1000) (r : Int) (hr : Hid (decE zs f = r)) :
    Calls Tryz.prog 10 #[.agg #[.slice A n c, .int .i64 f]] w fun e w' => e = .returned (.int .i64 r) ∧ Below w.heap.size w w' := by
  have HN := Lib.hid hn
  have X0 := Lib.hid (Blk.new w 27 #[.slice A n c, .int .i64 f])
  have B0 := Lib.hid ((Below.refl w.heap.size w).alloc (Nat.le_refl _) (.cells #[.slice A n c, .int .i64 f] 27))
  have I0 := Lib.hid (hI.below B0.out)
  obtain ⟨q, hq⟩ : ∃ q, decT [] zs = q := ⟨_, rfl⟩
  have HR := Lib.hid (show (if n = 0 then 3 else if q ≠ 0 then q else if f < 0 ∨ 100 < f then 1 else 0 : Int) = r by rw [← hr.out, ← hn, ← hq]; rfl)
  have HQ := Lib.hid (show decT (zs.take 0) (zs.drop 0) = q from hq)
  clear hn hI hq hr
  go_enter Tryz.func10, Tryz.ntmps10
  go_upto_region 1 with fail
  generalize hwa : w.alloc (.cells #[.slice A n c, .int .i64 f] 27) = wa at *
  clear hwa
  have x0 := X0.out.cell 0 _ rfl
  have x1 := X0.out.cell 1 _ rfl
  have x2 := X0.out.lt
  by_cases hn0 : n = 0
  · subst hn0
    have HE := Lib.hid (show (3 : Int) = r by have := HR.out; rwa [if_pos rfl] at this)
    go_wp2_with fail
    go_ret
    exact ⟨Stm.ret_int HE.out, B0.out⟩
  · have HR2 := Lib.hid (show (if q ≠ 0 then q else if f < 0 ∨ 100 < f then 1 else 0 : Int) = r by have := HR.out; rwa [if_neg hn0] at this)
    have en0 : ((n : Int) == 0) = false := by simp; omega
    obtain ⟨b, hA, hbl, hcl⟩ := I0.out.2 (by rw [HN.out]; omega)
    subst hA
    have HCL := Lib.hid hcl
    clear hcl hn0 HR
    go_wp2_with fail
    go_loop [12] (fun i => ∃ k : Nat, k ≤ n ∧ i = .int .i64 k ∧ Hid (decT (zs.take k) (zs.drop k) = q)) (fun i => n - (intOf i).toNat)
    case atStart => exact ⟨0, Nat.zero_le _, rfl, HQ⟩
    case round =>
      clear HQ
      obtain ⟨k, hk, rfl, HT⟩ := hrel
      by_cases hlt : k < n
      · have hkl : k < zs.length := by rw [HN.out]; exact hlt
        have c0 := HCL.out k hkl
        have HT2 := Lib.hid (show decT (zs.take k) (zs[k] :: zs.drop (k + 1)) = q by rw [← HT.out, List.drop_eq_getElem_cons hkl])
        have HTK := Lib.hid (take_snocI hkl)
        have hx := I0.out.1 _ (List.getElem_mem hkl)
        generalize zs[k] = x at *
        have HCO := Lib.hid (AnyE.slices_Contains (α := Int) Tryz.laysSlE31_f28 (Value.int .i64) (fun x y => x == y) (EqlAt.int _ _ _) b 0 k c zs x wa (by omega) (by omega) (fun j hj => by
          rw [Nat.zero_add, getElem!_pos zs j (by omega)]; exact HCL.out j (by omega)))
        have a0 : (0 : Int) ≤ (k : Int) := by omega
        have a1 : (k : Int) < (n : Int) := by omega
        have a2 : (k : Int) ≤ (c : Int) := by omega
        by_cases hx1 : x < 1 ∨ 5 < x
        · have HE := Lib.hid (show (4 : Int) = r by
            have h := HT2.out; rw [decT_cons, if_pos hx1] at h
            have := HR2.out; rw [← h] at this; simpa using this)
          have HIN := Lib.hid (in_any x 1 5 wa false (by simp; omega))
          clear hx1
          go_wp2_with fail
          refine (HIN.out).mono ?_; rintro e w1 ⟨rfl, rfl⟩
          go_wp2_with fail
          go_ret
          exact ⟨Stm.ret_int HE.out, B0.out⟩
        · have HIN := Lib.hid (in_any x 1 5 wa true (by simp; omega))
          have HT3 := Lib.hid (show (if ((zs.take k).any fun y => x == y) = true then 6 else decT (zs.take (k + 1)) (zs.drop (k + 1))) = q by
            have h := HT2.out; rw [decT_cons, if_neg hx1] at h; rw [HTK.out]; exact h)
          obtain ⟨bb, hbb⟩ : ∃ bb, ((zs.take k).any fun y => x == y) = bb := ⟨_, rfl⟩
          rw [hbb] at HCO HT3
          clear hbb HT HT2 hx1
          go_wp2_with fail
          refine (HIN.out).mono ?_; rintro e w1 ⟨rfl, rfl⟩
          cases bb
          · have HE := Lib.hid (show decT (zs.take (k + 1)) (zs.drop (k + 1)) = q by have := HT3.out; simpa using this)
            go_wp2_with fail
            refine (HCO.out).mono ?_; rintro e w1 ⟨rfl, rfl⟩
            go_wp2_with fail
            go_round
            case rel => exact ⟨k + 1, by omega, by go_num, HE⟩
            case measure => simp [intOf]; omega
          · have HE := Lib.hid (show (6 : Int) = r by
              have h := HT3.out; rw [if_pos rfl] at h
              have := HR2.out; rw [← h] at this; simpa using this)
            go_wp2_with fail
            refine (HCO.out).mono ?_; rintro e w1 ⟨rfl, rfl⟩
            go_wp2_with fail
            go_ret
            exact ⟨Stm.ret_int HE.out, B0.out⟩
      · have hkn : k = n := by omega
        subst hkn
        have HR3 := Lib.hid (show (if f < 0 ∨ 100 < f then 1 else 0 : Int) = r by
          have h := HT.out; rw [List.drop_eq_nil_of_le (by rw [HN.out]; exact Nat.le_refl _)] at h
          have := HR2.out; rw [← h] at this; simpa [decT] using this)
        clear HT HR2
        by_cases hf0 : f < 0 ∨ 100 < f
        · have HE := Lib.hid (show (1 : Int) = r by have := HR3.out; rwa [if_pos hf0] at this)
          have HIN := Lib.hid (in_any f 0 100 wa false (by simp; omega))
          clear hf0
          go_wp2_with fail
          refine (HIN.out).mono ?_; rintro e w1 ⟨rfl, rfl⟩
          go_wp2_with fail
          go_ret
          exact ⟨Stm.ret_int HE.out, B0.out⟩
        · have HE := Lib.hid (show (0 : Int) = r by have := HR3.out; rwa [if_neg hf0] at this)
          have HIN := Lib.hid (in_any f 0 100 wa true (by simp; omega))
          clear hf0
          go_wp2_with fail
          refine (HIN.out).mono ?_; rintro e w1 ⟨rfl, rfl⟩
          go_wp2_with fail
          go_ret
          exact ⟨Stm.ret_int HE.out, B0.out⟩
end Go.Proofs.YtmihbfmlnfhgcadGreatDoor.Cal
