/-
  THE CONTRACTS OF THE PROGRAM'S SHEETS: syntax.Distinct, checkMost, checkKind, the closures, index.Of, newSheet, CheckSheet.
-/
import Derived.Test.YthglfcfnejjpjaaGreatDoorSheetM
import Derived.Test.YthglfcfnejjpjaaGreatDoorShelf
import Derived.Deep.RegionLaw
namespace Go.Proofs.YthglfcfnejjpjaaGreatDoor.Rev
open Go.ChangeShapes Go.WideShapes Go.ChangeAt Go.RowKit Stm Key
set_option linter.unusedVariables false

theorem hasO_flip (ss : List ByteArray) (s : ByteArray) (m : Nat) (hm : ss.length = m) : ((ss.take m).any fun y => s.toList == y.toList) = hasO ss s := by
  rw [← hm, List.take_length]; unfold hasO eqS
  congr 1; funext y
  rw [Bool.eq_iff_iff, beq_iff_eq, beq_iff_eq]; exact eq_comm
/-- Contains, over a list of strings that lies in memory. -/
theorem hasO_walk (A : Option Addr) (c : Nat) (ss : List ByteArray) (s : ByteArray) (w : World) (hS : SL w A ss) (hl : ss.length ≤ 1000) :
    Calls Tryz.prog 30 #[.slice A ss.length c, .string s] w fun e w' => e = .returned (.bool (hasO ss s)) ∧ w' = w := by
  by_cases h0 : ss.length = 0
  · have : ss = [] := List.length_eq_zero_iff.1 h0
    subst this
    exact AnyE.slices_Contains_empty Tryz.laysSlE31_f30 A c (.string s) w
  · obtain ⟨b, hA, hbl, hc⟩ := hS.2 (by omega)
    subst hA
    have h := AnyE.slices_Contains (α := ByteArray) Tryz.laysSlE31_f30 Value.string (fun x y => x.toList == y.toList) (EqlAt.string _ _) b 0 ss.length c ss s w (Nat.le_refl _) (by omega) (fun j hj => by
      rw [Nat.zero_add, getElem!_pos ss j hj]; exact hc j hj)
    rw [hasO_flip ss s _ rfl] at h
    exact h
theorem sl_take {w : World} {A : Option Addr} {ss : List ByteArray} (h : SL w A ss) (k : Nat) : SL w A (ss.take k) :=
  ⟨fun x hx => h.1 x (List.mem_of_mem_take hx), fun h0 => by
    obtain ⟨b, hA, hlt, hc⟩ := h.2 (by rw [List.length_take] at h0; omega)
    exact ⟨b, hA, hlt, fun i hi => by
      have hi' : i < ss.length := by rw [List.length_take] at hi; omega
      rw [List.getElem_take]; exact hc i hi'⟩⟩

set_option maxHeartbeats 4000000 in
theorem distinct_walk (A : Option Addr) (n cap : Nat) (ss : List ByteArray) (most : Nat) (w : World) (hn : ss.length = n) (hn2 : n ≤ 1000) (hnc : n ≤ cap) (hm : most ≤ 1000000) (hS : SL w A ss) (r : Int) (hr : Hid ((if most < n then 2 else distE [] ss) = r)) :
    Calls Tryz.prog 60 #[.slice A n cap, .int .i64 most] w fun e w' => e = .returned (.int .i64 r) ∧ Below w.heap.size w w' := by
  have HS := Lib.hid hS
  have HL := Lib.hid hn
  clear hS hn
  by_cases h0 : most < n
  · have hd : decide ((n : Int) > (most : Int)) = true := by simp; omega
    have HR : Hid (2 = r) := Lib.hid (by have := hr.out; rwa [if_pos h0] at this)
    clear hr
    go_enter Tryz.func60, Tryz.ntmps60
    go_wp2_with fail
    go_ret; exact ⟨Stm.ret_int HR.out, Below.refl _ _⟩
  · have hd : decide ((n : Int) > (most : Int)) = false := by simp; omega
    have HR : Hid (distE [] ss = r) := Lib.hid (by have := hr.out; rwa [if_neg h0] at this)
    clear hr
    go_enter Tryz.func60, Tryz.ntmps60
    go_wp2_with fail
    go_loopw [13] (fun i wr => ∃ (k : Nat), k ≤ n ∧ i = .int .i64 k ∧ Hid (distE (ss.take k) (ss.drop k) = r) ∧ Hid (Below w.heap.size w wr)) (fun i _ => n - (intOf i).toNat)
    case atStart => exact ⟨0, Nat.zero_le _, rfl, HR, Lib.hid (Below.refl _ _)⟩
    case round =>
      obtain ⟨k, hk, rfl, HK, HB⟩ := hrel
      by_cases hlt : k < n
      · obtain ⟨hsz, hcells⟩ := HS.out.below HB.out
        obtain ⟨b, hA, hbl, hc⟩ := hcells (by have := HL.out; omega)
        have hkl : k < ss.length := by have := HL.out; omega
        have hzz := hsz ss[k] (List.getElem_mem hkl)
        have c1 := hc k hkl
        have HK2 := HK.out
        rw [drop_cons' ss k hkl] at HK2
        unfold distE at HK2
        rw [← take_snoc' ss k hkl] at HK2
        have HW := Lib.hid (fun (W : World) (hW : Below w.heap.size w W) => show Calls Tryz.prog 30 #[.slice A k cap, .string ss[k]] W (fun e w' => e = .returned (.bool (hasO (ss.take k) ss[k])) ∧ w' = W) from by
          have := hasO_walk A cap (ss.take k) ss[k] W (sl_take (HS.out.below hW) k) (by rw [List.length_take]; omega)
          rwa [show (ss.take k).length = k by rw [List.length_take]; omega] at this)
        generalize ss[k] = x at *
        generalize hasO (ss.take k) x = ho at *
        have HKK := Lib.hid HK2
        have a0 : (0 : Int) ≤ (k : Int) := by omega
        have a1 : (k : Int) < (n : Int) := by omega
        have a2 : (k : Int) ≤ (cap : Int) := by omega
        subst hA
        clear HK2 hsz hcells hc HK
        obtain ⟨kb, hkb⟩ : ∃ b, keyL x.data.toList = b := ⟨_, rfl⟩
        have HKB := Lib.hid hkb
        have hkk := HKK.out
        rw [hkb] at hkk
        replace HKK := Lib.hid hkk
        clear hkk hkb
        cases kb
        · have HE : Hid ((5 : Int) = r) := Lib.hid (by have := HKK.out; simpa using this)
          go_wp2_with fail
          refine (key_any x _ (by omega)).mono ?_; rintro e w2 ⟨rfl, rfl⟩; rw [HKB.out]
          go_wp2_with fail
          go_ret; exact ⟨Stm.ret_int HE.out, HB.out⟩
        · cases ho
          · have HE : Hid (distE (ss.take (k + 1)) (ss.drop (k + 1)) = r) := Lib.hid (by have := HKK.out; simpa using this)
            go_wp2_with fail
            refine (key_any x _ (by omega)).mono ?_; rintro e w2 ⟨rfl, rfl⟩; rw [HKB.out]
            go_wp2_with fail
            refine (HW.out _ HB.out).mono ?_; rintro e w2 ⟨rfl, rfl⟩
            go_wp2_with fail
            go_roundw
            case rel => exact ⟨k + 1, by omega, by go_num, HE, HB⟩
            case measure => simp [intOf]; omega
          · have HE : Hid ((6 : Int) = r) := Lib.hid (by have := HKK.out; simpa using this)
            go_wp2_with fail
            refine (key_any x _ (by omega)).mono ?_; rintro e w2 ⟨rfl, rfl⟩; rw [HKB.out]
            go_wp2_with fail
            refine (HW.out _ HB.out).mono ?_; rintro e w2 ⟨rfl, rfl⟩
            go_wp2_with fail
            go_ret; exact ⟨Stm.ret_int HE.out, HB.out⟩
      · have HE : Hid (0 = r) := Lib.hid (by have := HK.out; rw [List.drop_of_length_le (by have := HL.out; omega)] at this; exact this)
        clear HK
        go_wp2_with fail
        go_ret; exact ⟨Stm.ret_int HE.out, HB.out⟩

theorem most_walk (q : Qs) (v : Value) (Ao : Option Addr) (co : Nat) (hv : v = .slice Ao q.o.length co) (g : Int) (w : World) (hg : 0 ≤ g ∧ g ≤ 1000000) (r : Int) (hr : Hid (mostE q g = r)) :
    Calls Tryz.prog 59 #[.agg #[.string q.k, .int .i64 q.d, .int .i64 q.m, v, .bool q.nd, .bool q.sc], .int .i64 g] w fun e w' => e = .returned (.int .i64 r) ∧ Below w.heap.size w w' := by
  subst hv
  obtain ⟨k, d, m, o, nd, sc⟩ := q
  have HB := Lib.hid ((Below.refl w.heap.size w).alloc (Nat.le_refl _) (.cells #[.string k, .int .i64 d, .int .i64 m, .slice Ao o.length co, .bool nd, .bool sc] 45))
  unfold mostE at hr
  simp only at hr ⊢
  generalize o.length = L at *
  have HR := hr
  cases h1 : decide (m < 1) <;> cases h2 : decide (m > g) <;> cases h3 : decide (0 < L)
  all_goals
    have P : Hid ((decide (m < 1) = decide (m < 1)) ∧ r = r) := Lib.hid ⟨rfl, rfl⟩
    have HE : Hid (r = if (decide (m < 1) || decide (m > g)) = true then 1 else if decide (0 < L) = true then 3 else 0) := Lib.hid (by
      rw [← HR.out]; simp)
    have he := HE.out
    rw [h1, h2, h3] at he
    simp only [Bool.or_true, Bool.or_false, Bool.false_eq_true, if_true, if_false] at he
    have HF := Lib.hid he
    have h4 : decide ((L : Int) > 0) = decide (0 < L) := by simp
    rw [h3] at h4
    clear he HE P HR hr
    go_enter Tryz.func59, Tryz.ntmps59
    go_wp2_with fail
    go_ret
    exact ⟨Stm.ret_int HF.out.symm, HB.out⟩
/-- A question's value. -/
def qVal (q : Qs) (v : Value) : Value := .agg #[.string q.k, .int .i64 q.d, .int .i64 q.m, v, .bool q.nd, .bool q.sc]

set_option maxRecDepth 100000 in
set_option maxHeartbeats 4000000 in
theorem kind_walk (q : Qs) (Ao : Option Addr) (co : Nat) (hco : q.o.length ≤ co) (w : World) (hq : qOk q) (hs : SL w Ao q.o) (r : Int) (hr : Hid (kindE q = r)) :
    Calls Tryz.prog 40 #[.agg #[.string q.k, .int .i64 q.d, .int .i64 q.m, .slice Ao q.o.length co, .bool q.nd, .bool q.sc]] w fun e w' => e = .returned (.int .i64 r) ∧ Below w.heap.size w w' := by
  have HM := Lib.hid (fun (g : Int) (hg : 0 ≤ g ∧ g ≤ 1000000) (W : World) => most_walk q _ Ao co rfl g W hg _ (Lib.hid rfl))
  have HS := Lib.hid (fun (W : World) (hW : Below w.heap.size w W) => distinct_walk Ao q.o.length co q.o 20 W rfl hq.2.2.2 hco (by omega) (hs.below hW) _ (Lib.hid rfl))
  obtain ⟨k, d, m, o, nd, sc⟩ := q
  obtain ⟨_, ⟨hd1, hd2⟩, ⟨hm1, hm2⟩, hol⟩ := hq
  have HB := Lib.hid ((Below.refl w.heap.size w).alloc (Nat.le_refl _) (.cells #[.string k, .int .i64 d, .int .i64 m, .slice Ao o.length co, .bool nd, .bool sc] 45))
  have HKD := Lib.hid (show kindE ⟨k, d, m, o, nd, sc⟩ = if d = 1 then mostE ⟨k, d, m, o, nd, sc⟩ 100 else if d = 3 then mostE ⟨k, d, m, o, nd, sc⟩ 5000 else if d = 2 then (if m ≠ 0 ∨ o.length = 0 then 3 else if 20 < o.length then 2 else distE [] o) else 4 from rfl)
  simp only at HM HS hd1 hd2 hm1 hm2 hol hco ⊢
  clear hs
  rcases (by by_cases h1 : d = 1; exact Or.inl h1; by_cases h2 : d = 3; exact Or.inr (Or.inl h2); by_cases h3 : d = 2; exact Or.inr (Or.inr (Or.inl h3)); exact Or.inr (Or.inr (Or.inr ⟨h1, h2, h3⟩)) : d = 1 ∨ d = 3 ∨ d = 2 ∨ (d ≠ 1 ∧ d ≠ 3 ∧ d ≠ 2)) with rfl | rfl | rfl | ⟨h1, h2, h3⟩
  · have HR := Lib.hid (HKD.out.symm.trans hr.out)
    clear HKD hr HS
    go_enter Tryz.func40, Tryz.ntmps40
    go_wp2_with fail
    refine (HM.out 100 (by omega) _).mono ?_; rintro e w1 ⟨rfl, hb⟩
    have HB1 := Lib.hid (HB.out.trans (hb.mono HB.out.size))
    clear hb
    go_wp2_with fail
    go_ret
    exact ⟨Stm.ret_int (by simpa using HR.out), HB1.out⟩
  · have HR := Lib.hid (HKD.out.symm.trans hr.out)
    clear HKD hr HS
    go_enter Tryz.func40, Tryz.ntmps40
    go_wp2_with fail
    refine (HM.out 5000 (by omega) _).mono ?_; rintro e w1 ⟨rfl, hb⟩
    have HB1 := Lib.hid (HB.out.trans (hb.mono HB.out.size))
    clear hb
    go_wp2_with fail
    go_ret
    exact ⟨Stm.ret_int (by simpa using HR.out), HB1.out⟩
  · have HR := Lib.hid (HKD.out.symm.trans hr.out)
    clear HKD hr HM
    cases h1 : (m != 0)
    · cases h2 : ((o.length : Int) == 0)
      · have HE : Hid ((if 20 < o.length then 2 else distE [] o) = r) := Lib.hid (by
          have := HR.out
          simp at h1 h2
          rw [if_neg (by decide), if_neg (by decide), if_pos rfl, if_neg (by simp [h1, h2])] at this
          exact this)
        rw [HE.out] at HS
        clear HR
        go_enter Tryz.func40, Tryz.ntmps40
        go_wp2_with fail
        refine (HS.out _ HB.out).mono ?_; rintro e w1 ⟨rfl, hb⟩
        have HB1 := Lib.hid (HB.out.trans (hb.mono HB.out.size))
        clear hb
        go_wp2_with fail
        go_ret
        exact ⟨rfl, HB1.out⟩
      · have HE : Hid ((3 : Int) = r) := Lib.hid (by
          have := HR.out
          simp at h2
          rw [if_neg (by decide), if_neg (by decide), if_pos rfl, if_pos (by simp [h2])] at this
          exact this)
        clear HR
        go_enter Tryz.func40, Tryz.ntmps40
        go_wp2_with fail
        go_ret
        exact ⟨Stm.ret_int HE.out, HB.out⟩
    · have HE : Hid ((3 : Int) = r) := Lib.hid (by
          have := HR.out
          simp at h1
          rw [if_neg (by decide), if_neg (by decide), if_pos rfl, if_pos (by simp [h1])] at this
          exact this)
      clear HR
      go_enter Tryz.func40, Tryz.ntmps40
      go_wp2_with fail
      go_ret
      exact ⟨Stm.ret_int HE.out, HB.out⟩
  · have HR : Hid ((4 : Int) = r) := Lib.hid (by have := HKD.out.symm.trans hr.out; rwa [if_neg h1, if_neg h2, if_neg h3] at this)
    have b1 : (d == 1) = false := by rw [beq_eq_false_iff_ne]; exact h1
    have b2 : (d == 3) = false := by rw [beq_eq_false_iff_ne]; exact h2
    have b3 : (d == 2) = false := by rw [beq_eq_false_iff_ne]; exact h3
    clear HKD hr HM HS h1 h2 h3
    go_enter Tryz.func40, Tryz.ntmps40
    go_wp2_with fail
    go_ret
    exact ⟨Stm.ret_int HR.out, HB.out⟩
end Go.Proofs.YthglfcfnejjpjaaGreatDoor.Rev
