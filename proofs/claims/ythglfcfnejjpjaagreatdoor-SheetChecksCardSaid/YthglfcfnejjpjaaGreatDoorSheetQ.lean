/-
  THE CONTRACTS OF THE REFERENCE'S SHEETS: SheetFault.
-/
import Derived.Test.YthglfcfnejjpjaaGreatDoorSheetN
import Derived.Test.YthglfcfnejjpjaaGreatDoorRefKey10
import Derived.Deep.CutBlock
import Derived.Deep.DeepCutAuto
namespace Go.Proofs.YthglfcfnejjpjaaGreatDoor.Rev
open Go.ChangeShapes Go.WideShapes Go.ChangeAt Go.RowKit Stm Key
set_option linter.unusedVariables false

/-- What the reference's switch says of a question, and of its options. -/
def switchE (q : Qs) : Int :=
  if inI q.d 1 3 = false then 4 else if (q.d = 1 ∧ inI q.m 1 100 = false) ∨ (q.d = 3 ∧ inI q.m 1 5000 = false) then 1
  else if (q.d = 2 ∧ q.m ≠ 0) ∨ (decide (q.d = 2) != decide (0 < q.o.length)) = true then 3 else if 20 < q.o.length then 2 else 0
theorem switch_kind (q : Qs) : (if switchE q = 0 then distE [] q.o else switchE q) = kindE q := by
  obtain ⟨k, d, m, o, nd, sc⟩ := q
  unfold switchE kindE mostE inI
  simp only
  by_cases h1 : d = 1
  · subst h1
    cases o with
    | nil =>
      by_cases a : 1 ≤ m <;> by_cases b : m ≤ 100 <;> simp [a, b, distE] <;> omega
    | cons x t =>
      by_cases a : 1 ≤ m <;> by_cases b : m ≤ 100 <;> simp [a, b] <;> omega
  by_cases h3 : d = 3
  · subst h3
    cases o with
    | nil =>
      by_cases a : 1 ≤ m <;> by_cases b : m ≤ 5000 <;> simp [a, b, distE] <;> omega
    | cons x t =>
      by_cases a : 1 ≤ m <;> by_cases b : m ≤ 5000 <;> simp [a, b] <;> omega
  by_cases h2 : d = 2
  · subst h2
    cases o with
    | nil => simp
    | cons x t =>
      by_cases a : m = 0
      · subst a
        by_cases b : 20 < t.length + 1 <;> simp [b]
      · simp [a]
  · have : ¬ (1 ≤ d ∧ d ≤ 3) := by omega
    by_cases a : 1 ≤ d <;> by_cases b : d ≤ 3 <;> simp [a, b, h1, h2, h3] <;> omega

/-- Behind the switch: nothing is wrong but with options; the question lies where it lay. -/
def SfJ (w1 : World) (g : Nat) (cs : Array Value) (q : Qs) (b1 b2 : Bool) (wx : World) : Prop := (b1 = true ∧ b2 = false) ∧ switchE q = 0 ∧ Below w1.heap.size w1 wx ∧ Blk wx g 45 cs
theorem first_lt {l : List Qs} {qk : ByteArray} {k i : Nat} (hk : k < l.length) (he : eqS l[k].k qk = true) (hi : i < l.length) (hie : eqS l[i].k qk = true) (hno : hasK (l.take i) qk = false) : decide (i < k) = hasK (l.take k) qk := by
  have hle : i ≤ k := by
    refine Nat.le_of_not_lt fun h => ?_
    have : hasK (l.take i) qk = true := List.any_eq_true.2 ⟨l[k], List.mem_take_iff_getElem.2 ⟨k, by omega, rfl⟩, he⟩
    rw [this] at hno; cases hno
  cases hb : hasK (l.take k) qk with
  | false =>
    refine decide_eq_false fun h => ?_
    have : hasK (l.take k) qk = true := List.any_eq_true.2 ⟨l[i], List.mem_take_iff_getElem.2 ⟨i, by omega, rfl⟩, hie⟩
    rw [this] at hb; cases hb
  | true =>
    refine decide_eq_true ?_
    obtain ⟨x, hx, hxe⟩ := List.any_eq_true.1 hb
    obtain ⟨m, hm, rfl⟩ := List.mem_take_iff_getElem.1 hx
    have : i ≤ m := by
      refine Nat.le_of_not_lt fun h => ?_
      have : hasK (l.take i) qk = true := List.any_eq_true.2 ⟨l[m], List.mem_take_iff_getElem.2 ⟨m, by omega, rfl⟩, hxe⟩
      rw [this] at hno; cases hno
    omega

set_option maxRecDepth 100000 in
set_option maxHeartbeats 16000000 in
theorem sheetfault_walk (B : Nat) (A : Option Addr) (n cap : Nat) (l : List Qs) (w : World) (hn : l.length = n) (hn2 : n ≤ 1000) (hnc : n ≤ cap) (hS : QL B w A l) (r : Int) (hr : Hid (sheetE l = r)) :
    Calls Tryz.prog 8 #[.slice A n cap] w fun e w' => e = .returned (.int .i64 r) ∧ Below w.heap.size w w' := by
  have HS := Lib.hid hS
  have HL := Lib.hid hn
  clear hS hn
  by_cases h0 : n = 0
  · have HE : Hid ((3 : Int) = r) := Lib.hid (by have := hr.out; unfold sheetE at this; rwa [if_pos (by rw [HL.out]; exact h0)] at this)
    have hd : ((n : Int) == 0) = true := by simp; exact h0
    clear hr h0
    go_enter Tryz.func8, Tryz.ntmps8
    go_wp2_with fail
    go_ret; exact ⟨Stm.ret_int HE.out, Below.refl _ _⟩
  by_cases h30 : 30 < n
  · have HE : Hid ((2 : Int) = r) := Lib.hid (by have := hr.out; unfold sheetE at this; rwa [if_neg (by rw [HL.out]; exact h0), if_pos (by rw [HL.out]; exact h30)] at this)
    have hd : ((n : Int) == 0) = false := by rw [beq_eq_false_iff_ne]; omega
    have hd2 : decide ((n : Int) > 30) = true := decide_eq_true (by omega)
    clear hr h0
    go_enter Tryz.func8, Tryz.ntmps8
    go_wp2_with fail
    go_ret; exact ⟨Stm.ret_int HE.out, Below.refl _ _⟩
  have HR : Hid (sheetsE [] l = r) := Lib.hid (by have := hr.out; unfold sheetE at this; rwa [if_neg (by rw [HL.out]; exact h0), if_neg (by rw [HL.out]; exact h30)] at this)
  have hd : ((n : Int) == 0) = false := by rw [beq_eq_false_iff_ne]; omega
  have hd2 : decide ((n : Int) > 30) = false := decide_eq_false (by omega)
  clear hr h0
  go_enter Tryz.func8, Tryz.ntmps8
  go_wp2_with fail
  go_loopw [17] (fun i wr => ∃ k : Nat, k ≤ n ∧ i = .int .i64 k ∧ Hid (sheetsE (l.take k) (l.drop k) = r) ∧ Hid (Below w.heap.size w wr)) (fun i _ => n - (intOf i).toNat)
  case atStart => exact ⟨0, Nat.zero_le _, rfl, HR, Lib.hid (Below.refl _ _)⟩
  case round =>
    obtain ⟨k, hk, rfl, HK, HB⟩ := hrel
    rename World => w1
    have hz1 := HB.out.size
    by_cases hlt : k < n
    · have hkl : k < l.length := by have := HL.out; omega
      obtain ⟨hsz, hcells⟩ := HS.out.below HB.out
      obtain ⟨b, hA, hbl, _, hc⟩ := hcells (by omega)
      have hqo := hsz l[k] (List.getElem_mem hkl)
      obtain ⟨c0, c1, c2, ⟨v, c3, hol⟩, c4, c5⟩ := hc k hkl
      have HK2 := HK.out
      rw [drop_cons' l k hkl] at HK2
      unfold sheetsE at HK2
      rw [← take_snoc' l k hkl] at HK2
      have FL := Lib.hid (fun (i : Nat) (hi : i < l.length) (hie : eqS l[i].k l[k].k = true) (hno : hasK (l.take i) l[k].k = false) => first_lt (qk := l[k].k) hkl (eqS_self _) hi hie hno)
      have FH := Lib.hid (hasK_hit (k := l[k].k) hkl (eqS_self _))
      generalize l[k] = x at *
      obtain ⟨Ao, co, hv, hco, hsl, _⟩ := hol
      subst hv
      obtain ⟨qk, qd, qm, qo, nd, sc⟩ := x
      simp only at c0 c1 c2 c3 c4 c5 hco hsl FL FH
      have hq0 : qk.size ≤ 1000 := hqo.1
      have hq3 : qo.length ≤ 1000 := hqo.2.2.2
      obtain ⟨hd1, hd2'⟩ : -1099511627776 ≤ qd ∧ qd ≤ 1099511627776 := hqo.2.1
      obtain ⟨hm1, hm2⟩ : -1099511627776 ≤ qm ∧ qm ≤ 1099511627776 := hqo.2.2.1
      have a0 : (0 : Int) ≤ (k : Int) := by omega
      have a1 : (k : Int) < (n : Int) := by omega
      subst hA
      have KQ := Lib.hid (Blk.new w1 45 #[.string qk, .int .i64 qd, .int .i64 qm, .slice Ao qo.length co, .bool nd, .bool sc])
      have Bn := Lib.hid ((Below.refl w1.heap.size w1).alloc (Nat.le_refl _) (.cells #[.string qk, .int .i64 qd, .int .i64 qm, .slice Ao qo.length co, .bool nd, .bool sc] 45))
      have SL1 := Lib.hid hsl
      unfold qE at HK2
      rw [← switch_kind] at HK2
      obtain ⟨kb, hkb⟩ : ∃ b, keyL qk.data.toList = b := ⟨_, rfl⟩
      obtain ⟨hb2, hhb⟩ : ∃ b, hasK (l.take k) qk = b := ⟨_, rfl⟩
      simp only at HK2
      rw [hkb, hhb] at HK2
      rw [hhb] at FL
      have HKB := Lib.hid hkb
      have HKK := Lib.hid HK2
      have QW := Lib.hid (fun (W : World) (hW : Below w.heap.size w W) => questionat_walk B qk (some ⟨b, 0, none⟩) n cap l W (HS.out.below hW) HL.out hn2)
      clear HK2 hsz hcells hc HK hkb hhb hsl hqo
      go_upto_block 3 with fail
      go_cut [] (fun wx => SfJ w1 w1.heap.size #[.string qk, .int .i64 qd, .int .i64 qm, .slice Ao qo.length co, .bool nd, .bool sc] ⟨qk, qd, qm, qo, nd, sc⟩ kb hb2 wx)
      case first =>
        cases kb
        · have HE : Hid ((5 : Int) = r) := Lib.hid (by have := HKK.out; simpa using this)
          go_wp2_with fail
          refine (key10_any qk _ (by omega)).mono ?_; rintro e w2 ⟨rfl, hb⟩; rw [HKB.out]
          have B2 := Lib.hid (HB.out.trans ((Bn.out.trans (hb.mono Bn.out.size)).mono hz1))
          clear hb
          go_wp2_with fail
          go_ret; exact ⟨Stm.ret_int HE.out, B2.out⟩
        go_wp2_with fail
        refine (key10_any qk _ (by omega)).mono ?_; rintro e w2 ⟨rfl, hb⟩; rw [HKB.out]
        have B2 := Lib.hid (Bn.out.trans (hb.mono Bn.out.size))
        have K2 := Lib.hid (KQ.out.below hb KQ.out.lt)
        have e0 := K2.out.cell 0 _ rfl
        clear hb
        go_wp2_with fail
        refine (QW.out _ (HB.out.trans (B2.out.mono hz1))).mono ?_; rintro e w3 ⟨ri, rfl, hor, hb⟩
        have B3 := Lib.hid (B2.out.trans (hb.mono B2.out.size))
        have K3 := Lib.hid (K2.out.below hb K2.out.lt)
        have BW3 := Lib.hid (HB.out.trans (B3.out.mono hz1))
        rcases hor with ⟨i, hi, rfl, hie, hno⟩ | ⟨_, hno⟩
        rotate_left
        · rw [FH.out] at hno; cases hno
        have dlt := FL.out i hi hie hno
        clear hb hie hno e0
        cases hb2
        rotate_left
        · have HE : Hid ((6 : Int) = r) := Lib.hid (by have := HKK.out; simpa using this)
          go_wp2_with fail
          go_ret; exact ⟨Stm.ret_int HE.out, BW3.out⟩
        have HKX : Hid ((if (if switchE ⟨qk, qd, qm, qo, nd, sc⟩ = 0 then distE [] qo else switchE ⟨qk, qd, qm, qo, nd, sc⟩) = 0 then sheetsE (l.take (k + 1)) (l.drop (k + 1)) else (if switchE ⟨qk, qd, qm, qo, nd, sc⟩ = 0 then distE [] qo else switchE ⟨qk, qd, qm, qo, nd, sc⟩)) = r) := Lib.hid (by have := HKK.out; simpa using this)
        have HKE := Lib.hid (fun (z : Int) (hz : switchE ⟨qk, qd, qm, qo, nd, sc⟩ = z) (hz0 : z ≠ 0) => show z = r by
          have := HKX.out
          rw [hz, if_neg hz0, if_neg hz0] at this; exact this)
        clear HKX HKK
        have e1 := K3.out.cell 1 _ rfl
        have e2 := K3.out.cell 2 _ rfl
        have e3 := K3.out.cell 3 _ rfl
        have HJ := Lib.hid (fun (hz : switchE ⟨qk, qd, qm, qo, nd, sc⟩ = 0) => show SfJ w1 w1.heap.size #[.string qk, .int .i64 qd, .int .i64 qm, .slice Ao qo.length co, .bool nd, .bool sc] ⟨qk, qd, qm, qo, nd, sc⟩ true false w3 from ⟨⟨rfl, rfl⟩, hz, B3.out, K3.out⟩)
        have HSW := Lib.hid (show switchE ⟨qk, qd, qm, qo, nd, sc⟩ = if inI qd 1 3 = false then 4 else if (qd = 1 ∧ inI qm 1 100 = false) ∨ (qd = 3 ∧ inI qm 1 5000 = false) then 1
  else if (qd = 2 ∧ qm ≠ 0) ∨ (decide (qd = 2) != decide (0 < qo.length)) = true then 3 else if 20 < qo.length then 2 else 0 from rfl)
        generalize switchE ⟨qk, qd, qm, qo, nd, sc⟩ = sw at *
        obtain ⟨i1, hi1⟩ : ∃ z, inI qd 1 3 = z := ⟨_, rfl⟩
        obtain ⟨i2, hi2⟩ : ∃ z, inI qm 1 100 = z := ⟨_, rfl⟩
        obtain ⟨i3, hi3⟩ : ∃ z, inI qm 1 5000 = z := ⟨_, rfl⟩
        rw [hi1, hi2, hi3] at HSW
        have I1 := Lib.hid hi1
        have I2 := Lib.hid hi2
        have I3 := Lib.hid hi3
        have hdk := hi1
        clear hi1 hi2 hi3
        cases i1
        · have HE : Hid ((4 : Int) = r) := Lib.hid (HKE.out 4 (by have := HSW.out; simpa using this) (by decide))
          clear hdk
          go_wp2_with fail
          refine (in_any _ _ _ _).mono ?_; rintro e w4 ⟨rfl, rfl⟩; rw [I1.out]
          go_wp2_with fail
          go_ret; exact ⟨Stm.ret_int HE.out, BW3.out⟩
        have hd3 : qd = 1 ∨ qd = 2 ∨ qd = 3 := by unfold inI at hdk; simp at hdk; omega
        clear hdk
        rcases hd3 with rfl | rfl | rfl
        · cases i2
          · have HE : Hid ((1 : Int) = r) := Lib.hid (HKE.out 1 (by have := HSW.out; simpa using this) (by decide))
            go_wp2_with fail
            refine (in_any _ _ _ _).mono ?_; rintro e w4 ⟨rfl, rfl⟩; rw [I1.out]
            go_wp2_with fail
            refine (in_any _ _ _ _).mono ?_; rintro e w4 ⟨rfl, rfl⟩; rw [I2.out]
            go_wp2_with fail
            go_ret; exact ⟨Stm.ret_int HE.out, BW3.out⟩
          · by_cases hlen : 0 < qo.length
            · have HE : Hid ((3 : Int) = r) := Lib.hid (HKE.out 3 (by have := HSW.out; simpa [hlen] using this) (by decide))
              have dl : decide ((qo.length : Int) > 0) = true := decide_eq_true (by omega)
              have dl2 : decide (0 < qo.length) = true := decide_eq_true hlen
              go_wp2_with fail
              refine (in_any _ _ _ _).mono ?_; rintro e w4 ⟨rfl, rfl⟩; rw [I1.out]
              go_wp2_with fail
              refine (in_any _ _ _ _).mono ?_; rintro e w4 ⟨rfl, rfl⟩; rw [I2.out]
              go_wp2_with fail
              go_ret; exact ⟨Stm.ret_int HE.out, BW3.out⟩
            · have h0 : qo.length = 0 := by omega
              have HZ := Lib.hid (HJ.out (by have := HSW.out; simpa [h0] using this))
              have dl : decide ((qo.length : Int) > 0) = false := decide_eq_false (by omega)
              have dl2 : decide (0 < qo.length) = false := decide_eq_false hlen
              have dl3 : decide ((qo.length : Int) > 20) = false := decide_eq_false (by omega)
              have dl4 : decide (20 < qo.length) = false := decide_eq_false (by omega)
              clear h0
              go_wp2_with fail
              refine (in_any _ _ _ _).mono ?_; rintro e w4 ⟨rfl, rfl⟩; rw [I1.out]
              go_wp2_with fail
              refine (in_any _ _ _ _).mono ?_; rintro e w4 ⟨rfl, rfl⟩; rw [I2.out]
              go_wp2_with fail
              go_meet
              case rel => exact HZ.out
        · cases hm0 : (qm != 0)
          · have hmz : qm = 0 := by simpa using hm0
            by_cases hlen : 0 < qo.length
            · have dl : decide ((qo.length : Int) > 0) = true := decide_eq_true (by omega)
              have dl2 : decide (0 < qo.length) = true := decide_eq_true hlen
              by_cases h20 : 20 < qo.length
              · have HE : Hid ((2 : Int) = r) := Lib.hid (HKE.out 2 (by have := HSW.out; simpa [hlen, hmz, h20] using this) (by decide))
                have dl3 : decide ((qo.length : Int) > 20) = true := decide_eq_true (by omega)
                have dl4 : decide (20 < qo.length) = true := decide_eq_true h20
                clear hmz
                go_wp2_with fail
                refine (in_any _ _ _ _).mono ?_; rintro e w4 ⟨rfl, rfl⟩; rw [I1.out]
                go_wp2_with fail
                go_ret; exact ⟨Stm.ret_int HE.out, BW3.out⟩
              · have HZ := Lib.hid (HJ.out (by have := HSW.out; simpa [hlen, hmz, h20] using this))
                have dl3 : decide ((qo.length : Int) > 20) = false := decide_eq_false (by omega)
                have dl4 : decide (20 < qo.length) = false := decide_eq_false h20
                clear hmz
                go_wp2_with fail
                refine (in_any _ _ _ _).mono ?_; rintro e w4 ⟨rfl, rfl⟩; rw [I1.out]
                go_wp2_with fail
                go_meet
                case rel => exact HZ.out
            · have h0 : qo.length = 0 := by omega
              have HE : Hid ((3 : Int) = r) := Lib.hid (HKE.out 3 (by have := HSW.out; simpa [h0, hmz] using this) (by decide))
              have dl : decide ((qo.length : Int) > 0) = false := decide_eq_false (by omega)
              have dl2 : decide (0 < qo.length) = false := decide_eq_false hlen
              clear h0 hmz
              go_wp2_with fail
              refine (in_any _ _ _ _).mono ?_; rintro e w4 ⟨rfl, rfl⟩; rw [I1.out]
              go_wp2_with fail
              go_ret; exact ⟨Stm.ret_int HE.out, BW3.out⟩
          · have hmz : ¬ qm = 0 := by simpa using hm0
            have HE : Hid ((3 : Int) = r) := Lib.hid (HKE.out 3 (by have := HSW.out; simpa [hmz] using this) (by decide))
            clear hmz
            go_wp2_with fail
            refine (in_any _ _ _ _).mono ?_; rintro e w4 ⟨rfl, rfl⟩; rw [I1.out]
            go_wp2_with fail
            go_ret; exact ⟨Stm.ret_int HE.out, BW3.out⟩
        · cases i3
          · have HE : Hid ((1 : Int) = r) := Lib.hid (HKE.out 1 (by have := HSW.out; simpa using this) (by decide))
            go_wp2_with fail
            refine (in_any _ _ _ _).mono ?_; rintro e w4 ⟨rfl, rfl⟩; rw [I1.out]
            go_wp2_with fail
            refine (in_any _ _ _ _).mono ?_; rintro e w4 ⟨rfl, rfl⟩; rw [I3.out]
            go_wp2_with fail
            go_ret; exact ⟨Stm.ret_int HE.out, BW3.out⟩
          · by_cases hlen : 0 < qo.length
            · have HE : Hid ((3 : Int) = r) := Lib.hid (HKE.out 3 (by have := HSW.out; simpa [hlen] using this) (by decide))
              have dl : decide ((qo.length : Int) > 0) = true := decide_eq_true (by omega)
              have dl2 : decide (0 < qo.length) = true := decide_eq_true hlen
              go_wp2_with fail
              refine (in_any _ _ _ _).mono ?_; rintro e w4 ⟨rfl, rfl⟩; rw [I1.out]
              go_wp2_with fail
              refine (in_any _ _ _ _).mono ?_; rintro e w4 ⟨rfl, rfl⟩; rw [I3.out]
              go_wp2_with fail
              go_ret; exact ⟨Stm.ret_int HE.out, BW3.out⟩
            · have h0 : qo.length = 0 := by omega
              have HZ := Lib.hid (HJ.out (by have := HSW.out; simpa [h0] using this))
              have dl : decide ((qo.length : Int) > 0) = false := decide_eq_false (by omega)
              have dl2 : decide (0 < qo.length) = false := decide_eq_false hlen
              have dl3 : decide ((qo.length : Int) > 20) = false := decide_eq_false (by omega)
              have dl4 : decide (20 < qo.length) = false := decide_eq_false (by omega)
              clear h0
              go_wp2_with fail
              refine (in_any _ _ _ _).mono ?_; rintro e w4 ⟨rfl, rfl⟩; rw [I1.out]
              go_wp2_with fail
              refine (in_any _ _ _ _).mono ?_; rintro e w4 ⟨rfl, rfl⟩; rw [I3.out]
              go_wp2_with fail
              go_meet
              case rel => exact HZ.out
      case rest =>
        obtain ⟨⟨rfl, rfl⟩, hsw, hbc, hkc⟩ := hcut
        have HKX : Hid ((if distE [] qo = 0 then sheetsE (l.take (k + 1)) (l.drop (k + 1)) else distE [] qo) = r) := Lib.hid (by have := HKK.out; rw [hsw] at this; simpa using this)
        obtain ⟨D, hD⟩ : ∃ D, distE [] qo = D := ⟨_, rfl⟩
        rw [hD] at HKX
        have HD0 := Lib.hid hD
        clear hD
        have BC := Lib.hid (HB.out.trans (hbc.mono hz1))
        have KC := Lib.hid hkc
        have SLC := Lib.hid (SL1.out.below hbc)
        have e3 := KC.out.cell 3 _ rfl
        have hzc := BC.out.size
        have hkl2 := KC.out.lt
        clear hsw hbc hkc HKK SL1 KQ Bn FL FH QW HKB
        go_wp2_with fail
        clear e3
        go_loopw [83] (fun i wr => ∃ m : Nat, m ≤ qo.length ∧ i = .int .i64 m ∧ Hid (distE (qo.take m) (qo.drop m) = D) ∧ Hid (Below wc.heap.size wc wr)) (fun i _ => qo.length - (intOf i).toNat)
        case atStart => exact ⟨0, Nat.zero_le _, rfl, HD0, Lib.hid (Below.refl _ _)⟩
        case round =>
          obtain ⟨m, hm, rfl, HD, HBM⟩ := hrel
          rename World => w5
          have hz5 := HBM.out.size
          have K5 := Lib.hid (KC.out.below HBM.out KC.out.lt)
          have S5 := Lib.hid (SLC.out.below HBM.out)
          have BW5 := Lib.hid (BC.out.trans (HBM.out.mono hzc))
          by_cases hlm : m < qo.length
          · obtain ⟨hoz, hoc⟩ := S5.out
            obtain ⟨b5, hA5, hb5, hc5⟩ := hoc (by omega)
            have hx := hoz qo[m] (List.getElem_mem hlm)
            have d5 := hc5 m hlm
            have HD2 := HD.out
            rw [drop_cons' qo m hlm] at HD2
            unfold distE at HD2
            rw [← take_snoc' qo m hlm] at HD2
            have HCW := Lib.hid (fun (W : World) (hW : Below w5.heap.size w5 W) => show Calls Tryz.prog 30 #[.slice Ao m co, .string qo[m]] W (fun e w' => e = .returned (.bool (hasO (qo.take m) qo[m])) ∧ w' = W) from by
              have := hasO_walk Ao co (qo.take m) qo[m] W (sl_take (S5.out.below hW) m) (by rw [List.length_take]; omega)
              rwa [show (qo.take m).length = m by rw [List.length_take]; omega] at this)
            generalize qo[m] = x at *
            generalize hasO (qo.take m) x = ho at *
            obtain ⟨kb2, hkb2⟩ : ∃ b, keyL x.data.toList = b := ⟨_, rfl⟩
            rw [hkb2] at HD2
            have HKB2 := Lib.hid hkb2
            have HDD := Lib.hid HD2
            have e3 := K5.out.cell 3 _ rfl
            have p0 : (0 : Int) ≤ (m : Int) := by omega
            have p1 : (m : Int) < (qo.length : Int) := by omega
            have p2 : (m : Int) ≤ (co : Int) := by omega
            subst hA5
            clear HD2 hoz hoc hc5 hkb2
            cases kb2
            · have HE : Hid ((5 : Int) = r) := Lib.hid (by
                have h1 := HDD.out; have h2 := HKX.out
                rw [← h1] at h2; simpa using h2)
              go_wp2_with fail
              refine (key10_any x _ (by omega)).mono ?_; rintro e w6 ⟨rfl, hb⟩; rw [HKB2.out]
              have B6 := Lib.hid (BW5.out.trans (hb.mono BW5.out.size))
              clear hb
              go_wp2_with fail
              go_ret; exact ⟨Stm.ret_int HE.out, B6.out⟩
            · go_wp2_with fail
              refine (key10_any x _ (by omega)).mono ?_; rintro e w6 ⟨rfl, hb⟩; rw [HKB2.out]
              have B6 := Lib.hid (BW5.out.trans (hb.mono BW5.out.size))
              have BM6 := Lib.hid (HBM.out.trans (hb.mono hz5))
              have K6 := Lib.hid (K5.out.below hb K5.out.lt)
              have CW6 := Lib.hid (HCW.out _ hb)
              have f3 := K6.out.cell 3 _ rfl
              clear hb e3 d5
              cases ho
              · have HE : Hid (distE (qo.take (m + 1)) (qo.drop (m + 1)) = D) := Lib.hid (by simpa using HDD.out)
                go_wp2_with fail
                refine (CW6.out).mono ?_; rintro e w7 ⟨rfl, rfl⟩
                go_wp2_with fail
                go_roundw
                case rel => exact ⟨m + 1, by omega, by go_num, HE, BM6⟩
                case measure => simp [intOf]; omega
              · have HE : Hid ((6 : Int) = r) := Lib.hid (by
                  have h1 := HDD.out; have h2 := HKX.out
                  rw [← h1] at h2; simpa using h2)
                go_wp2_with fail
                refine (CW6.out).mono ?_; rintro e w7 ⟨rfl, rfl⟩
                go_wp2_with fail
                go_ret; exact ⟨Stm.ret_int HE.out, B6.out⟩
          · have h0 : D = 0 := by
              have := HD.out; rw [List.drop_of_length_le (by omega)] at this; exact this.symm
            have HE : Hid (sheetsE (l.take (k + 1)) (l.drop (k + 1)) = r) := Lib.hid (by have := HKX.out; rw [h0] at this; simpa using this)
            have hpm : ¬ (m : Int) < (qo.length : Int) := by omega
            clear h0
            go_wp2_with fail
            go_roundw
            case rel => exact ⟨k + 1, by omega, by go_num, HE, BW5⟩
            case measure => simp [intOf]; omega
    · have HE : Hid (0 = r) := Lib.hid (by have := HK.out; rw [List.drop_of_length_le (by have := HL.out; omega)] at this; exact this)
      clear HK
      go_wp2_with fail
      go_ret; exact ⟨Stm.ret_int HE.out, HB.out⟩
end Go.Proofs.YthglfcfnejjpjaaGreatDoor.Rev
