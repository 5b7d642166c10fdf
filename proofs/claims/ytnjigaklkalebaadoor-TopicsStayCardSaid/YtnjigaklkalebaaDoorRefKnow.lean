/-
  WHAT THE REFERENCE KNOWS: known.
-/
import Derived.Test.YtnjigaklkalebaaDoorKnow3
import Derived.RegionTactic
namespace Go.Proofs.YtnjigaklkalebaaDoor.For
open Go.ChangeShapes Go.WideShapes Go.ChangeAt Go.RowKit Stm Key
set_option linter.unusedVariables false

theorem part2 (n d p q : Nat) (w : World) (hn : n ≤ 4611686018427387904) (hd : 1 ≤ d) (hd2 : d ≤ 4611686018427387904) (h : Hid (lowN n d = (p, q))) :
    Calls Tryd.prog 41 #[.int .i64 n, .int .i64 d] w fun e w' => e = .returned (.agg #[.int .i64 p, .int .i64 q]) ∧ Below w.heap.size w w' :=
  Frac.part_as n d p q w hn hd hd2 (Lib.hid (congrArg Prod.fst h.out)) (Lib.hid (congrArg Prod.snd h.out))
theorem part_none (n : Int) (w : World) :
    Calls Tryd.prog 41 #[.int .i64 n, .int .i64 0] w fun e w' => e = .returned (.agg #[.int .i64 0, .int .i64 1]) ∧ Below w.heap.size w w' := by
  go_enter Tryd.func41, Tryd.ntmps41
  go_wp2_with fail
  refine bodyPost_ret (v := .agg #[.int .i64 0, .int .i64 1]) (by simp only [results, Tryd.results41]; go_simp) rfl ⟨rfl, ?_⟩
  repeat' (first | (with_reducible exact Below.refl _ _) | (with_reducible refine Below.setCell ?_ ?_ _) | (with_reducible refine Below.alloc ?_ ?_ _) | go_size)
theorem meetkey_le {l : List Tp} (h : ∀ x ∈ l, x.k.size ≤ 1000 ∧ x.a.size ≤ 1000) (m : Int) : (if m = -1 then (⟨#[]⟩ : ByteArray) else (l.getD m.toNat ⟨⟨#[]⟩, ⟨#[]⟩⟩).k).size ≤ 1000 := by
  split
  · exact Nat.zero_le _
  · rcases Nat.lt_or_ge m.toNat l.length with h1 | h1
    · simp only [List.getD, List.getElem?_eq_getElem h1, Option.getD_some]; exact (h _ (List.getElem_mem h1)).1
    · simp [List.getD, List.getElem?_eq_none h1]; decide
/-- NearOf at two topics of a right forest. -/
theorem nearof_in (A : Option Addr) (n cap : Nat) (l : List Tp) (a b : ByteArray) (w : World) (hn : l.length = n) (hn2 : n ≤ 900) (hS : TL w A l) (ha : a.size ≤ 1000) (hb : b.size ≤ 1000) (hR : RightF l) (h1 : (lk l a).isSome = true) (h2 : (lk l b).isSome = true) (x y : Nat) (hr : Hid (nearRef l a b = (x, y))) :
    Calls Tryd.prog 40 #[.slice A n cap, .string a, .string b] w fun e w' => e = .returned (.agg #[.int .i64 x, .int .i64 y]) ∧ Below w.heap.size w w' :=
  nearof_walk A n cap l a b w hn hn2 hS ha hb (by
      have hi := (num_lt h1).2
      obtain ⟨q1, q2⟩ := lk_some l a _ hi
      rw [← q2]; exact abv_head n _ q1)
    (by rw [hR.meet (num_lt h1).2 (num_lt h2).2]; exact meetkey_le hS.1 _) (x, y) hr
theorem cmpI_gt {x y : Int} (h : y < x) : Frac.cmpI x y = 1 := by unfold Frac.cmpI; rw [if_neg (by omega), if_pos h]
theorem cmpI_le {x y : Int} (h : ¬ y < x) : Frac.cmpI x y ≤ 0 := by unfold Frac.cmpI; split <;> simp_all
/-- What known hands back. -/
def BcRet (b : Bc) (w : World) (e : Ending) (w' : World) : Prop := e = .returned (.agg #[.string b.t, .string b.b, .int .i64 b.p, .int .i64 b.q]) ∧ Below w.heap.size w w'

set_option maxRecDepth 100000 in
set_option maxHeartbeats 16000000 in
theorem known_walk (A : Option Addr) (n cap : Nat) (l : List Tp) (A2 : Option Addr) (n2 c2 : Nat) (s : List Sk) (t : ByteArray) (w : World) (hn : l.length = n) (hn2 : n ≤ 900) (hS : TL w A l) (hR : RightF l) (hs : KL w A2 s) (hk : s.length = n2) (h100 : n2 ≤ 100)
    (hok : ∀ x ∈ s, (lk l x.t).isSome = true ∧ 1 ≤ x.n ∧ x.n ≤ 100) (ht : t.size ≤ 1000) (hto : (lk l t).isSome = true) :
    Calls Tryd.prog 27 #[.slice A n cap, .slice A2 n2 c2, .string t] w (BcRet (becN l s t) w) := by
  have HTL := Lib.hid hS
  have HR := Lib.hid hR
  have HS := Lib.hid hs
  have HL := Lib.hid hk
  have HN := Lib.hid hn
  have HOK := Lib.hid hok
  have HTO := Lib.hid hto
  clear hS hR hs hk hn hok hto
  have b0 : Below w.heap.size w (w.alloc (.cells #[.string ⟨#[]⟩, .string ⟨#[]⟩, .int .i64 0, .int .i64 0] 71)) := (Below.refl _ _).alloc (Nat.le_refl _) _
  have R0 := Lib.hid ((Blk.new w 71 #[.string ⟨#[]⟩, .string ⟨#[]⟩, .int .i64 0, .int .i64 0]).alloc (.cells #[.string t, .string ⟨#[]⟩, .int .i64 0, .int .i64 1] 71))
  have O0 : Hid (Blk ((w.alloc (.cells #[.string ⟨#[]⟩, .string ⟨#[]⟩, .int .i64 0, .int .i64 0] 71)).alloc (.cells #[.string t, .string ⟨#[]⟩, .int .i64 0, .int .i64 1] 71)) (w.heap.size + 1) 71 #[.string t, .string ⟨#[]⟩, .int .i64 ((0 : Nat) : Int), .int .i64 ((1 : Nat) : Int)]) := Lib.hid (by
    have h := Blk.new (w.alloc (.cells #[.string ⟨#[]⟩, .string ⟨#[]⟩, .int .i64 0, .int .i64 0] 71)) 71 #[.string t, .string ⟨#[]⟩, .int .i64 0, .int .i64 1]
    have e : (w.alloc (.cells #[.string ⟨#[]⟩, .string ⟨#[]⟩, .int .i64 0, .int .i64 0] 71)).heap.size = w.heap.size + 1 := by simp
    rw [e] at h; exact h)
  have B0 := Lib.hid (b0.alloc (by simp) (.cells #[.string t, .string ⟨#[]⟩, .int .i64 0, .int .i64 1] 71))
  clear b0
  go_enter Tryd.func27, Tryd.ntmps27
  go_wp2_with fail
  go_loopw [17] (fun i wr => ∃ (k v1 p q : Nat) (v2 : ByteArray), k ≤ n2 ∧ i = .int .i64 k ∧ Hid (knS l (s.take k) (num l t) = (v1, v2)) ∧ Hid (lowN v1 252000 = (p, q)) ∧ v1 ≤ 2520000 ∧ Hid (Blk wr (w.heap.size + 1) 71 #[.string t, .string v2, .int .i64 p, .int .i64 q]) ∧
    Hid (Blk wr w.heap.size 71 #[.string ⟨#[]⟩, .string ⟨#[]⟩, .int .i64 0, .int .i64 0]) ∧ Hid (Below w.heap.size w wr)) (fun i _ => n2 - (intOf i).toNat)
  case atStart => exact ⟨0, 0, 0, 1, ⟨#[]⟩, Nat.zero_le _, rfl, Lib.hid rfl, Lib.hid (by simp [lowN]), by omega, O0, R0, B0⟩
  case round =>
    obtain ⟨k, v1, p, q, v2, hk, rfl, HV, HPQ, hv1, HO, HZ, HB⟩ := hrel
    clear O0 R0 B0
    have hz := HB.out.size
    have ho1 := HO.out.lt
    by_cases hlt : k < n2
    · have hkl : k < s.length := by rw [HL.out]; exact hlt
      obtain ⟨g2, hA2, hgl, hc⟩ := (HS.out.below HB.out).2 (by omega)
      subst hA2
      have c0 := (hc k hkl).1
      have c1 := (hc k hkl).2
      have hx := HS.out.1 _ (List.getElem_mem hkl)
      have hxo := HOK.out _ (List.getElem_mem hkl)
      have hst := knS_take (l := l) hkl (num l t)
      rw [HV.out] at hst
      unfold stepK at hst
      have hpb := part_bd HR.out hxo (num_lt HTO.out).1
      have hpl := part_low HR.out hxo.1 HTO.out s[k].n.toNat
      generalize s[k] = x at *
      obtain ⟨wt, hwt⟩ : ∃ wt : Nat, x.n = wt := ⟨x.n.toNat, by omega⟩
      rw [hwt] at c1
      have hwt2 : x.n.toNat = wt := by omega
      have hw1 : wt ≤ 100 := by omega
      rw [hwt2] at hst hpb hpl
      obtain ⟨nn, dd, hnd⟩ : ∃ nn dd, nearRef l x.t t = (nn, dd) := ⟨_, _, rfl⟩
      have hnn : nn ≤ 25200 ∧ 1 ≤ dd ∧ dd ≤ 2520 := by
        have h := nearRef_low HR.out hxo.1 HTO.out
        rw [hnd] at h
        have h1 := lowN_le (nI l (num l x.t) (num l t)) 2520
        have h2 := lowN_pos (nI l (num l x.t) (num l t)) 2520 (by decide)
        have h3 := (nI_bd HR.out (num_lt hxo.1).1 (num_lt HTO.out).1).2
        rw [← h] at h1 h2
        exact ⟨Nat.le_trans h1.1 h3, h2, h1.2⟩
      rw [hnd] at hpl
      obtain ⟨P, hP⟩ : ∃ P, wt * nI l (num l x.t) (num l t) = P := ⟨_, rfl⟩
      rw [hP] at hst hpb hpl
      obtain ⟨p2, q2, hpq2⟩ : ∃ p2 q2, lowN P 252000 = (p2, q2) := ⟨_, _, rfl⟩
      rw [hpq2] at hpl
      simp only at hpl
      obtain ⟨m1, hm1⟩ : ∃ m1, wt * nn = m1 := ⟨_, rfl⟩
      have hm1b : m1 ≤ 2520000 := by rw [← hm1]; exact Nat.le_trans (Nat.mul_le_mul hw1 hnn.1) (by decide)
      rw [hm1] at hpl
      have HW1 := Lib.hid (show (wt : Int) * (nn : Int) = (m1 : Int) by rw [← hm1]; exact (Int.natCast_mul _ _).symm)
      have HNW := Lib.hid (fun W (hW : Below w.heap.size w W) => nearof_in A n cap l x.t t W HN.out hn2 (HTL.out.below hW) hx.1 ht HR.out hxo.1 HTO.out nn dd (Lib.hid hnd))
      have HPW := Lib.hid (fun W => part2 m1 (100 * dd) p2 q2 W (by omega) (by omega) (by omega) (Lib.hid hpl))
      rw [show ((100 * dd : Nat) : Int) = 100 * (dd : Int) from Int.natCast_mul 100 dd, ← HW1.out] at HPW
      have hlo1 := lowN_le v1 252000
      have hlo2 := lowN_le P 252000
      have hcmp := lowN_cmp P v1 252000 (by decide)
      rw [HPQ.out] at hlo1 hcmp
      rw [hpq2] at hlo2 hcmp
      simp only at hlo1 hlo2 hcmp
      have hb1 : p2 * q ≤ 2520000 * 252000 := Nat.mul_le_mul (Nat.le_trans hlo2.1 hpb) hlo1.2
      have hb2 : p * q2 ≤ 2520000 * 252000 := Nat.mul_le_mul (Nat.le_trans hlo1.1 hv1) hlo2.2
      have e1 : (p2 : Int) * (q : Int) = ((p2 * q : Nat) : Int) := (Int.natCast_mul _ _).symm
      have e2 : (p : Int) * (q2 : Int) = ((p * q2 : Nat) : Int) := (Int.natCast_mul _ _).symm
      have HCW := Lib.hid (fun W => Frac.cmpf_any (p2 : Int) (q2 : Int) (p : Int) (q : Int) W (by rw [e1]; omega) (by rw [e1]; omega) (by rw [e2]; omega) (by rw [e2]; omega))
      have HST := Lib.hid hst
      have E1 := Lib.hid e1
      have E2 := Lib.hid e2
      have HPQ2 := Lib.hid hpq2
      have HCMP := Lib.hid hcmp
      have HX := Lib.hid hx.1
      have a0 : (0 : Int) ≤ (k : Int) := by omega
      have a1 : (k : Int) < (n2 : Int) := by omega
      have hm0 : 0 ≤ (wt : Int) * (nn : Int) := by rw [HW1.out]; omega
      have hm2 : (wt : Int) * (nn : Int) ≤ 2520000 := by rw [HW1.out]; omega
      obtain ⟨hn0, hd0, hd1⟩ := hnn
      have S1 := Lib.hid (Blk.new wr 36 #[.string x.t, .int .i64 wt])
      have B1 := Lib.hid (HB.out.alloc hz (.cells #[.string x.t, .int .i64 wt] 36))
      have O1 := Lib.hid (HO.out.alloc (.cells #[.string x.t, .int .i64 wt] 36))
      have Z1 := Lib.hid (HZ.out.alloc (.cells #[.string x.t, .int .i64 wt] 36))
      clear hc hx hxo hst hpl hnd hP hpq2 hm1 hlo1 hlo2 hcmp hb1 hb2 e1 e2 HO HZ HB
      go_wp2_with fail
      refine (HNW.out _ B1.out).mono ?_; rintro e w3 ⟨rfl, hb3⟩
      have B3 := Lib.hid (B1.out.trans (hb3.mono B1.out.size))
      have S3 := Lib.hid (S1.out.below hb3 (by simp))
      have O3 := Lib.hid (O1.out.below hb3 (by simp; omega))
      have Z3 := Lib.hid (Z1.out.below hb3 (by simp; omega))
      have s1 : w3.cell? ⟨wr.heap.size, 1, none⟩ = some (.int .i64 wt) := S3.out.cell 1 _ rfl
      have B3b := Lib.hid (B3.out.alloc B3.out.size (.cells #[.int .i64 nn, .int .i64 dd] 53))
      have hz3 := S3.out.lt
      clear hb3 B1 S1 O1 Z1 HNW c0 c1
      go_wp2_with fail
      refine (HPW.out _).mono ?_; rintro e w4 ⟨rfl, hb4⟩
      have B4 := Lib.hid (B3b.out.trans (hb4.mono B3b.out.size))
      have S4 := Lib.hid ((S3.out.alloc (.cells #[.int .i64 nn, .int .i64 dd] 53)).below hb4 (by simp; omega))
      have O4 := Lib.hid ((O3.out.alloc (.cells #[.int .i64 nn, .int .i64 dd] 53)).below hb4 (by simp; omega))
      have Z4 := Lib.hid ((Z3.out.alloc (.cells #[.int .i64 nn, .int .i64 dd] 53)).below hb4 (by simp; omega))
      have o2 : w4.cell? ⟨w.heap.size + 1, 2, none⟩ = some (.int .i64 p) := O4.out.cell 2 _ rfl
      have o3 : w4.cell? ⟨w.heap.size + 1, 3, none⟩ = some (.int .i64 q) := O4.out.cell 3 _ rfl
      have B4b := Lib.hid (B4.out.alloc B4.out.size (.cells #[.int .i64 p2, .int .i64 q2] 53))
      have T4 := Lib.hid (Blk.new w4 53 #[.int .i64 p2, .int .i64 q2])
      have hz4 := S4.out.lt
      have hz5 := O4.out.lt
      clear hb4 s1 B3 B3b S3 O3 Z3 HPW hm0 hm2 hm1b
      by_cases hgt : v1 < P
      · have hv : Frac.cmpI ((p2 : Int) * (q : Int)) ((p : Int) * (q2 : Int)) = 1 := cmpI_gt (by rw [E1.out, E2.out]; exact Int.ofNat_lt.2 (HCMP.out.2 hgt))
        rw [hv] at HCW
        have HST2 := Lib.hid (show knS l (s.take (k + 1)) (num l t) = (P, x.t) by rw [HST.out, if_pos hgt])
        clear hv HST HCMP E1 E2
        go_wp2_with fail
        refine (HCW.out _).mono ?_; rintro e w5 ⟨rfl, hb5⟩
        have B5 := Lib.hid (B4b.out.trans (hb5.mono B4b.out.size))
        have T5 := Lib.hid (T4.out.below hb5 (by simp))
        have S5 := Lib.hid ((S4.out.alloc (.cells #[.int .i64 p2, .int .i64 q2] 53)).below hb5 (by simp; omega))
        have O5 := Lib.hid ((O4.out.alloc (.cells #[.int .i64 p2, .int .i64 q2] 53)).below hb5 (by simp; omega))
        have Z5 := Lib.hid ((Z4.out.alloc (.cells #[.int .i64 p2, .int .i64 q2] 53)).below hb5 (by simp; omega))
        have t0 : w5.cell? ⟨w4.heap.size, 0, none⟩ = some (.int .i64 p2) := T5.out.cell 0 _ rfl
        have t1 : w5.cell? ⟨w4.heap.size, 1, none⟩ = some (.int .i64 q2) := T5.out.cell 1 _ rfl
        have s0 : w5.cell? ⟨wr.heap.size, 0, none⟩ = some (.string x.t) := S5.out.cell 0 _ rfl
        have o1 : w5.cell? ⟨w.heap.size + 1, 1, none⟩ = some (.string v2) := O5.out.cell 1 _ rfl
        have o2' : w5.cell? ⟨w.heap.size + 1, 2, none⟩ = some (.int .i64 p) := O5.out.cell 2 _ rfl
        have o3' : w5.cell? ⟨w.heap.size + 1, 3, none⟩ = some (.int .i64 q) := O5.out.cell 3 _ rfl
        have g1 := O5.out.frozen 1
        have g2' := O5.out.frozen 2
        have g3 := O5.out.frozen 3
        have hzT := T5.out.lt
        have hzS := S5.out.lt
        have hzO := O5.out.lt
        clear hb5 o2 o3 B4 B4b T4 S4 O4 Z4 HCW
        go_wp2_with fail
        go_region
        all_goals
          go_wp2_with fail
          go_roundw
          case rel => exact ⟨k + 1, P, p2, q2, x.t, by omega, by go_num, HST2, HPQ2, hpb, Lib.hid (blk_drewN (((O5.out.set_ 2 (.int .i64 p2)).set_ 3 (.int .i64 q2)).set_ 1 (.string x.t)) 1),
            Lib.hid (blk_drewN (((Z5.out.far (p := ⟨w.heap.size + 1, 2, none⟩) (by simp) (.int .i64 p2)).far (p := ⟨w.heap.size + 1, 3, none⟩) (by simp) (.int .i64 q2)).far (p := ⟨w.heap.size + 1, 1, none⟩) (by simp) (.string x.t)) 1),
            Lib.hid (((B5.out.setCell (p := ⟨w.heap.size + 1, 2, none⟩) (by simp) (.int .i64 p2)).setCell (p := ⟨w.heap.size + 1, 3, none⟩) (by simp) (.int .i64 q2)).setCell (p := ⟨w.heap.size + 1, 1, none⟩) (by simp) (.string x.t)).drew⟩
          case measure => simp [intOf]; omega
      · have hv := cmpI_le (x := (p2 : Int) * (q : Int)) (y := (p : Int) * (q2 : Int)) (by rw [E1.out, E2.out]; exact fun h => hgt (HCMP.out.1 (Int.ofNat_lt.1 h)))
        generalize Frac.cmpI ((p2 : Int) * (q : Int)) ((p : Int) * (q2 : Int)) = cv at *
        have hd : decide (cv > 0) = false := by simpa using hv
        have HST2 := Lib.hid (show knS l (s.take (k + 1)) (num l t) = (v1, v2) by rw [HST.out, if_neg hgt])
        clear HST HCMP E1 E2
        go_wp2_with fail
        refine (HCW.out _).mono ?_; rintro e w5 ⟨rfl, hb5⟩
        have B5 := Lib.hid (B4b.out.trans (hb5.mono B4b.out.size))
        have O5 := Lib.hid ((O4.out.alloc (.cells #[.int .i64 p2, .int .i64 q2] 53)).below hb5 (by simp; omega))
        have Z5 := Lib.hid ((Z4.out.alloc (.cells #[.int .i64 p2, .int .i64 q2] 53)).below hb5 (by simp; omega))
        clear hb5 o2 o3 B4 B4b T4 S4 O4 Z4 HCW
        go_wp2_with fail
        go_roundw
        case rel => exact ⟨k + 1, v1, p, q, v2, by omega, by go_num, HST2, HPQ, hv1, O5, Z5, B5⟩
        case measure => simp [intOf]; omega
    · have hkn : k = n2 := by omega
      subst hkn
      have hfin := HV.out
      rw [List.take_of_length_le (by rw [HL.out]; exact Nat.le_refl _)] at hfin
      have HE : Hid (becN l s t = ⟨t, v2, (p : Nat), (q : Nat)⟩) := Lib.hid (by unfold becN; rw [hfin, HPQ.out])
      obtain ⟨bt, bb, bp, bq⟩ := HO.out |> fun h => (⟨h.cell 0 _ rfl, h.cell 1 _ rfl, h.cell 2 _ rfl, h.cell 3 _ rfl⟩ : _ ∧ _ ∧ _ ∧ _)
      have z0 := HZ.out.cell 0 _ rfl
      have z1 := HZ.out.cell 1 _ rfl
      have z2 := HZ.out.cell 2 _ rfl
      have z3 := HZ.out.cell 3 _ rfl
      have f0 := HZ.out.frozen 0
      have f1 := HZ.out.frozen 1
      have f2 := HZ.out.frozen 2
      have f3 := HZ.out.frozen 3
      clear hfin
      go_wp2_with fail
      refine bodyPost_ret (v := .agg #[.string t, .string v2, .int .i64 (p : Int), .int .i64 (q : Int)]) (by simp only [results, Tryd.results27]; go_simp) rfl ⟨by rw [HE.out], ?_⟩
      exact ((((HB.out.setCell (by simp) _).setCell (by simp) _).setCell (by simp) _).setCell (by simp) _)
end Go.Proofs.YtnjigaklkalebaaDoor.For
