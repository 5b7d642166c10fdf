/-
  THE REFERENCE'S BecauseOf AND AffinityOf.
-/
import Derived.Test.YtanoojmgjinmfabDoorRefKnow
namespace Go.Proofs.YtanoojmgjinmfabDoor.For
open Go.ChangeShapes Go.WideShapes Go.ChangeAt Go.RowKit Stm Key
set_option linter.unusedVariables false

theorem lowN_one : lowN 0 (252000 * max 0 1) = (0, 1) := by
  rw [show 252000 * max 0 1 = 252000 from rfl]; unfold lowN; rw [Nat.gcd_zero_left]
/-- What BecauseOf hands back. -/
def BListRet (bs : List Bc) (w : World) (e : Ending) (w' : World) : Prop := ∃ (A : Option Addr) (c : Nat), e = .returned (.slice A bs.length c) ∧ BL w' A bs ∧ Below w.heap.size w w'

set_option maxRecDepth 100000 in
set_option maxHeartbeats 8000000 in
theorem becauseof_walk (A : Option Addr) (n cap : Nat) (l : List Tp) (A2 : Option Addr) (n2 c2 : Nat) (s : List Sk) (A3 : Option Addr) (n3 c3 : Nat) (ts : List ByteArray) (w : World) (hn : l.length = n) (hn2 : n ≤ 900) (hS : TL w A l) (hR : RightF l) (hs : KL w A2 s) (hk : s.length = n2) (h100 : n2 ≤ 100)
    (hok : ∀ x ∈ s, (lk l x.t).isSome = true ∧ 1 ≤ x.n ∧ x.n ≤ 100) (ht : SL w A3 ts) (hkt : ts.length = n3) (h8 : n3 ≤ 8) (hto : ∀ x ∈ ts, (lk l x).isSome = true) :
    Calls Tryd.prog 16 #[.slice A n cap, .slice A2 n2 c2, .slice A3 n3 c3] w (BListRet (becS l s ts) w) := by
  have HTL := Lib.hid hS
  have HR := Lib.hid hR
  have HS := Lib.hid hs
  have HL := Lib.hid hk
  have HN := Lib.hid hn
  have HOK := Lib.hid hok
  have HT := Lib.hid ht
  have HKT := Lib.hid hkt
  have HTO := Lib.hid hto
  clear hS hR hs hk hn hok hto ht hkt
  obtain ⟨i0, hi0, hz0, hz1', hz2⟩ := info_parts infoB
  have HI := Lib.hid hi0
  have Z0 := Lib.hid hz0
  have Z1 := Lib.hid hz1'
  have Z2 := Lib.hid hz2
  clear hi0 hz0 hz1' hz2
  go_enter Tryd.func16, Tryd.ntmps16
  go_wp2_with fail
  go_loopw [7, 12] (fun out i wr => ∃ (k : Nat) (Ao : Option Addr) (c : Nat), k ≤ n3 ∧ i = .int .i64 k ∧ out = .slice Ao k c ∧ Hid (wr.ownsRow w.heap.size 48 4 (.slice Ao k c) k (flatB (becS l s (ts.take k)))) ∧ Hid (Below w.heap.size w wr)) (fun _ i _ => n3 - (intOf i).toNat)
  case atStart => exact ⟨0, none, 0, Nat.zero_le _, rfl, rfl, Lib.hid (World.ownsRow_nil _ _ _ _), Lib.hid (Below.refl _ _)⟩
  case round =>
    obtain ⟨k, Ao, c, hk, rfl, rfl, HO, HB⟩ := hrel
    have hz := HB.out.size
    by_cases hlt : k < n3
    · have hkl : k < ts.length := by rw [HKT.out]; exact hlt
      obtain ⟨g3, hA3, hgl, hc⟩ := (HT.out.below HB.out).2 (by omega)
      subst hA3
      have c0 := hc k hkl
      have hx := HT.out.1 _ (List.getElem_mem hkl)
      have hxo := HTO.out _ (List.getElem_mem hkl)
      have HNX := Lib.hid (becS_next (l := l) (s := s) hkl)
      generalize ts[k] = x at *
      have HKW := Lib.hid (known_walk A n cap l A2 n2 c2 s x wr HN.out hn2 (HTL.out.below HB.out) HR.out (HS.out.below HB.out) HL.out h100 HOK.out hx hxo)
      have a0 : (0 : Int) ≤ (k : Int) := by omega
      have a1 : (k : Int) < (n3 : Int) := by omega
      generalize becN l s x = b at *
      clear hc hxo hx
      go_wp2_with fail
      refine (HKW.out).mono ?_; rintro e w6 ⟨rfl, hb⟩
      have B6 := Lib.hid (HB.out.trans (hb.mono hz))
      have O6 := Lib.hid (own_below HO.out hb)
      have z6 : w.heap.size ≤ w6.heap.size := B6.out.size
      clear hb HKW c0 HO HB
      go_wp2_with (at_builtin; go_loud (refine wpList_append_lies _ rfl _ _ _ rfl w.heap.size 48 i0 _ 4 48 Tryd.underlying37 HI.out Z0.out Z1.out Z2.out rfl (by omega) (.slice Ao k c) k (flatB (becS l s (ts.take k))) rfl (O6.out.alloc _) ⟨w6.heap.size, 0, none⟩ 1 1 [.string b.t, .string b.b, .int .i64 b.p, .int .i64 b.q] rfl rfl (World.news_of_block (cs := #[.string b.t, .string b.b, .int .i64 b.p, .int .i64 b.q]) (t := 48) (fr := (0, 0)) (heap_alloc_new w6 _)) (by simp [Value.oneCell']) (by omega) (by unfold maxLen; omega) (by omega) (by simp; omega) (w6.heap.size + 1) (by simp) ?_; intro gg cap' w7 hown hgrow hat hgl; (have O7 := Lib.hid (show w7.ownsRow w.heap.size 48 4 _ (k + 1) (flatB (becS l s (ts.take (k + 1)))) by rw [HNX.out, flatB_snoc]; exact hown)); (have B7 := Lib.hid ((B6.out.alloc z6 (.cells #[.string b.t, .string b.b, .int .i64 b.p, .int .i64 b.q] 48)).trans (grown_below hgrow (fun g e => by have := (O6.out.lt g e).1; omega) (by simp; omega)))); clear hown hgrow hat))
      go_roundw
      case rel => exact ⟨k + 1, _, _, by omega, by go_num, rfl, O7, B7⟩
      case measure => simp [intOf]; omega
    · have hkn : k = n3 := by omega
      subst hkn
      have hfin := HO.out
      rw [List.take_of_length_le (by rw [HKT.out]; exact Nat.le_refl _)] at hfin
      have HLN : Hid ((becS l s ts).length = k) := Lib.hid (by unfold becS; rw [List.length_map, HKT.out])
      have FIN := Lib.hid (row_bl hfin HLN.out)
      clear hfin
      go_wp2_with fail
      go_ret
      exact ⟨Ao, c, by rw [HLN.out]; try rfl, FIN.out, HB.out⟩

set_option maxRecDepth 100000 in
set_option maxHeartbeats 1500000 in
theorem affinityof_walk (A : Option Addr) (n cap : Nat) (l : List Tp) (A2 : Option Addr) (n2 c2 : Nat) (s : List Sk) (A3 : Option Addr) (n3 c3 : Nat) (ts : List ByteArray) (w : World) (hn : l.length = n) (hn2 : n ≤ 900) (hS : TL w A l) (hR : RightF l) (hs : KL w A2 s) (hk : s.length = n2) (h100 : n2 ≤ 100)
    (hok : ∀ x ∈ s, (lk l x.t).isSome = true ∧ 1 ≤ x.n ∧ x.n ≤ 100) (ht : SL w A3 ts) (hkt : ts.length = n3) (h8 : n3 ≤ 8) (hto : ∀ x ∈ ts, (lk l x).isSome = true) (p0 q0 : Nat) (hpq : Hid (affN l s ts = (p0, q0))) :
    Calls Tryd.prog 14 #[.slice A n cap, .slice A2 n2 c2, .slice A3 n3 c3] w fun e w' => e = .returned (.agg #[.int .i64 p0, .int .i64 q0]) ∧ Below w.heap.size w w' := by
  have b0 : Below w.heap.size w (w.alloc (.cells #[.int .i64 0, .int .i64 0] 33)) := (Below.refl _ _).alloc (Nat.le_refl _) _
  have HBW := Lib.hid (becauseof_walk A n cap l A2 n2 c2 s A3 n3 c3 ts _ hn hn2 (hS.below b0) hR (hs.below b0) hk h100 hok (ht.below b0) hkt h8 hto)
  have HBD := Lib.hid (fun i (hi : i < n) => (knS_le hR hok (fun x hx => (hs.1 x hx).1) (show i < l.length by rw [hn]; exact hi)).1)
  have HN := Lib.hid hn
  have HKT := Lib.hid hkt
  have HTO := Lib.hid hto
  have B0 := Lib.hid b0
  have HLN : Hid ((becS l s ts).length = n3) := Lib.hid (by unfold becS; rw [List.length_map, hkt])
  clear hS hR hs hk hn hok hto ht hkt b0
  go_enter Tryd.func14, Tryd.ntmps14
  go_wp2_with fail
  refine (HBW.out).mono ?_; rintro e w1 ⟨Ab, cb, rfl, hbl, hb1⟩
  rw [HLN.out]
  have K1 := Lib.hid ((Frac.Cells2.new w 0 0 33).below hb1)
  have B1 := Lib.hid (B0.out.trans (hb1.mono (by simp)))
  have BL1 := Lib.hid hbl
  clear hb1 hbl HBW B0
  go_wp2_with fail
  go_loopw [7, 8, 17] (fun su de i wr => ∃ (k m p q : Nat), k ≤ n3 ∧ i = .int .i64 k ∧ su = .int .i64 p ∧ de = .int .i64 q ∧ Hid (sumK l s (ts.take k) = m) ∧ m ≤ k * 2520000 ∧ Hid (lowN m 252000 = (p, q)) ∧ Hid (Below w1.heap.size w1 wr)) (fun _ _ i _ => n3 - (intOf i).toNat)
  case atStart => exact ⟨0, 0, 0, 1, Nat.zero_le _, rfl, rfl, rfl, Lib.hid rfl, Nat.le_refl _, Lib.hid (by simp [lowN]), Lib.hid (Below.refl _ _)⟩
  case round =>
    obtain ⟨k, m, p, q, hk, rfl, rfl, rfl, HSU, hm, HPQ, HB⟩ := hrel
    have hz := HB.out.size
    by_cases hlt : k < n3
    · have hkl : k < ts.length := by rw [HKT.out]; exact hlt
      have hkb : k < (becS l s ts).length := by rw [HLN.out]; exact hlt
      obtain ⟨g3, hA3, hgl, hc⟩ := BL1.out (by omega)
      subst hA3
      obtain ⟨d0, d1, d2, d3⟩ := hc k hkb
      have hbk : (becS l s ts)[k] = becN l s ts[k] := by simp [becS]
      rw [hbk] at d0 d1 d2 d3
      have hxo := num_lt (HTO.out _ (List.getElem_mem hkl))
      have hst := sumK_next (l := l) (s := s) hkl
      rw [HSU.out] at hst
      have hcb := HBD.out (num l ts[k]) (by have := HN.out; omega)
      unfold becN at d0 d1 d2 d3
      simp only at d0 d1 d2 d3
      generalize ts[k] = x at *
      obtain ⟨v1, hv1⟩ : ∃ v1, (knS l s (num l x)).1 = v1 := ⟨_, rfl⟩
      obtain ⟨v2, hv2⟩ : ∃ v2, (knS l s (num l x)).2 = v2 := ⟨_, rfl⟩
      rw [hv1] at hst hcb d2 d3
      rw [hv2] at d1
      obtain ⟨p2, q2, hpq2⟩ : ∃ p2 q2, lowN v1 252000 = (p2, q2) := ⟨_, _, rfl⟩
      rw [hpq2] at d2 d3
      simp only at d2 d3
      have e0 := (HB.out.cell (p := ⟨g3, k * 4, none⟩) hgl).trans d0
      have e1 := (HB.out.cell (p := ⟨g3, k * 4 + 1, none⟩) hgl).trans d1
      have e2 := (HB.out.cell (p := ⟨g3, k * 4 + 2, none⟩) hgl).trans d2
      have e3 := (HB.out.cell (p := ⟨g3, k * 4 + 3, none⟩) hgl).trans d3
      have hgw : g3 < wr.heap.size := by omega
      have hlo1 := lowN_le m 252000
      have hlo2 := lowN_le v1 252000
      have hp1 := lowN_pos m 252000 (by decide)
      have hp2 := lowN_pos v1 252000 (by decide)
      have hadd := lowN_add m v1 252000 (by decide)
      rw [HPQ.out] at hlo1 hp1 hadd
      rw [hpq2] at hlo2 hp2 hadd
      simp only at hlo1 hlo2 hp1 hp2 hadd
      have hm8 : m ≤ 20160000 := by omega
      have u1 : p * q2 ≤ 20160000 * 252000 := Nat.mul_le_mul (Nat.le_trans hlo1.1 hm8) hlo2.2
      have u2 : p2 * q ≤ 2520000 * 252000 := Nat.mul_le_mul (Nat.le_trans hlo2.1 hcb) hlo1.2
      have u3 : q * q2 ≤ 252000 * 252000 := Nat.mul_le_mul hlo1.2 hlo2.2
      have u4 : 0 < q * q2 := Nat.mul_pos hp1 hp2
      have E1 : (p : Int) * (q2 : Int) = ((p * q2 : Nat) : Int) := (Int.natCast_mul _ _).symm
      have E2 : (p2 : Int) * (q : Int) = ((p2 * q : Nat) : Int) := (Int.natCast_mul _ _).symm
      have E3 : (q : Int) * (q2 : Int) = ((q * q2 : Nat) : Int) := (Int.natCast_mul _ _).symm
      obtain ⟨P1, hP1⟩ : ∃ P1, p * q2 = P1 := ⟨_, rfl⟩
      obtain ⟨P2, hP2⟩ : ∃ P2, p2 * q = P2 := ⟨_, rfl⟩
      obtain ⟨D, hD⟩ : ∃ D, q * q2 = D := ⟨_, rfl⟩
      rw [hP1] at u1 E1 hadd
      rw [hP2] at u2 E2 hadd
      rw [hD] at u3 u4 E3 hadd
      obtain ⟨p3, q3, hpq3⟩ : ∃ p3 q3, lowN (m + v1) 252000 = (p3, q3) := ⟨_, _, rfl⟩
      rw [hpq3] at hadd
      have HW1 := Lib.hid (show IntKind.i64.wrap ((p : Int) * (q2 : Int)) = (P1 : Int) by rw [E1]; exact IntWalk.i64_in _ (by omega))
      have HW2 := Lib.hid (show IntKind.i64.wrap ((p2 : Int) * (q : Int)) = (P2 : Int) by rw [E2]; exact IntWalk.i64_in _ (by omega))
      have HW3 := Lib.hid (show IntKind.i64.wrap ((q : Int) * (q2 : Int)) = (D : Int) by rw [E3]; exact IntWalk.i64_in _ (by omega))
      have HW4 := Lib.hid (show IntKind.i64.wrap ((P1 : Int) + (P2 : Int)) = ((P1 + P2 : Nat) : Int) by rw [Int.natCast_add]; exact IntWalk.i64_in _ (by omega))
      have HPW := Lib.hid (fun W => part2 (P1 + P2) D p3 q3 W (by omega) (by omega) (by omega) (Lib.hid hadd))
      have HST := Lib.hid hst
      have HPQ3 := Lib.hid hpq3
      have B2 := Lib.hid (HB.out.alloc hz (.cells #[.string x, .string v2, .int .i64 p2, .int .i64 q2] 48))
      have K2 := Lib.hid (Blk.new wr 48 #[.string x, .string v2, .int .i64 p2, .int .i64 q2])
      have h2 : (wr.alloc (.cells #[.string x, .string v2, .int .i64 p2, .int .i64 q2] 48)).cell? ⟨wr.heap.size, 2, none⟩ = some (.int .i64 p2) := K2.out.cell 2 _ rfl
      have h3 : (wr.alloc (.cells #[.string x, .string v2, .int .i64 p2, .int .i64 q2] 48)).cell? ⟨wr.heap.size, 3, none⟩ = some (.int .i64 q2) := K2.out.cell 3 _ rfl
      have a0 : (0 : Int) ≤ (k : Int) := by omega
      have a1 : (k : Int) < (n3 : Int) := by omega
      clear hc d0 d1 d2 d3 hbk hxo hst hlo1 hlo2 hp1 hp2 hadd u1 u2 u3 u4 E1 E2 E3 hP1 hP2 hD hpq2 hpq3 hv1 hv2 HB HSU HPQ
      go_wp2_with fail
      have w1' := HW1.out
      have w2' := HW2.out
      have w3' := HW3.out
      have w4' := HW4.out
      go_quiet (fail)
      clear w1' w2' w3' w4' e0 e1 e2 e3 h2 h3
      go_wp2_with fail
      refine (HPW.out _).mono ?_; rintro e w4 ⟨rfl, hb4⟩
      have B4 := Lib.hid ((below_drewN B2.out nq).trans (hb4.mono (by simp; omega)))
      have B5 := Lib.hid (B4.out.alloc B4.out.size (.cells #[.int .i64 p3, .int .i64 q3] 33))
      clear hb4 B2 HPW
      go_wp2_with fail
      go_quiet (fail)
      go_wp2_with fail
      go_roundw
      case rel => exact ⟨k + 1, m + v1, p3, q3, by omega, by go_num, rfl, rfl, HST, by omega, HPQ3, Lib.hid (below_drewN B5.out nq)⟩
      case measure => simp [intOf]; omega
    · have hkn : k = n3 := by omega
      subst hkn
      have hfin := HSU.out
      rw [List.take_of_length_le (by rw [HKT.out]; exact Nat.le_refl _)] at hfin
      have hpq2 := hpq.out
      unfold affN at hpq2
      rw [hfin, HKT.out] at hpq2
      have hm8 : m ≤ 20160000 := by omega
      have hlo1 := lowN_le m 252000
      have hp1 := lowN_pos m 252000 (by decide)
      have hsc := lowN_scale 1 k m 252000 (by decide)
      rw [HPQ.out] at hlo1 hp1 hsc
      simp only [Nat.one_mul] at hlo1 hp1 hsc
      have hp8 : p ≤ 20160000 := by omega
      have K3 := Lib.hid (K1.out.below HB.out)
      by_cases h0 : k = 0
      · subst h0
        have hm0 : m = 0 := by omega
        subst hm0
        have hpp : (0, 1) = (p0, q0) := lowN_one.symm.trans hpq2
        injection hpp with h1 h2
        subst h1
        subst h2
        have HLW := Lib.hid (fun W => part_none (p : Int) W)
        clear hpq2 hsc hfin HSU
        go_wp2_with fail
        refine (HLW.out _).mono ?_; rintro e w5 ⟨rfl, hb5⟩
        have B5 := Lib.hid ((B1.out.trans (HB.out.mono B1.out.size)).trans (hb5.mono (by have := HB.out.size; have := B1.out.size; omega)))
        obtain ⟨r0, r1, f0, f1, z5⟩ := K3.out.below hb5
        clear hb5 HLW
        go_wp2_with fail
        refine bodyPost_ret (v := .agg #[.int .i64 0, .int .i64 1]) (by simp only [results, Tryd.results14]; go_simp) rfl ⟨rfl, ?_⟩
        exact (B5.out.setCell (by simp) _).setCell (by simp) _
      · have hmx : max k 1 = k := by omega
        rw [hmx, Nat.mul_comm] at hpq2
        rw [hpq2] at hsc
        have u3 : k * q ≤ 8 * 252000 := Nat.mul_le_mul h8 hlo1.2
        have u4 : 0 < k * q := Nat.mul_pos (by omega) hp1
        have E3 : (q : Int) * (k : Int) = ((k * q : Nat) : Int) := by rw [Int.mul_comm]; exact (Int.natCast_mul _ _).symm
        have HLW := Lib.hid (fun W => part2 p (k * q) p0 q0 W (by omega) (by omega) (by omega) (Lib.hid hsc))
        rw [← E3] at HLW
        have u5 : 0 ≤ (q : Int) * (k : Int) := by rw [E3]; omega
        have u6 : (q : Int) * (k : Int) ≤ 2016000 := by rw [E3]; omega
        clear hpq2 hsc hfin HSU E3 u3 u4
        go_wp2_with fail
        refine (HLW.out _).mono ?_; rintro e w5 ⟨rfl, hb5⟩
        have B5 := Lib.hid ((B1.out.trans (HB.out.mono B1.out.size)).trans (hb5.mono (by have := HB.out.size; have := B1.out.size; omega)))
        obtain ⟨r0, r1, f0, f1, z5⟩ := K3.out.below hb5
        clear hb5 HLW
        go_wp2_with fail
        refine bodyPost_ret (v := .agg #[.int .i64 (p0 : Int), .int .i64 (q0 : Int)]) (by simp only [results, Tryd.results14]; go_simp) rfl ⟨rfl, ?_⟩
        exact (B5.out.setCell (by simp) _).setCell (by simp) _
end Go.Proofs.YtanoojmgjinmfabDoor.For
