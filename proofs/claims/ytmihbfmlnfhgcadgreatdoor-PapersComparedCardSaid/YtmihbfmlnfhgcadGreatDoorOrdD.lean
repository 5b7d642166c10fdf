/-
  THE ORDER OF PAPERS: discuss.Order.
-/
import Derived.Test.YtmihbfmlnfhgcadGreatDoorOrdO
import Derived.Test.YtmihbfmlnfhgcadGreatDoorDecF
import Derived.Test.YtmihbfmlnfhgcadGreatDoorDisM
import Derived.Test.YtmihbfmlnfhgcadGreatDoorErrs
import Derived.Deep.RegionHeld3
namespace Go.Proofs.YtmihbfmlnfhgcadGreatDoor.Cal
open Go.Shelf
open Go.ChangeShapes Go.WideShapes Go.ChangeAt Go.RowKit Stm Key
set_option linter.unusedVariables false

/-- What is wrong with what Order is asked. -/
def ordE (zs : List Int) (f : Int) (l : List Mk) (a b : ByteArray) : Int := fstE [decE zs f, chkO ⟨#[]⟩ ⟨#[]⟩ l, kfE a, kfE b]
def OrdRet (zs : List Int) (l : List Mk) (a b : ByteArray) (g : Int) (w : World) (e : Ending) (w' : World) : Prop := Below w.heap.size w w' ∧ ((g ≠ 0 ∧ e = .returned (.tuple #[.int .i64 0, .int .i64 g])) ∨
  (g = 0 ∧ e = .returned (.tuple #[.int .i64 (ordK frP (srtI (scB l a)) (srtI (scB l b)) (Lib.compareBytes a.data.toList b.data.toList) zs), .int .i64 0])))
theorem fs_ilO {w : World} {base : Nat} {V : ByteArray → Option Value} {l : List Mk} (p : ByteArray) (hF : FS w base V (fun s => srtI (scB l s))) (hI : ∀ s, (V s).isSome = decide (0 < (scB l s).length)) (hok : ∀ x ∈ l, 0 ≤ x.s ∧ x.s ≤ 10) :
    ∃ (A : Option Addr) (m c : Nat), (V p).getD (.slice none 0 0) = .slice A m c ∧ (srtI (scB l p)).length = m ∧ IL w A (srtI (scB l p)) := by
  obtain ⟨A, c, h1, h2⟩ := fs_il p hF hI hok
  exact ⟨A, _, c, h1, (srtI_perm _).length_eq, h2⟩
set_option maxRecDepth 100000 in
set_option maxHeartbeats 8000000 in
theorem order_walk (A : Option Addr) (n c : Nat) (zs : List Int) (f : Int) (Am : Option Addr) (nm cm : Nat) (l : List Mk) (ia ib : ByteArray) (w : World) (hn : zs.length = n) (hn2 : n ≤ 1000) (hnc : n ≤ c) (hc : c ≤ 1000000) (hI : IL w A zs) (hf : -1000 ≤ f) (hf2 : f ≤ 1000)
    (hl : l.length = nm) (hnm : nm ≤ 256) (hM : ML w Am l) (ha : ia.size ≤ 1000) (hb : ib.size ≤ 1000) (g : Int) (hg : Hid (ordE zs f l ia ib = g)) :
    Calls Tryz.prog 8 #[.agg #[.slice A n c, .int .i64 f], .slice Am nm cm, .string ia, .string ib] w (OrdRet zs l ia ib g w) := by
  have HN := Lib.hid hn
  have HL := Lib.hid hl
  have B0 := Lib.hid ((Below.refl w.heap.size w).alloc (Nat.le_refl _) (.cells #[.slice A n c, .int .i64 f] 27))
  have X0 := Lib.hid (Blk.new w 27 #[.slice A n c, .int .i64 f])
  have I0 := Lib.hid (hI.below B0.out)
  have M0 := Lib.hid (hM.below B0.out)
  obtain ⟨d, hd⟩ : ∃ d, decE zs f = d := ⟨_, rfl⟩
  obtain ⟨m, hm⟩ : ∃ m, chkO ⟨#[]⟩ ⟨#[]⟩ l = m := ⟨_, rfl⟩
  obtain ⟨ka, hka⟩ : ∃ ka, kfE ia = ka := ⟨_, rfl⟩
  obtain ⟨kb, hkb⟩ : ∃ kb, kfE ib = kb := ⟨_, rfl⟩
  have HG := Lib.hid (show fstE [d, m, ka, kb] = g by rw [← hg.out, ← hd, ← hm, ← hka, ← hkb]; rfl)
  have HD := Lib.hid hd
  have HMM := Lib.hid hm
  have HKA := Lib.hid (show (if keyL ia.data.toList = true then 0 else 5 : Int) = ka from hka)
  have HKB := Lib.hid (show (if keyL ib.data.toList = true then 0 else 5 : Int) = kb from hkb)
  clear hn hl hI hM hg hd hm hka hkb
  go_enter Tryz.func8, Tryz.ntmps8
  go_upto_region 1 with fail
  generalize hwa : w.alloc (.cells #[.slice A n c, .int .i64 f] 27) = wa at *
  clear hwa
  have x0 := X0.out.cell 0 _ rfl
  have x1 := X0.out.cell 1 _ rfl
  have hz0 := B0.out.size
  go_wp2_with fail
  refine (decchk_walk A n c zs f wa HN.out hn2 hnc hc I0.out hf hf2 d HD).mono ?_; rintro e w1 ⟨rfl, hb1⟩
  have B1 := Lib.hid (B0.out.trans (hb1.mono hz0))
  have X1 := Lib.hid (X0.out.below hb1 X0.out.lt)
  have I1 := Lib.hid (I0.out.below hb1)
  have M1 := Lib.hid (M0.out.below hb1)
  have hz1 := B1.out.size
  clear hb1 B0 X0 I0 M0 x0 x1 hz0
  by_cases hd0 : d = 0
  rotate_left
  · have e1 : (d != 0) = true := by simpa using hd0
    have HE := Lib.hid (show d = g by have := HG.out; unfold fstE at this; rwa [if_pos hd0] at this)
    have FIN := Lib.hid (show OrdRet zs l ia ib g w (.returned (.tuple #[.int .i64 0, .int .i64 d])) w1 from ⟨B1.out, Or.inl ⟨by rw [← HE.out]; exact hd0, by rw [← HE.out]⟩⟩)
    clear hd0
    go_wp2_with fail
    go_ret2
    exact FIN.out
  subst hd0
  have HG1 := Lib.hid (show fstE [m, ka, kb] = g from HG.out)
  have hdz := decE_ok HD.out
  have HDZ := Lib.hid hdz
  clear HG hdz
  have HSC := Lib.hid (scoresofD_walk Am nm cm l w1 HL.out hnm M1.out m HMM)
  go_wp2_with fail
  refine (HSC.out).mono ?_; rintro e w2 ⟨hb2, ⟨hm0, rfl⟩ | ⟨rfl, M, cM, C, V, rfl, hzM, hzC, hMS, hFS, hIS⟩⟩
  · have B2 := Lib.hid (B1.out.trans (hb2.mono hz1))
    have e1 : (m != 0) = true := by simpa using hm0
    have HE := Lib.hid (show m = g by have := HG1.out; unfold fstE at this; rwa [if_pos hm0] at this)
    have FIN := Lib.hid (show OrdRet zs l ia ib g w (.returned (.tuple #[.int .i64 0, .int .i64 m])) w2 from ⟨B2.out, Or.inl ⟨by rw [← HE.out]; exact hm0, by rw [← HE.out]⟩⟩)
    clear hm0 hb2 HSC
    go_wp2_with fail
    go_ret2
    exact FIN.out
  have HG2 := Lib.hid (show fstE [ka, kb] = g from HG1.out)
  have hok : ∀ x ∈ l, 0 ≤ x.s ∧ x.s ≤ 10 := fun x hx => (chkO_scores l _ _ HMM.out x hx).2
  obtain ⟨Aa, na, ca, hva, hna, hia⟩ := fs_ilO ia hFS hIS hok
  obtain ⟨Ab, nb, cb, hvb, hnb, hib⟩ := fs_ilO ib hFS hIS hok
  have hna2 : na ≤ 256 := by rw [← hna, (srtI_perm _).length_eq]; exact Nat.le_trans (scB_len l ia) (by rw [HL.out]; exact hnm)
  have hnb2 : nb ≤ 256 := by rw [← hnb, (srtI_perm _).length_eq]; exact Nat.le_trans (scB_len l ib) (by rw [HL.out]; exact hnm)
  have B2 := Lib.hid (B1.out.trans (hb2.mono hz1))
  have X2 := Lib.hid (X1.out.below hb2 X1.out.lt)
  have I2 := Lib.hid (I1.out.below hb2)
  have HMS := Lib.hid hMS
  have HVA := Lib.hid hva
  have HVB := Lib.hid hvb
  have HNA := Lib.hid hna
  have HNB := Lib.hid hnb
  have IA2 := Lib.hid hia
  have IB2 := Lib.hid hib
  have hz2 := B2.out.size
  clear hb2 hMS hFS hIS hok hva hvb hna hnb hia hib HSC B1 X1 I1 M1 hz1 HG1
  obtain ⟨sa, hsa⟩ : ∃ sa, srtI (scB l ia) = sa := ⟨_, rfl⟩
  obtain ⟨sb, hsb⟩ : ∃ sb, srtI (scB l ib) = sb := ⟨_, rfl⟩
  have HSA := Lib.hid hsa
  have HSB := Lib.hid hsb
  rw [hsa] at HNA IA2
  rw [hsb] at HNB IB2
  clear hsa hsb
  go_wp2_with fail
  refine (chkkey_any ia w2 ha ka HKA.out).mono ?_; rintro e w3 ⟨rfl, hw3⟩
  rw [← hw3] at B2 X2 I2 HMS IA2 IB2 hz2
  clear hw3
  go_wp2_with fail
  refine (chkkey_any ib w3 hb kb HKB.out).mono ?_; rintro e w4 ⟨rfl, hw4⟩
  rw [← hw4] at B2 X2 I2 HMS IA2 IB2 hz2
  clear hw4
  obtain ⟨v, hv⟩ : ∃ v, (if ka ≠ 0 then ka else kb) = v := ⟨_, rfl⟩
  have HV := Lib.hid hv
  have HG3 := Lib.hid (show v = g by
    have := HG2.out; unfold fstE fstE fstE at this
    rw [← hv]
    by_cases h : ka ≠ 0
    · rw [if_pos h] at this ⊢; exact this
    · rw [if_neg h] at this ⊢
      by_cases h2 : kb ≠ 0
      · rw [if_pos h2] at this; exact this
      · rw [if_neg h2] at this; rw [← this]; simpa using h2)
  clear hv HG2
  have hb5 := (Below.refl w4.heap.size w4).alloc (Nat.le_refl _) (.cells #[.int .i64 ka, .int .i64 kb] 34)
  have B5 := Lib.hid (B2.out.trans (hb5.mono hz2))
  have X5 := Lib.hid (X2.out.below hb5 X2.out.lt)
  have I5 := Lib.hid (I2.out.below hb5)
  have S5 := Lib.hid (HMS.out.below hb5)
  have IA5 := Lib.hid (IA2.out.below hb5)
  have IB5 := Lib.hid (IB2.out.below hb5)
  have HOR := Lib.hid (orerr_walk w4.heap.size ka kb 34 (w4.alloc (.cells #[.int .i64 ka, .int .i64 kb] 34)) (Blk.new _ _ _) v HV.out)
  have hz5 := B5.out.size
  clear hb5 B2 X2 I2 HMS IA2 IB2
  go_wp2_with fail
  refine (HOR.out).mono ?_; rintro e w5 ⟨rfl, hw5⟩
  rw [← hw5] at B5 X5 I5 S5 IA5 IB5 hz5
  clear hw5 HOR
  by_cases hv0 : v = 0
  rotate_left
  · have e1 : (v != 0) = true := by simpa using hv0
    have FIN := Lib.hid (show OrdRet zs l ia ib g w (.returned (.tuple #[.int .i64 0, .int .i64 v])) w5 from ⟨B5.out, Or.inl ⟨by rw [← HG3.out]; exact hv0, by rw [← HG3.out]⟩⟩)
    clear hv0
    go_wp2_with fail
    go_ret2
    exact FIN.out
  subst hv0
  have hsa := IA5.out.1
  have hsb := IB5.out.1
  have hla : ∀ x ∈ zs.map (fun k => frP k sa), smallF x := fun x hx => by
    obtain ⟨k, _, rfl⟩ := List.mem_map.1 hx
    exact frP_bd hsa (by rw [HNA.out]; exact hna2) k
  have hlb : ∀ x ∈ zs.map (fun k => frP k sb), smallF x := fun x hx => by
    obtain ⟨k, _, rfl⟩ := List.mem_map.1 hx
    exact frP_bd hsb (by rw [HNB.out]; exact hnb2) k
  obtain ⟨t, ht⟩ : ∃ t, Lib.compareBytes ia.data.toList ib.data.toList = t := ⟨_, rfl⟩
  obtain ⟨rr, hrr⟩ : ∃ rr, ordK frP sa sb t zs = rr := ⟨_, rfl⟩
  have HRR := Lib.hid (show ordK frP (srtI (scB l ia)) (srtI (scB l ib)) (Lib.compareBytes ia.data.toList ib.data.toList) zs = rr by rw [HSA.out, HSB.out, ht, hrr])
  have hcr : (if cmpL (zs.map fun k => frP k sb) (zs.map fun k => frP k sa) ≠ 0 then cmpL (zs.map fun k => frP k sb) (zs.map fun k => frP k sa) else Lib.compareBytes ia.data.toList ib.data.toList) = rr := by
    rw [cmpL_ordK, ht, ← ordK_or, hrr]
  have HCM := Lib.hid (show ∀ (W : World) (A1 A2 : Option Addr) (c1 c2 : Nat) (b1 b2 : Bool), FL W A1 (zs.map fun k => frP k sa) → FL W A2 (zs.map fun k => frP k sb) → Calls Tryz.prog 25 #[.agg #[.string ia, .slice A1 n c1, .bool b1], .agg #[.string ib, .slice A2 n c2, .bool b2]] W fun e w' => e = .returned (.int .i64 rr) ∧ Below W.heap.size W w' from fun W A1 A2 c1 c2 b1 b2 h1 h2 =>
    compare_walk A1 A2 n c1 c2 _ _ ia ib b1 b2 W (by rw [List.length_map]; exact HN.out) (by rw [List.length_map]; exact HN.out) hn2 h1 h2 hla hlb rr hcr)
  have HJA := Lib.hid (show ∀ W, Below w5.heap.size w5 W → Calls Tryz.prog 26 #[.agg #[.slice A n c, .int .i64 f], .string ia, .slice Aa na ca] W fun e w' => ∃ (A' : Option Addr) (c' : Nat) (b' : Bool), e = .returned (.agg #[.string ia, .slice A' n c', .bool b']) ∧ FL w' A' (zs.map fun k => frP k sa) ∧ Below w5.heap.size w5 w' ∧ Below W.heap.size W w' from fun W h =>
    (judge_walk A n c zs f ia Aa na ca sa W HN.out hn2 (I5.out.below h) hf hf2 HNA.out hna2 (IA5.out.below h)).mono fun e w' ⟨A', n', c', b', he, hn', _, hF, hb⟩ => by
      obtain rfl : n = n' := by rw [← HN.out]; exact hn'
      exact ⟨A', c', b', he, hF, h.trans (hb.mono h.size), hb⟩)
  have HJB := Lib.hid (show ∀ W, Below w5.heap.size w5 W → Calls Tryz.prog 26 #[.agg #[.slice A n c, .int .i64 f], .string ib, .slice Ab nb cb] W fun e w' => ∃ (A' : Option Addr) (c' : Nat) (b' : Bool), e = .returned (.agg #[.string ib, .slice A' n c', .bool b']) ∧ FL w' A' (zs.map fun k => frP k sb) ∧ Below w5.heap.size w5 w' ∧ Below W.heap.size W w' from fun W h =>
    (judge_walk A n c zs f ib Ab nb cb sb W HN.out hn2 (I5.out.below h) hf hf2 HNB.out hnb2 (IB5.out.below h)).mono fun e w' ⟨A', n', c', b', he, hn', _, hF, hb⟩ => by
      obtain rfl : n = n' := by rw [← HN.out]; exact hn'
      exact ⟨A', c', b', he, hF, h.trans (hb.mono h.size), hb⟩)
  obtain ⟨C, hC⟩ : ∃ C, w5.heap.size = C := ⟨_, rfl⟩
  rw [hC] at HJA HJB
  have HCL := Lib.hid (show ∀ v, Below C w5 v → v.cell? ⟨w.heap.size, 0, none⟩ = some (.slice A n c) ∧ v.cell? ⟨w.heap.size, 1, none⟩ = some (.int .i64 f) ∧ (Instr.lookup 56 (.map (some M)) (.string ia) false).run Tryz.prog v = .ok (.slice Aa na ca) v ∧ (Instr.lookup 56 (.map (some M)) (.string ib) false).run Tryz.prog v = .ok (.slice Ab nb cb) v from fun v h => by
    rw [← hC] at h
    have hx := X5.out.below h X5.out.lt
    exact ⟨hx.cell 0 _ rfl, hx.cell 1 _ rfl, by rw [ms_look (S5.out.below h) ha, HVA.out], by rw [ms_look (S5.out.below h) hb, HVB.out]⟩)
  have HB0 := Lib.hid (show Below C w5 w5 from Below.refl _ _)
  have HSZ := Lib.hid (show C ≤ w5.heap.size from Nat.le_of_eq hC.symm)
  have hCw : w.heap.size ≤ C := by rw [← hC]; exact hz5
  clear hsa hsb hla hlb ht hrr hcr hC hz5
  go_upto_region 10 with fail
  go_region_held3 (fun v => v.cell? ⟨w.heap.size, 0, none⟩ = some (.slice A n c) ∧ v.cell? ⟨w.heap.size, 1, none⟩ = some (.int .i64 f) ∧ (Instr.lookup 56 (.map (some M)) (.string ia) false).run Tryz.prog v = .ok (.slice Aa na ca) v ∧ (Instr.lookup 56 (.map (some M)) (.string ib) false).run Tryz.prog v = .ok (.slice Ab nb cb) v ∧ Below C w5 v ∧ C ≤ v.heap.size)
    (first
      | (go_split_ands; have hv := Below.trans (by assumption) (hb.mono (by assumption)); obtain ⟨k0, k1, k2, k3⟩ := HCL.out _ hv; exact ⟨k0, k1, k2, k3, hv, Nat.le_trans (by assumption) hb.size⟩)
      | (obtain ⟨k0, k1, k2, k3⟩ := HCL.out _ HB0.out.drew; exact ⟨k0, k1, k2, k3, HB0.out.drew, by have := HSZ.out; simpa using this⟩))
    (first
      | (go_at_call 25; (with_reducible refine (HCM.out _ _ _ _ _ _ _ HF8.out HF7.out).mono ?_); rintro e wv ⟨rfl, hb⟩)
      | (go_at_call 26; go_split_ands; (with_reducible refine (HJA.out _ ?_).mono ?_); (first | assumption | skip); rintro e wy ⟨A6, c6, b6, rfl, hF6, _, hb⟩; have HF6 := Lib.hid hF6; clear hF6)
      | (go_at_call 26; go_split_ands; (with_reducible refine (HJB.out _ ?_).mono ?_); (first | assumption | skip); rintro e wz ⟨A7, c7, b7, rfl, hF7, hb7, hb⟩; have HB7 := Lib.hid hb7; have HF7 := Lib.hid hF7; have HF8 := Lib.hid (HF6.out.below hb); clear hF7 hb7))
  all_goals
    have FIN := Lib.hid (show OrdRet zs l ia ib g w (.returned (.tuple #[.int .i64 rr, .int .i64 0])) wv from ⟨B5.out.trans ((HB7.out.trans (hb.mono (Nat.le_trans HSZ.out HB7.out.size))).mono hCw), Or.inr ⟨HG3.out.symm, by rw [HRR.out]⟩⟩)
    go_wp2_with fail
    go_ret2
    exact FIN.out
end Go.Proofs.YtmihbfmlnfhgcadGreatDoor.Cal
