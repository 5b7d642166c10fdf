/-
  MARKS: the reference's KappaOf.
-/
import Derived.Test.YthhiefpickpiaaaGreatDoorKapK
import Derived.Test.YthhiefpickpiaaaGreatDoorCalP
import Derived.Test.YthhiefpickpiaaaGreatDoorCalO
namespace Go.Proofs.YthhiefpickpiaaaGreatDoor.Cal
open Go.ChangeShapes Go.WideShapes Go.ChangeAt Go.RowKit Stm Key
open Go.Maps (Keyed string_keyed)
set_option linter.unusedVariables false

theorem tot_snoc (t : List ByteArray) (s : ByteArray) (f g : ByteArray → Option Int) (F : Int → Int → Int) : tot (t ++ [s]) f g F (fun _ => true) = tot t f g F (fun _ => true) + term f g F s := by
  unfold tot
  rw [List.map_append, List.sum_append]
  simp [term]
theorem sl_ne_row {w : World} {A : Option Addr} {ss : List ByteArray} {b g : Nat} {t : TypeId} {f : Nat → Int} (hS : SL w A ss) (h0 : 0 < ss.length) (hR : w.rowIs b t 11 (fun k => .int .i64 (f k))) (hA : A = some ⟨g, 0, none⟩) : g ≠ b := by
  intro e
  subst e
  obtain ⟨b2, hb, _, hc⟩ := hS.2 h0
  obtain rfl : b2 = g := by rw [hA] at hb; exact (congrArg Addr.block (Option.some.inj hb)).symm
  have h1 := hc 0 h0
  rw [hR.cell (i := 0) (by omega)] at h1
  cases h1
/-- What KappaOf hands back. -/
def KofRet (l : List Mk) (a b : ByteArray) (w : World) (e : Ending) (w' : World) : Prop := e = .returned (.tuple #[.agg #[.int .i64 (kap l a b).1.1, .int .i64 (kap l a b).1.2], .int .i64 (kap l a b).2]) ∧ Below w.heap.size w w'
set_option maxRecDepth 100000 in
set_option maxHeartbeats 8000000 in
theorem kappaof_walk (A : Option Addr) (n cap : Nat) (l : List Mk) (sa sb : ByteArray) (w : World) (hn : l.length = n) (hn2 : n ≤ 256) (hM : ML w A l) (hs : ∀ x ∈ l, 0 ≤ x.s ∧ x.s ≤ 10) :
    Calls Tryz.prog 10 #[.slice A n cap, .string sa, .string sb] w (KofRet l sa sb w) := by
  have HN := Lib.hid hn
  have HM := Lib.hid hM
  have HSC := Lib.hid hs
  have HRP := Lib.hid (show ∀ W, ML W A l → Calls Tryz.prog 24 #[.slice A n cap] W (SRet (papersL l) W) from fun W h => ref_p A n cap l W hn (by omega) h)
  have HSO := Lib.hid (fun (p h : ByteArray) W (hW : ML W A l) => scoreof_walk A n cap l p h W hn (by omega) hW)
  have FIN : Hid (∀ (W : World) (a b : Int), Below w.heap.size w W → Below w.heap.size w ((W.setCell ⟨w.heap.size, 0, none⟩ (.int .i64 a)).setCell ⟨w.heap.size, 1, none⟩ (.int .i64 b))) := Lib.hid (fun W a b h => (h.setCell (p := ⟨w.heap.size, 0, none⟩) (Nat.le_refl _) _).setCell (p := ⟨w.heap.size, 1, none⟩) (Nat.le_refl _) _)
  have B0 := Lib.hid (show Below w.heap.size w (w.alloc (.cells #[.int .i64 0, .int .i64 0] 30)) from (Below.refl _ _).alloc (Nat.le_refl _) _)
  have R0 := Lib.hid (Blk.new w 30 #[.int .i64 0, .int .i64 0])
  clear hn hM hs
  go_enter Tryz.func10, Tryz.ntmps10
  obtain ⟨bq, hbq⟩ : ∃ b, eqB sa sb = b := ⟨_, rfl⟩
  cases bq
  rotate_left
  · obtain rfl := (eqB_iff _ _).1 hbq
    have HK := Lib.hid (show kap l sa sa = ((0, 0), 6) by unfold kap; rw [if_pos (eqB_self _)])
    clear hbq
    go_wp2_with fail
    exact bodyPost_ret (v := .tuple #[.agg #[.int .i64 0, .int .i64 0], .int .i64 6]) (by simp only [results, Tryz.results10]; go_simp) rfl ⟨by rw [HK.out], by repeat' (first | (with_reducible exact Below.refl _ _) | (with_reducible refine Below.setCell ?_ ?_ _) | (with_reducible refine Below.alloc ?_ ?_ _) | go_size)⟩
  · have e1 : (sa.toList == sb.toList) = false := hbq
    have e2 : ¬ sa.toList = sb.toList := by simpa using e1
    have e3 : ¬ sb.toList = sa.toList := fun e => e2 e.symm
    have HKE := Lib.hid (show kap l sa sb = if kapN l sa sb = 0 then ((0, 0), 8) else if kapN l sa sb * kapN l sa sb = kapE l sa sb then ((1, 1), 0) else (lowZ (kapN l sa sb * kapT l sa sb eqv_ - kapE l sa sb) (kapN l sa sb * kapN l sa sb - kapE l sa sb), 0) by unfold kap; rw [hbq]; simp)
    clear hbq
    go_upto_region 4 with fail
    clear e1 e2 e3
    have hsz0 : (w.alloc (.cells #[.int .i64 0, .int .i64 0] 30)).heap.size = w.heap.size + 1 := by simp
    have HZ0 := Lib.hid hsz0
    clear hsz0
    generalize (w.alloc (.cells #[.int .i64 0, .int .i64 0] 30)) = wf at *
    have GA0 := Lib.hid (show World.rowIs ((wf.alloc (.cells #[.int .i64 0, .int .i64 0, .int .i64 0, .int .i64 0, .int .i64 0, .int .i64 0, .int .i64 0, .int .i64 0, .int .i64 0, .int .i64 0, .int .i64 0] 54)).alloc (.cells #[.int .i64 0, .int .i64 0, .int .i64 0, .int .i64 0, .int .i64 0, .int .i64 0, .int .i64 0, .int .i64 0, .int .i64 0, .int .i64 0, .int .i64 0] 54)) (w.heap.size + 1) 54 11 (fun _ => .int .i64 0) from (by
      have := (zero11 wf).alloc (.cells #[.int .i64 0, .int .i64 0, .int .i64 0, .int .i64 0, .int .i64 0, .int .i64 0, .int .i64 0, .int .i64 0, .int .i64 0, .int .i64 0, .int .i64 0] 54)
      rw [HZ0.out] at this; exact this))
    have GB0 := Lib.hid (show World.rowIs ((wf.alloc (.cells #[.int .i64 0, .int .i64 0, .int .i64 0, .int .i64 0, .int .i64 0, .int .i64 0, .int .i64 0, .int .i64 0, .int .i64 0, .int .i64 0, .int .i64 0] 54)).alloc (.cells #[.int .i64 0, .int .i64 0, .int .i64 0, .int .i64 0, .int .i64 0, .int .i64 0, .int .i64 0, .int .i64 0, .int .i64 0, .int .i64 0, .int .i64 0] 54)) (w.heap.size + 1 + 1) 54 11 (fun _ => .int .i64 0) from (by
      have := zero11 (wf.alloc (.cells #[.int .i64 0, .int .i64 0, .int .i64 0, .int .i64 0, .int .i64 0, .int .i64 0, .int .i64 0, .int .i64 0, .int .i64 0, .int .i64 0, .int .i64 0] 54))
      have e : (wf.alloc (.cells #[.int .i64 0, .int .i64 0, .int .i64 0, .int .i64 0, .int .i64 0, .int .i64 0, .int .i64 0, .int .i64 0, .int .i64 0, .int .i64 0, .int .i64 0] 54)).heap.size = w.heap.size + 1 + 1 := by simp [HZ0.out]
      rw [e] at this; exact this))
    have BX := Lib.hid ((B0.out.alloc B0.out.size (.cells #[.int .i64 0, .int .i64 0, .int .i64 0, .int .i64 0, .int .i64 0, .int .i64 0, .int .i64 0, .int .i64 0, .int .i64 0, .int .i64 0, .int .i64 0] 54)).alloc (by have := B0.out.size; simp; omega) (.cells #[.int .i64 0, .int .i64 0, .int .i64 0, .int .i64 0, .int .i64 0, .int .i64 0, .int .i64 0, .int .i64 0, .int .i64 0, .int .i64 0, .int .i64 0] 54))
    have RX := Lib.hid ((R0.out.alloc (.cells #[.int .i64 0, .int .i64 0, .int .i64 0, .int .i64 0, .int .i64 0, .int .i64 0, .int .i64 0, .int .i64 0, .int .i64 0, .int .i64 0, .int .i64 0] 54)).alloc (.cells #[.int .i64 0, .int .i64 0, .int .i64 0, .int .i64 0, .int .i64 0, .int .i64 0, .int .i64 0, .int .i64 0, .int .i64 0, .int .i64 0, .int .i64 0] 54))
    generalize ((wf.alloc (.cells #[.int .i64 0, .int .i64 0, .int .i64 0, .int .i64 0, .int .i64 0, .int .i64 0, .int .i64 0, .int .i64 0, .int .i64 0, .int .i64 0, .int .i64 0] 54)).alloc (.cells #[.int .i64 0, .int .i64 0, .int .i64 0, .int .i64 0, .int .i64 0, .int .i64 0, .int .i64 0, .int .i64 0, .int .i64 0, .int .i64 0, .int .i64 0] 54)) = w1 at *
    clear B0 R0 HZ0
    go_wp2_with fail
    refine (HRP.out _ (HM.out.below BX.out)).mono ?_; rintro e w2 ⟨A1, c1, rfl, hs1, hb1⟩
    have B2 := Lib.hid (BX.out.trans (hb1.mono BX.out.size))
    have R2 := Lib.hid (RX.out.below hb1 RX.out.lt)
    have GA2 := Lib.hid (GA0.out.of_block (hb1.block _ GA0.out.lt))
    have GB2 := Lib.hid (GB0.out.of_block (hb1.block _ GB0.out.lt))
    have S2 := Lib.hid hs1
    have hlB := GB2.out.lt
    have NEA := Lib.hid (show ∀ g, A1 = some ⟨g, 0, none⟩ → 0 < (papersL l).length → g ≠ w.heap.size + 1 from fun g hA h0 => sl_ne_row (f := fun _ => 0) S2.out h0 GA2.out hA)
    have NEB := Lib.hid (show ∀ g, A1 = some ⟨g, 0, none⟩ → 0 < (papersL l).length → g ≠ w.heap.size + 1 + 1 from fun g hA h0 => sl_ne_row (f := fun _ => 0) S2.out h0 GB2.out hA)
    clear hs1 hb1 BX RX GA0 GB0
    obtain ⟨ks, hks⟩ : ∃ ks, papersL l = ks := ⟨_, rfl⟩
    have HKT := Lib.hid (show ∀ F, kapT l sa sb F = tot ks (fun p => gv l p sa) (fun p => gv l p sb) F fun _ => true from fun F => by unfold kapT; rw [hks])
    have hnp : ks.length ≤ 256 := hks ▸ Nat.le_trans (dedB_length _) (by rw [List.length_map, HN.out]; exact hn2)
    rw [hks] at S2 NEA NEB
    rw [hks]
    clear hks
    obtain ⟨np, he⟩ : ∃ np, ks.length = np := ⟨_, rfl⟩
    rw [he] at hnp ⊢
    have HNP := Lib.hid he; clear he
    obtain ⟨f, hf⟩ : ∃ f : ByteArray → Option Int, (fun p => gv l p sa) = f := ⟨_, rfl⟩
    obtain ⟨g, hg⟩ : ∃ f : ByteArray → Option Int, (fun p => gv l p sb) = f := ⟨_, rfl⟩
    rw [hf, hg] at HKT
    have HF := Lib.hid (show ∀ s, gv l s sa = f s from fun s => by rw [← hf])
    have HG := Lib.hid (show ∀ s, gv l s sb = g s from fun s => by rw [← hg])
    clear hf hg
    go_wp2_with fail
    go_loopw [10, 11, 27] (fun a b i wr => ∃ (p : Nat) (N S : Int), p ≤ np ∧ i = .int .i64 p ∧ a = .int .i64 N ∧ b = .int .i64 S ∧ Hid (tot (ks.take p) f g one_ (fun _ => true) = N) ∧ Hid (tot (ks.take p) f g eqv_ (fun _ => true) = S) ∧
      Hid (wr.rowIs (w.heap.size + 1) 54 11 (fun k => .int .i64 (tot (ks.take p) f g (fst_ k) (fun _ => true)))) ∧ Hid (wr.rowIs (w.heap.size + 1 + 1) 54 11 (fun k => .int .i64 (tot (ks.take p) f g (snd_ k) (fun _ => true)))) ∧ Hid (Two (w.heap.size + 1) (w.heap.size + 1 + 1) w2.heap.size w2 wr))
      (fun _ _ i _ => np - (intOf i).toNat)
    case atStart => exact ⟨0, 0, 0, Nat.zero_le _, rfl, rfl, rfl, Lib.hid rfl, Lib.hid rfl, Lib.hid (GA2.out.congr (fun _ _ => rfl)), Lib.hid (GB2.out.congr (fun _ _ => rfl)), Lib.hid (Two.refl _ _ _ _)⟩
    case round =>
      clear GA2 GB2
      obtain ⟨p, N, S, hp, rfl, rfl, rfl, HNN, HSS, HRA, HRB, HT⟩ := hrel
      have hN := tot_bd (ks := ks.take p) (f := f) (g := g) (d := fun _ => true) one_bd
      have hS := tot_bd (ks := ks.take p) (f := f) (g := g) (d := fun _ => true) eqv_bd
      rw [HNN.out] at hN
      rw [HSS.out] at hS
      have htl : (ks.take p).length ≤ 256 := by rw [List.length_take, HNP.out]; omega
      have hN0 : 0 ≤ N := hN.1
      have hN1 : N ≤ 256 := by omega
      have hS0 : 0 ≤ S := hS.1
      have hS1 : S ≤ 256 := by omega
      have hzr := HT.out.size
      have BT := Lib.hid (show Below w.heap.size w wr from B2.out.trans (HT.out.toBelow (by omega) (by omega) B2.out.size))
      clear hN hS
      by_cases hlt : p < np
      · have hpl : p < ks.length := by rw [HNP.out]; exact hlt
        have ST := Lib.hid (HT.out.sl S2.out (fun g hA => by
          obtain ⟨b, hb, hbl, _⟩ := S2.out.2 (by omega)
          have : b = g := by rw [hA] at hb; exact (congrArg Addr.block (Option.some.inj hb)).symm
          exact ⟨by omega, NEA.out g hA (by omega), NEB.out g hA (by omega)⟩))
        obtain ⟨ga, hA1, hga, hca⟩ := ST.out.2 (by omega)
        subst hA1
        have c0 := hca p hpl
        have HTN := Lib.hid (show ∀ F, tot (ks.take (p + 1)) f g F (fun _ => true) = tot (ks.take p) f g F (fun _ => true) + term f g F ks[p] from fun F => by rw [take_next ks p hpl, tot_snoc])
        obtain ⟨kp, he⟩ : ∃ kp, ks[p] = kp := ⟨_, rfl⟩
        rw [he] at c0 HTN
        clear he hca
        have b0 : (0 : Int) ≤ (p : Int) := by omega
        have b1 : (p : Int) < (np : Int) := by omega
        go_wp2_with fail
        refine (HSO.out kp sa _ (HM.out.below BT.out)).mono ?_; rintro e w3 ⟨hb3, hor3⟩
        have BT3 := Lib.hid (BT.out.trans (hb3.mono BT.out.size))
        have T3 := Lib.hid (HT.out.below (hb3.mono hzr))
        have RA3 := Lib.hid (HRA.out.of_block (hb3.block _ HRA.out.lt))
        have RB3 := Lib.hid (HRB.out.of_block (hb3.block _ HRB.out.lt))
        have hz3 := T3.out.size
        clear hb3 HT HRA HRB BT c0 ST
        rcases hor3 with ⟨ho, rfl⟩ | ⟨x, ho, rfl⟩
        · go_wp2_with fail
          refine (HSO.out kp sb _ (HM.out.below BT3.out)).mono ?_; rintro e w4 ⟨hb4, hor4⟩
          have BT4 := Lib.hid (BT3.out.trans (hb4.mono BT3.out.size))
          have T4 := Lib.hid (T3.out.below (hb4.mono hz3))
          have RA4 := Lib.hid (RA3.out.of_block (hb4.block _ RA3.out.lt))
          have RB4 := Lib.hid (RB3.out.of_block (hb4.block _ RB3.out.lt))
          clear hb4 T3 RA3 RB3 BT3
          rcases hor4 with ⟨ho2, rfl⟩ | ⟨y, ho2, rfl⟩
          · have HT0 := Lib.hid (show ∀ F, tot (ks.take (p + 1)) f g F (fun _ => true) = tot (ks.take p) f g F (fun _ => true) from fun F => by
              have h0 : term f g F kp = 0 := by unfold term; rw [← HF.out, ho]
              rw [HTN.out F, h0, Int.add_zero])
            go_wp2_with fail
            go_roundw
            case rel => exact ⟨p + 1, N, S, by omega, by go_num, rfl, rfl, Lib.hid (by rw [HT0.out]; exact HNN.out), Lib.hid (by rw [HT0.out]; exact HSS.out), Lib.hid (RA4.out.congr (fun k _ => by rw [HT0.out])), Lib.hid (RB4.out.congr (fun k _ => by rw [HT0.out])), T4⟩
            case measure => simp [intOf]; omega
          · have HT0 := Lib.hid (show ∀ F, tot (ks.take (p + 1)) f g F (fun _ => true) = tot (ks.take p) f g F (fun _ => true) from fun F => by
              have h0 : term f g F kp = 0 := by unfold term; rw [← HF.out, ho]
              rw [HTN.out F, h0, Int.add_zero])
            go_wp2_with fail
            go_roundw
            case rel => exact ⟨p + 1, N, S, by omega, by go_num, rfl, rfl, Lib.hid (by rw [HT0.out]; exact HNN.out), Lib.hid (by rw [HT0.out]; exact HSS.out), Lib.hid (RA4.out.congr (fun k _ => by rw [HT0.out])), Lib.hid (RB4.out.congr (fun k _ => by rw [HT0.out])), T4⟩
            case measure => simp [intOf]; omega
        · go_wp2_with fail
          refine (HSO.out kp sb _ (HM.out.below BT3.out)).mono ?_; rintro e w4 ⟨hb4, hor4⟩
          have BT4 := Lib.hid (BT3.out.trans (hb4.mono BT3.out.size))
          have T4 := Lib.hid (T3.out.below (hb4.mono hz3))
          have RA4 := Lib.hid (RA3.out.of_block (hb4.block _ RA3.out.lt))
          have RB4 := Lib.hid (RB3.out.of_block (hb4.block _ RB3.out.lt))
          clear hb4 T3 RA3 RB3 BT3
          rcases hor4 with ⟨ho2, rfl⟩ | ⟨y, ho2, rfl⟩
          · have HT0 := Lib.hid (show ∀ F, tot (ks.take (p + 1)) f g F (fun _ => true) = tot (ks.take p) f g F (fun _ => true) from fun F => by
              have h0 : term f g F kp = 0 := by unfold term; rw [← HF.out, ho, ← HG.out, ho2]
              rw [HTN.out F, h0, Int.add_zero])
            go_wp2_with fail
            go_roundw
            case rel => exact ⟨p + 1, N, S, by omega, by go_num, rfl, rfl, Lib.hid (by rw [HT0.out]; exact HNN.out), Lib.hid (by rw [HT0.out]; exact HSS.out), Lib.hid (RA4.out.congr (fun k _ => by rw [HT0.out])), Lib.hid (RB4.out.congr (fun k _ => by rw [HT0.out])), T4⟩
            case measure => simp [intOf]; omega
          · obtain ⟨m, hm, _, hms⟩ := gv_mem ho
            have hx := HSC.out m hm
            rw [hms] at hx
            obtain ⟨m2, hm2, _, hms2⟩ := gv_mem ho2
            have hy := HSC.out m2 hm2
            rw [hms2] at hy
            obtain ⟨cn, rfl⟩ : ∃ cn : Nat, x = cn := ⟨x.toNat, by omega⟩
            obtain ⟨yn, rfl⟩ : ∃ yn : Nat, y = yn := ⟨y.toNat, by omega⟩
            have hcn : cn < 11 := by omega
            have hyn : yn < 11 := by omega
            have HT1 := Lib.hid (show ∀ F, tot (ks.take (p + 1)) f g F (fun _ => true) = tot (ks.take p) f g F (fun _ => true) + F cn yn from fun F => by
              have h0 : term f g F kp = F cn yn := by unfold term; rw [← HF.out, ho, ← HG.out, ho2]
              rw [HTN.out F, h0])
            have qa := RA4.out.cell hcn
            have fa := RA4.out.frozen cn
            have la := RA4.out.lt
            have qb := RB4.out.cell hyn
            have fb := RB4.out.frozen yn
            have lb := RB4.out.lt
            have ta := tot_bd (ks := ks.take p) (f := f) (g := g) (d := fun _ => true) (fst_bd cn)
            have tb := tot_bd (ks := ks.take p) (f := f) (g := g) (d := fun _ => true) (snd_bd yn)
            obtain ⟨TA, hTA⟩ : ∃ TA, tot (ks.take p) f g (fst_ cn) (fun _ => true) = TA := ⟨_, rfl⟩
            obtain ⟨TB, hTB⟩ : ∃ TB, tot (ks.take p) f g (snd_ yn) (fun _ => true) = TB := ⟨_, rfl⟩
            rw [hTA] at qa ta
            rw [hTB] at qb tb
            have ta0 := ta.1
            have ta1 : TA ≤ 256 := by omega
            have tb0 := tb.1
            have tb1 : TB ≤ 256 := by omega
            have HTA := Lib.hid hTA
            have HTB := Lib.hid hTB
            have i0 : (0 : Int) ≤ (cn : Int) := by omega
            have i1 : (cn : Int) < 11 := by omega
            have i2 : (0 : Int) ≤ (yn : Int) := by omega
            have i3 : (yn : Int) < 11 := by omega
            have RA5 := Lib.hid (show World.rowIs ((w4.setCell ⟨w.heap.size + 1, cn, none⟩ (.int .i64 (TA + 1))).setCell ⟨w.heap.size + 1 + 1, yn, none⟩ (.int .i64 (TB + 1))) (w.heap.size + 1) 54 11 (fun k => .int .i64 (tot (ks.take (p + 1)) f g (fst_ k) (fun _ => true))) from
              ((RA4.out.set cn _).setOther (by show w.heap.size + 1 ≠ w.heap.size + 1 + 1; omega) _).congr (fun k hk => by
                rw [HT1.out]
                by_cases h : k = cn
                · subst h; rw [if_pos rfl, HTA.out]; simp [fst_]
                · rw [if_neg h]; unfold fst_; rw [if_neg (by omega), Int.add_zero]))
            have RB5 := Lib.hid (show World.rowIs ((w4.setCell ⟨w.heap.size + 1, cn, none⟩ (.int .i64 (TA + 1))).setCell ⟨w.heap.size + 1 + 1, yn, none⟩ (.int .i64 (TB + 1))) (w.heap.size + 1 + 1) 54 11 (fun k => .int .i64 (tot (ks.take (p + 1)) f g (snd_ k) (fun _ => true))) from
              ((RB4.out.setOther (by show w.heap.size + 1 + 1 ≠ w.heap.size + 1; omega) _).set yn _).congr (fun k hk => by
                rw [HT1.out]
                by_cases h : k = yn
                · subst h; rw [if_pos rfl, HTB.out]; simp [snd_]
                · rw [if_neg h]; unfold snd_; rw [if_neg (by omega), Int.add_zero]))
            have T5 := Lib.hid (show Two (w.heap.size + 1) (w.heap.size + 1 + 1) w2.heap.size w2 ((w4.setCell ⟨w.heap.size + 1, cn, none⟩ (.int .i64 (TA + 1))).setCell ⟨w.heap.size + 1 + 1, yn, none⟩ (.int .i64 (TB + 1))) from
              (T4.out.set (p := ⟨w.heap.size + 1, cn, none⟩) (Or.inl rfl) _).set (p := ⟨w.heap.size + 1 + 1, yn, none⟩) (Or.inr rfl) _)
            clear hm hms hx hm2 hms2 hy ho ho2 RA4 RB4 T4 BT4 ta tb hTA hTB HTN htl
            by_cases hceq : cn = yn
            · subst hceq
              have d1 : ((cn : Int) == (cn : Int)) = true := by simp
              go_wp2_with fail
              go_roundw
              case rel => exact ⟨p + 1, N + 1, S + 1, by omega, by go_num, rfl, rfl, Lib.hid (by rw [HT1.out, HNN.out]; rfl), Lib.hid (by rw [HT1.out, HSS.out]; unfold eqv_; rw [if_pos rfl]), RA5, RB5, T5⟩
              case measure => simp [intOf]; omega
            · have d1 : ((cn : Int) == (yn : Int)) = false := by simp; omega
              have HNE := Lib.hid hceq
              go_wp2_with fail
              go_roundw
              case rel => exact ⟨p + 1, N + 1, S, by omega, by go_num, rfl, rfl, Lib.hid (by rw [HT1.out, HNN.out]; rfl), Lib.hid (by rw [HT1.out, HSS.out]; unfold eqv_; rw [if_neg (by have := HNE.out; omega), Int.add_zero]), RA5, RB5, T5⟩
              case measure => simp [intOf]; omega
      · obtain rfl : np = p := by omega
        have htk : ks.take np = ks := List.take_of_length_le (by rw [HNP.out]; exact Nat.le_refl _)
        rw [htk] at HNN HSS
        simp only [htk] at HRA HRB
        obtain ⟨GA, hGA⟩ : ∃ GA : Nat → Int, (fun k => kapT l sa sb (fst_ k)) = GA := ⟨_, rfl⟩
        obtain ⟨GB, hGB⟩ : ∃ GB : Nat → Int, (fun k => kapT l sa sb (snd_ k)) = GB := ⟨_, rfl⟩
        have RA1 := Lib.hid (HRA.out.congr (g := fun k => .int .i64 (GA k)) (fun k _ => by rw [← hGA]; exact congrArg (Value.int .i64) (HKT.out (fst_ k)).symm))
        have RB1 := Lib.hid (HRB.out.congr (g := fun k => .int .i64 (GB k)) (fun k _ => by rw [← hGB]; exact congrArg (Value.int .i64) (HKT.out (snd_ k)).symm))
        have hNk : kapN l sa sb = N := (HKT.out one_).trans HNN.out
        have hSk : kapT l sa sb eqv_ = S := (HKT.out eqv_).trans HSS.out
        have hE := kapE_le HSC.out sa sb
        have HEU := Lib.hid (show kapE l sa sb = upto (fun k => GA k * GB k) 11 by rw [← hGA, ← hGB]; rfl)
        have HGAB := Lib.hid (show ∀ k, 0 ≤ GA k ∧ GA k ≤ N from fun k => by
          rw [← hGA, ← hNk]
          exact ⟨(tot_bd (fun x y => fst_bd k x y)).1, tot_le (fun x y => (fst_bd k x y).2)⟩)
        have HGBB := Lib.hid (show ∀ k, 0 ≤ GB k ∧ GB k ≤ N from fun k => by
          rw [← hGB, ← hNk]
          exact ⟨(tot_bd (fun x y => snd_bd k x y)).1, tot_le (fun x y => (snd_bd k x y).2)⟩)
        have HK2 := HKE.out
        rw [hNk, hSk] at HK2
        rw [hNk] at hE
        obtain ⟨E, hEe⟩ : ∃ E, kapE l sa sb = E := ⟨_, rfl⟩
        rw [hEe] at HK2 hE HEU
        have HK := Lib.hid HK2
        obtain ⟨hE0, hE1⟩ := hE
        have RF := Lib.hid (HT.out.blk R2.out (by have := R2.out.lt; omega) (by omega) (by omega))
        obtain ⟨f0, f1, q0, q1⟩ := blk_fracK RF.out
        clear htk htl hGA hGB HRA HRB HNN HSS hNk hSk HK2 hEe HT
        by_cases hN00 : N = 0
        · subst hN00
          have HKK := Lib.hid (show kap l sa sb = ((0, 0), 8) by rw [HK.out, if_pos rfl])
          clear HK
          go_wp2_with fail
          exact bodyPost_ret (v := .tuple #[.agg #[.int .i64 0, .int .i64 0], .int .i64 8]) (by simp only [results, Tryz.results10]; go_simp) rfl ⟨by rw [HKK.out], FIN.out _ _ _ BT.out⟩
        · have eN : (N == 0) = false := by simpa using hN00
          have HN0 := Lib.hid hN00
          have hla := RA1.out.lt
          have hlb := RB1.out.lt
          clear hN00
          go_wp2_with fail
          rename World => wx
          go_loopw [12, 70] (fun e i wr => ∃ (k m : Nat) (t : Int), k ≤ 11 ∧ i = .int .i64 k ∧ e = .int .i64 t ∧ Hid (upto (fun j => GA j * GB j) k = t) ∧ 0 ≤ t ∧ t ≤ k * 65536 ∧ Hid (wr = wx.drewN m)) (fun _ i _ => 11 - (intOf i).toNat)
          case atStart => exact ⟨0, 0, 0, by omega, rfl, rfl, Lib.hid rfl, by omega, by omega, Lib.hid rfl⟩
          case round =>
            obtain ⟨k, m, t, hk, rfl, rfl, HTT, ht0, ht1, HW⟩ := hrel
            obtain rfl := HW.out
            by_cases hlt2 : k < 11
            · have qa := RA1.out.cell hlt2
              have qb := RB1.out.cell hlt2
              have hga := HGAB.out k
              have hgb := HGBB.out k
              have HNX := Lib.hid (show upto (fun j => GA j * GB j) (k + 1) = t + GA k * GB k by rw [← HTT.out]; rfl)
              obtain ⟨x, hx⟩ : ∃ x, GA k = x := ⟨_, rfl⟩
              rw [hx] at qa hga HNX
              obtain ⟨y, hy⟩ : ∃ y, GB k = y := ⟨_, rfl⟩
              rw [hy] at qb hgb HNX
              have p0 : 0 ≤ x * y := Int.mul_nonneg hga.1 hgb.1
              have p1 : x * y ≤ 256 * 256 := Int.mul_le_mul (by omega) (by omega) hgb.1 (by omega)
              have p2 : x * y ≤ 65536 := by omega
              have b0 : (0 : Int) ≤ (k : Int) := by omega
              have b1 : (k : Int) < 11 := by omega
              have s1 : IntKind.i64.wrap (x * y) = x * y := IntWalk.i64_in _ (by omega)
              have s2 : IntKind.i64.wrap (t + x * y) = t + x * y := IntWalk.i64_in _ (by omega)
              clear hx hy p1 hga hgb
              go_wp2_with fail
              go_quiet (fail)
              go_wp2_with fail
              go_roundw
              case rel => exact ⟨k + 1, _, t + x * y, by omega, by go_num, rfl, HNX, by omega, by push_cast; omega, Lib.hid (by first | rw [World.drewN_drewN] | rfl)⟩
              case measure => simp [intOf]; omega
            · obtain rfl : k = 11 := by omega
              have HTE := Lib.hid (show t = E by rw [HEU.out, ← HTT.out])
              obtain rfl := HTE.out
              have p0 : 0 ≤ N * N := Int.mul_nonneg hN0 hN0
              have p1 : N * N ≤ 256 * 256 := Int.mul_le_mul hN1 hN1 hN0 (by omega)
              have p2 : 0 ≤ N * S := Int.mul_nonneg hN0 hS0
              have p3 : N * S ≤ 256 * 256 := Int.mul_le_mul hN1 hS1 hS0 (by omega)
              have p4 : N * N ≤ 65536 := by omega
              have p5 : N * S ≤ 65536 := by omega
              have BD := Lib.hid (Stm.Below.drewN BT.out m)
              have RFD := Lib.hid (show Blk (wx.drewN m) w.heap.size 30 #[.int .i64 0, .int .i64 0] from RF.out)
              clear p1 p3
              by_cases hNE : N * N = t
              · have e0 : (N * N == t) = true := by simpa using hNE
                have HKK := Lib.hid (show kap l sa sb = ((1, 1), 0) by rw [HK.out, if_neg HN0.out, if_pos hNE])
                clear HK hNE
                go_wp2_with fail
                exact bodyPost_ret (v := .tuple #[.agg #[.int .i64 1, .int .i64 1], .int .i64 0]) (by simp only [results, Tryz.results10]; go_simp) rfl ⟨by rw [HKK.out], FIN.out _ _ _ BD.out⟩
              · have e0 : (N * N == t) = false := by simpa using hNE
                have HKK := Lib.hid (show kap l sa sb = (lowZ (N * S - t) (N * N - t), 0) by rw [HK.out, if_neg HN0.out, if_neg hNE])
                obtain ⟨d, hd⟩ : ∃ d : Nat, N * N - t = d := ⟨(N * N - t).toNat, by omega⟩
                have HLZ := Lib.hid (fun W => partZ_any (N * S - t) d W (by omega) (by omega) (by omega) (by omega))
                rw [hd] at HKK
                have HDD := Lib.hid hd
                obtain ⟨u, hu⟩ : ∃ u, lowZ (N * S - t) d = u := ⟨_, rfl⟩
                rw [hu] at HKK HLZ
                clear HK hNE hu hd
                go_wp2_with fail
                rw [HDD.out]
                refine (HLZ.out _).mono ?_; rintro e w6 ⟨rfl, hb6⟩
                have BW6 := Lib.hid (BD.out.trans (hb6.mono BD.out.size))
                have RF6 := Lib.hid (RFD.out.below hb6 RFD.out.lt)
                clear f0 f1 q0 q1
                obtain ⟨f0, f1, q0, q1⟩ := blk_fracK RF6.out
                clear hb6
                go_wp2_with fail
                exact bodyPost_ret (v := .tuple #[.agg #[.int .i64 u.1, .int .i64 u.2], .int .i64 0]) (by simp only [results, Tryz.results10]; go_simp) rfl ⟨by rw [HKK.out], FIN.out _ _ _ BW6.out⟩
end Go.Proofs.YthhiefpickpiaaaGreatDoor.Cal
