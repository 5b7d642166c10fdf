/-
  WHAT THE PROGRAM KNOWS (package topic): the walk of knowledge.
-/
import Derived.Test.YtnjigaklkalebaaDoorKnow
namespace Go.Proofs.YtnjigaklkalebaaDoor.For
open Go.ChangeShapes Go.WideShapes Go.ChangeAt Go.RowKit Stm Key
set_option linter.unusedVariables false

theorem below_drewN {C : Nat} {w w' : World} (h : Below C w w') (m : Nat) : Below C w (w'.drewN m) := Stm.Below.drewN h m
theorem blk_drewN {w : World} {B : Nat} {t : TypeId} {cs : Array Value} (h : Blk w B t cs) (m : Nat) : Blk (w.drewN m) B t cs := h.below (Stm.Below.drewN (Below.refl (B + 1) w) m) (by omega)

set_option maxRecDepth 100000 in
set_option maxHeartbeats 8000000 in
theorem knowledge_walk (F n cap : Nat) (A : Option Addr) (l : List Tp) (A2 : Option Addr) (n2 c2 : Nat) (s : List Sk) (w : World) (hn : l.length = n) (hn2 : n ≤ 1000) (hF : FM w F A n cap l) (hR : RightF l) (hs : KL w A2 s) (hk : s.length = n2) (h100 : n2 ≤ 100) (hok : ∀ x ∈ s, (lk l x.t).isSome = true ∧ 1 ≤ x.n ∧ x.n ≤ 100) :
    Calls Tryd.prog 23 #[.pointer (some ⟨F, 0, none⟩), .slice A2 n2 c2] w (KnRet n (knS l s) w) := by
  have HF := Lib.hid hF
  have HR := Lib.hid hR
  have HS := Lib.hid hs
  have HL := Lib.hid hk
  have HN := Lib.hid hn
  have HOK := Lib.hid hok
  have hFlt := hF.lt
  obtain ⟨M, gp, D, cd, k1, k2, k3, k4⟩ := hF
  have x0 : w.cell? ⟨F, 0, none⟩ = some (.slice A n cap) := k1.cell 0 _ rfl
  have X1 := Lib.hid (show w.cell? ⟨F, 1, none⟩ = some (.map (some M)) from k1.cell 1 _ rfl)
  have HM := Lib.hid k2
  obtain ⟨cs0, hcs0, hz0, hmk⟩ := make_knowns n hn2
  have HCS0 := Lib.hid hcs0
  have HZ0 := Lib.hid (show ∀ j, j < n → KC cs0 j (knS l (s.take 0) j) from hz0)
  clear k1 k2 k3 k4 hs hk hn hok hR hcs0 hz0
  go_enter Tryd.func23, Tryd.ntmps23
  go_wp2_with fail
  clear hmk x0
  go_loopw [19] (fun i wr => ∃ (k : Nat) (cs : Array Value), k ≤ n2 ∧ i = .int .i64 k ∧ Hid (cs.size = n * 2) ∧ Hid (Blk wr w.heap.size 62 cs) ∧ Hid (∀ j, j < n → KC cs j (knS l (s.take k) j)) ∧ Hid (Below w.heap.size w wr)) (fun i _ => n2 - (intOf i).toNat)
  case atStart => exact ⟨0, cs0, Nat.zero_le _, rfl, HCS0, Lib.hid (Blk.new w _ _), HZ0, Lib.hid ((Below.refl _ _).alloc (Nat.le_refl _) _)⟩
  case round =>
    obtain ⟨k, cs, hk, rfl, HCS, HK, HC, HB⟩ := hrel
    rename World => wo
    clear HCS0 HZ0
    have hz := HB.out.size
    have hwo : w.heap.size < wo.heap.size := HK.out.lt
    by_cases hlt : k < n2
    · have hkl : k < s.length := by rw [HL.out]; exact hlt
      obtain ⟨g2, hA2, hgl, hc⟩ := (HS.out.below HB.out).2 (by omega)
      subst hA2
      have c0 := (hc k hkl).1
      have c1 := (hc k hkl).2
      have hx := HS.out.1 _ (List.getElem_mem hkl)
      have hxo := HOK.out _ (List.getElem_mem hkl)
      have HST := Lib.hid (fun j => knS_take (l := l) hkl j)
      generalize s[k] = x at *
      obtain ⟨wt, hwt⟩ : ∃ wt : Nat, x.n = wt := ⟨x.n.toNat, by omega⟩
      rw [hwt] at c1
      have hq := num_lt hxo.1
      have HPB := Lib.hid (fun (j : Nat) (hj : j < l.length) => part_bd HR.out hxo hj)
      have HWT := Lib.hid (show x.n.toNat = wt by omega)
      have hw1 : wt ≤ 100 := by omega
      have hlk := lkI_num l x.t
      have hqn : num l x.t < n := by have := HN.out; omega
      have B1 := Lib.hid (HB.out.alloc hz (.cells #[.string x.t, .int .i64 wt] 36))
      have HLK : Hid (∀ m, (Instr.lookup 66 (.map (some M)) (.string x.t) false).run Tryd.prog ((wo.alloc (.cells #[.string x.t, .int .i64 wt] 36)).drewN m) = .ok (.int .i64 (num l x.t : Int)) ((wo.alloc (.cells #[.string x.t, .int .i64 wt] 36)).drewN m)) := Lib.hid fun m => look_run M l x.t _ (HM.out.below (below_drewN B1.out m)) hx.1 _ hlk
      have K1 := Lib.hid (HK.out.alloc (.cells #[.string x.t, .int .i64 wt] 36))
      have S1 := Lib.hid (Blk.new wo 36 #[.string x.t, .int .i64 wt])
      have x1 := (HB.out.cell (p := ⟨F, 1, none⟩) hFlt).trans X1.out
      have hFw : F < wo.heap.size := by omega
      have a0 : (0 : Int) ≤ (k : Int) := by omega
      have a1 : (k : Int) < (n2 : Int) := by omega
      have HXT := Lib.hid hx
      clear hc hlk hx hxo hq
      go_wp2_with fail
      have hlk := HLK.out
      go_quiet (fail)
      clear hlk x1 c0 c1 HLK
      have K2 := Lib.hid (blk_drewN K1.out nq)
      have S2 := Lib.hid (blk_drewN S1.out nq)
      have B2 := Lib.hid (below_drewN B1.out nq)
      have HC2 := Lib.hid (show ∀ p, p < n → KC cs p (if p < 0 then knS l (s.take (k + 1)) p else knS l (s.take k) p) from fun p hp => by rw [if_neg (by omega)]; exact HC.out p hp)
      clear K1 S1 B1 HC HK
      go_wp2_with fail
      go_loopw [32] (fun i2 wr => ∃ (j : Nat) (cs : Array Value), j ≤ n ∧ i2 = .int .i64 j ∧ Hid (cs.size = n * 2) ∧ Hid (Blk wr w.heap.size 62 cs) ∧ Hid (Blk wr wo.heap.size 36 #[.string x.t, .int .i64 wt]) ∧ Hid (∀ p, p < n → KC cs p (if p < j then knS l (s.take (k + 1)) p else knS l (s.take k) p)) ∧ Hid (Below w.heap.size w wr)) (fun i2 _ => n - (intOf i2).toNat)
      case atStart => exact ⟨0, cs, Nat.zero_le _, rfl, HCS, K2, S2, HC2, B2⟩
      case round =>
        obtain ⟨j, cs, hj, rfl, HCS, HK, HSK, HC, HB⟩ := hrel
        clear K2 S2 HC2 B2
        have hzq := HB.out.size
        by_cases hjn : j < n
        · have hjl : j < l.length := by rw [HN.out]; exact hjn
          have hnb := nI_bd HR.out (show num l x.t < l.length by rw [HN.out]; exact hqn) hjl
          have hpb := HPB.out j hjl
          have hstep := HST.out j
          unfold stepK at hstep
          rw [HWT.out] at hpb hstep
          have HNR := Lib.hid hnb.1
          have hv2 := hnb.2
          have hcur := HC.out j hjn
          rw [if_neg (Nat.lt_irrefl _)] at hcur
          clear hnb
          generalize num l x.t = q at *
          generalize nI l q j = v at *
          obtain ⟨p, hp⟩ : ∃ p, wt * v = p := ⟨_, rfl⟩
          rw [hp] at hpb hstep
          have HP := Lib.hid hp
          have hw : (wt : Int) * (v : Int) = (p : Int) := by rw [← hp]; push_cast; rfl
          have HNW : Hid (∀ m, Calls Tryd.prog 37 #[.pointer (some ⟨F, 0, none⟩), .int .i64 (q : Int), .int .i64 (j : Int)] (wr.drewN m) fun e w' => e = .returned (.int .i64 (v : Int)) ∧ ∃ m', w' = (wr.drewN m).drewN m') := Lib.hid fun m => near_walk F n cap A l q j _ HN.out hn2 (HF.out.below (below_drewN HB.out m)) HR.out.nl HR.out.deep hqn hjn _ HNR
          have HW := Lib.hid (show IntKind.i64.wrap ((wt : Int) * (v : Int)) = (p : Int) by rw [hw]; exact IntWalk.i64_in _ (by omega))
          have s0 := HSK.out.cell 0 _ rfl
          have s1 := HSK.out.cell 1 _ rfl
          have e0 := HK.out.cell _ _ hcur.1
          have e1 := HK.out.cell _ _ hcur.2
          have f0 := HK.out.frozen (j * 2)
          have f1 := HK.out.frozen (j * 2 + 1)
          have j0 : (0 : Int) ≤ (j : Int) := by omega
          have j1 : (j : Int) < (n : Int) := by omega
          have hsz1 : j * 2 < cs.size := by rw [HCS.out]; omega
          have hsz2 : j * 2 + 1 < cs.size := by rw [HCS.out]; omega
          have hgl1 := HK.out.lt
          have hgl2 := HSK.out.lt
          obtain ⟨cur, hcu⟩ : ∃ cur, knS l (s.take k) j = cur := ⟨_, rfl⟩
          have HCUR := Lib.hid hcu
          rw [hcu] at e0 e1 hstep
          have HSTEP := Lib.hid hstep
          clear hp hw hcur hstep hcu
          go_wp2_with fail
          have hw2 := HW.out
          go_quiet (exact Calls.quiet_of (HNW.out _))
          clear hw2
          by_cases hgt : cur.1 < p
          · have hd : decide (cur.1 < p) = true := by simpa using hgt
            have K3 := Lib.hid (((blk_drewN HK.out nq).set_ (j * 2) (.int .i64 (p : Nat))).set_ (j * 2 + 1) (.string x.t))
            have S3 := Lib.hid (((blk_drewN HSK.out nq).far (p := ⟨w.heap.size, j * 2, none⟩) (by simp; omega) (.int .i64 (p : Nat))).far (p := ⟨w.heap.size, j * 2 + 1, none⟩) (by simp; omega) (.string x.t))
            have B3 := Lib.hid (((below_drewN HB.out nq).setCell (p := ⟨w.heap.size, j * 2, none⟩) (Nat.le_refl _) (.int .i64 (p : Nat))).setCell (p := ⟨w.heap.size, j * 2 + 1, none⟩) (Nat.le_refl _) (.string x.t))
            have HC3 := Lib.hid (show ∀ p', p' < n → KC ((cs.setIfInBounds (j * 2) (.int .i64 (p : Nat))).setIfInBounds (j * 2 + 1) (.string x.t)) p' (if p' < j + 1 then knS l (s.take (k + 1)) p' else knS l (s.take k) p') from fun p' hp' => by
              by_cases hpj : p' = j
              · subst hpj
                rw [if_pos (by omega), HSTEP.out, if_pos hgt]
                exact KC.eq (p, x.t) HCS.out hp'
              · have h := HC.out p' hp'
                by_cases hlj : p' < j
                · rw [if_pos hlj] at h; rw [if_pos (by omega)]; exact h.ne hpj
                · rw [if_neg hlj] at h; rw [if_neg (by omega)]; exact h.ne hpj)
            go_wp2_with fail
            go_roundw
            case rel => exact ⟨j + 1, _, by omega, by go_num, Lib.hid (by simp [HCS.out]), K3, S3, HC3, B3⟩
            case measure => simp [intOf]; omega
          · have hd : decide (cur.1 < p) = false := by simpa using hgt
            have HC3 := Lib.hid (show ∀ p', p' < n → KC cs p' (if p' < j + 1 then knS l (s.take (k + 1)) p' else knS l (s.take k) p') from fun p' hp' => by
              have h := HC.out p' hp'
              by_cases hpj : p' = j
              · subst hpj
                rw [if_neg (Nat.lt_irrefl _)] at h
                rw [if_pos (by omega), HSTEP.out, if_neg hgt, ← HCUR.out]
                exact h
              · by_cases hlj : p' < j
                · rw [if_pos hlj] at h; rw [if_pos (by omega)]; exact h
                · rw [if_neg hlj] at h; rw [if_neg (by omega)]; exact h)
            go_wp2_with fail
            go_roundw
            case rel => exact ⟨j + 1, cs, by omega, by go_num, HCS, Lib.hid (blk_drewN HK.out nq), Lib.hid (blk_drewN HSK.out nq), HC3, Lib.hid (below_drewN HB.out nq)⟩
            case measure => simp [intOf]; omega
        · have hjn2 : j = n := by omega
          subst hjn2
          have FIN := Lib.hid (show ∀ p, p < j → KC cs p (knS l (s.take (k + 1)) p) from fun p hp => by have := HC.out p hp; rwa [if_pos hp] at this)
          go_wp2_with fail
          go_roundw
          case rel => exact ⟨k + 1, cs, by omega, by go_num, HCS, HK, FIN, HB⟩
          case measure => simp [intOf]; omega
    · have hkn : k = n2 := by omega
      subst hkn
      have FIN := Lib.hid (show KNs wo w.heap.size n (knS l s) from blk_kns HK.out (fun j hj => by have := HC.out j hj; rwa [List.take_of_length_le (by rw [HL.out]; exact Nat.le_refl _)] at this))
      go_wp2_with fail
      go_ret
      exact ⟨_, rfl, FIN.out, HB.out⟩
end Go.Proofs.YtnjigaklkalebaaDoor.For
