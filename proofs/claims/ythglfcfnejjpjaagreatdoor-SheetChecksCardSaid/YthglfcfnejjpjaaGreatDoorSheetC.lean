/-
  THE CONTRACT OF (*sheet).check.
-/
import Derived.Test.YthglfcfnejjpjaaGreatDoorSheetA
namespace Go.Proofs.YthglfcfnejjpjaaGreatDoor.Rev
open Go.ChangeShapes Go.WideShapes Go.ChangeAt Go.RowKit Stm Key
set_option linter.unusedVariables false

theorem ansSize (l : List An) (h : 30 < l.length) (qs : List Qs) : ansFault qs l = 2 := by unfold ansFault; rw [if_pos h]
set_option maxRecDepth 100000 in
set_option maxHeartbeats 8000000 in
theorem check_walk (F B : Nat) (A : Option Addr) (n cap : Nat) (qs : List Qs) (A2 : Option Addr) (n2 c2 : Nat) (l : List An) (w : World) (hE : sheetE qs = 0) (hn : qs.length = n) (hq : QL B w A qs) (hF : SM w F A n cap qs) (hl : AL w A2 l) (hn2 : l.length = n2) (h8 : n2 ≤ 1000)
    (hT : Tabs w) (hg : gTop ≤ w.heap.size) (r : Int) (hr : Hid (ansFault qs l = r)) :
    Calls Tryz.prog 22 #[.pointer (some ⟨F, 0, none⟩), .slice A2 n2 c2] w fun e w' => e = .returned (.int .i64 r) ∧ Below w.heap.size w w' := by
  have HE := Lib.hid hE
  have HN := Lib.hid hn
  have HL := Lib.hid hn2
  have HW : Hid (∀ W, Below w.heap.size w W → QL B W A qs ∧ SM W F A n cap qs ∧ AL W A2 l ∧ Tabs W ∧ gTop ≤ W.heap.size) := Lib.hid fun W hW => ⟨hq.below hW, hF.below hW, hl.below hW, hT.below (hW.mono hg), Nat.le_trans hg hW.size⟩
  clear hE hn hn2 hq hF hl hT hg
  by_cases h30 : 30 < n2
  · have HR : Hid ((2 : Int) = r) := Lib.hid ((ansSize l (by rw [HL.out]; exact h30) qs).symm.trans hr.out)
    have hd : decide ((n2 : Int) > 30) = true := decide_eq_true (by omega)
    clear hr
    go_enter Tryz.func22, Tryz.ntmps22
    go_wp2_with fail
    go_ret; exact ⟨Stm.ret_int HR.out, Below.refl _ _⟩
  have HR : Hid (answersE qs (-1) l = r) := Lib.hid (by have := hr.out; unfold ansFault at this; rwa [if_neg (by rw [HL.out]; exact h30)] at this)
  have hd : decide ((n2 : Int) > 30) = false := decide_eq_false (by omega)
  clear hr
  go_enter Tryz.func22, Tryz.ntmps22
  go_wp2_with fail
  go_loopw [5, 16] (fun s i wr => ∃ (k : Nat) (z : Int), k ≤ n2 ∧ i = .int .i64 k ∧ s = .int .i64 z ∧ Hid (answersE qs z (l.drop k) = r) ∧ Hid (Below w.heap.size w wr)) (fun _ i _ => n2 - (intOf i).toNat)
  case atStart => exact ⟨0, -1, Nat.zero_le _, rfl, rfl, HR, Lib.hid (Below.refl _ _)⟩
  case round =>
    obtain ⟨k, z, hk, rfl, rfl, HK, HB⟩ := hrel
    rename World => w1
    have hz1 := HB.out.size
    by_cases hlt : k < n2
    · have hkl : k < l.length := by have := HL.out; omega
      obtain ⟨hok, hcells⟩ := (HW.out _ HB.out).2.2.1
      obtain ⟨b, hA, hbl, hc⟩ := hcells (by omega)
      have hao := hok l[k] (List.getElem_mem hkl)
      obtain ⟨c0, c1, c2', c3⟩ := hc k hkl
      have HK2 := HK.out
      rw [drop_cons' l k hkl] at HK2
      unfold answersE at HK2
      generalize l[k] = a at *
      have ha0 : a.q.size ≤ 1000 := hao.1
      have HAO := Lib.hid hao
      obtain ⟨aq, an, ao, aw⟩ := a
      simp only at c0 c1 c2' c3 ha0 HK2
      have a0 : (0 : Int) ≤ (k : Int) := by omega
      have a1 : (k : Int) < (n2 : Int) := by omega
      subst hA
      have KA := Lib.hid (Blk.new w1 51 #[.string aq, .int .i64 an, .string ao, .string aw])
      have B1 := Lib.hid (HB.out.alloc hz1 (.cells #[.string aq, .int .i64 an, .string ao, .string aw] 51))
      obtain ⟨M, hFB, hNQ⟩ := (HW.out _ B1.out).2.1
      have s0 := hFB.cell 0 _ rfl
      have s1 := hFB.cell 1 _ rfl
      have hFl := hFB.lt
      have lk : ∀ m, (Instr.lookup 73 (.map (some M)) (.string aq) true).run Tryz.prog (World.drewN _ m) = .ok (.tuple #[.int .i64 (lkI qs aq), .bool (lkQ qs aq).isSome]) (World.drewN _ m) := fun m => look_okQ M qs aq _ (hNQ.below (Stm.Below.drewN (Below.refl _ _) m)) ha0
      have HKK := Lib.hid HK2
      have HNQ := Lib.hid hNQ
      clear HK2 hok hcells hc HK hao hFB hNQ
      rcases hp : lkQ qs aq with _ | p
      · have hli : lkI qs aq = 0 := by unfold lkI; rw [hp]
        have HE : Hid ((8 : Int) = r) := Lib.hid (by have := HKK.out; rw [hp] at this; simpa using this)
        rw [hli, hp] at lk
        simp only [Option.isSome_none] at lk
        clear hli hp
        go_wp2_with fail
        go_quiet (fail)
        go_wp2_with fail
        go_ret; exact ⟨Stm.ret_int HE.out, Stm.Below.drewN B1.out _⟩
      · have hli : lkI qs aq = p := by unfold lkI; rw [hp]
        obtain ⟨hpl, hpk⟩ := lkQ_some qs aq p hp
        have hkk := HKK.out
        rw [hp] at hkk
        simp only [List.getD, List.getElem?_eq_getElem hpl, Option.getD_some] at hkk
        replace HKK := Lib.hid hkk
        rw [hli, hp] at lk
        simp only [Option.isSome_some] at lk
        have hpn : p < n := by rw [← HN.out]; exact hpl
        clear hli hp hkk hpk
        go_wp2_with fail
        go_quiet (fail)
        have B2 := Lib.hid (Stm.Below.drewN B1.out nq)
        obtain ⟨hqok, hqc⟩ := (HW.out _ B1.out).1
        obtain ⟨bq, hAq, hbq, _, hcq⟩ := hqc (by omega)
        obtain ⟨q0, q1, q2, ⟨v, q3, hol⟩, q4, q5⟩ := hcq p hpl
        have hqq := hqok _ (List.getElem_mem hpl)
        have hkd := (sheetsE_ok qs [] (sheetE_ok HE.out).1 p hpl).2.2
        generalize qs[p] = q at *
        obtain ⟨Ao, co, hv, hco, hsl, _⟩ := hol
        subst hv
        subst hAq
        have HAW := Lib.hid (fun (W : World) (hW : Below w.heap.size w W) (hs : SL W Ao q.o) => answer_walk q Ao co ⟨aq, an, ao, aw⟩ W hqq hkd hs HAO.out (HW.out W hW).2.2.2.1 (HW.out W hW).2.2.2.2 _ (Lib.hid rfl))
        simp only at HAW
        have HSL := Lib.hid hsl
        obtain ⟨f, hf⟩ : ∃ f, ansE q ⟨aq, an, ao, aw⟩ = f := ⟨_, rfl⟩
        rw [hf] at HKK HAW
        have p0 : (0 : Int) ≤ (p : Int) := by omega
        have p1 : (p : Int) < (n : Int) := by omega
        clear hqok hqc hcq hqq hkd hsl hf lk
        cases hz : decide ((p : Int) ≤ z)
        · have hz' : ¬ (p : Int) ≤ z := of_decide_eq_false hz
          have HK2 : Hid ((if f = 0 then answersE qs p (l.drop (k + 1)) else f) = r) := Lib.hid (by have := HKK.out; rwa [if_neg hz'] at this)
          clear HKK hz'
          go_wp2_with fail
          go_region_law ((first
            | (go_simp; go_at_call 43
               refine (HAW.out _ (by first | exact B2.out.drew | exact Stm.Below.drewN B2.out.drew _ | exact Stm.Below.drewN B2.out _ | exact B2.out) (by first | exact HSL.out.below (Stm.Below.drewN (Below.refl _ _) _).drew | exact HSL.out.below ((Below.refl _ _).drew) | exact HSL.out.below (Stm.Below.drewN (Below.refl _ _) _) | exact HSL.out)).mono ?_
               rintro e w3 ⟨rfl, hb⟩
               have B3 := Lib.hid ((show Below w.heap.size w (World.drew _) from B2.out.drew).trans (hb.mono B2.out.drew.size))
               clear hb)))
          all_goals
            by_cases hf0 : f = 0
            · subst hf0
              have HK3 : Hid (answersE qs p (l.drop (k + 1)) = r) := Lib.hid (by have := HK2.out; simpa using this)
              clear HK2
              go_wp2_with fail
              go_roundw
              case rel => exact ⟨k + 1, p, by omega, by go_num, rfl, HK3, B3⟩
              case measure => simp [intOf]; omega
            · have hb0 : (f != 0) = true := by rw [bne_iff_ne]; exact hf0
              have HK3 : Hid (f = r) := Lib.hid (by have := HK2.out; rwa [if_neg hf0] at this)
              clear HK2 hf0
              go_wp2_with fail
              go_ret; exact ⟨Stm.ret_int HK3.out, B3.out⟩
        · have hz' : (p : Int) ≤ z := of_decide_eq_true hz
          have HE7 : Hid ((7 : Int) = r) := Lib.hid (by have := HKK.out; rwa [if_pos hz'] at this)
          clear HKK hz'
          go_wp2_with fail
          go_ret; exact ⟨Stm.ret_int HE7.out, B2.out⟩
    · have HE : Hid (0 = r) := Lib.hid (by have := HK.out; rw [List.drop_of_length_le (by have := HL.out; omega)] at this; exact this)
      clear HK
      go_wp2_with fail
      go_ret; exact ⟨Stm.ret_int HE.out, HB.out⟩
end Go.Proofs.YthglfcfnejjpjaaGreatDoor.Rev
