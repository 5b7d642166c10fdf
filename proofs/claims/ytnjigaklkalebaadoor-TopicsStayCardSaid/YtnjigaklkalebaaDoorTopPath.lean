/-
  THE CONTRACTS OF hasLoop AND Path.
-/
import Derived.Test.YtnjigaklkalebaaDoorTopMem
namespace Go.Proofs.YtnjigaklkalebaaDoor.For
open Go.ChangeShapes Go.WideShapes Go.ChangeAt Go.RowKit Stm Key
set_option linter.unusedVariables false

theorem lf_neg (P : List Int) (f : Nat) : lf P f (-1) = false := by cases f <;> rfl
theorem lf_zero {P : List Int} {p : Int} (h : p ≠ -1) : lf P 0 p = true := by simp [lf, h]
theorem lf_step {P : List Int} {f : Nat} {p : Int} (h : p ≠ -1) : lf P (f + 1) p = lf P f (up P p) := by simp [lf, h]
theorem pth_more {P : List Int} {f : Nat} {p : Int} (h : p ≠ -1) : pth P (f + 1) p = p :: pth P f (up P p) := by
  show (if p = -1 then [] else p :: pth P f (up P p)) = _
  rw [if_neg h]
theorem hasLoop_yes {P : List Int} {k : Nat} (hk : k < P.length) (h : lf P P.length k = true) : hasLoop P = true := List.any_eq_true.2 ⟨k, by simpa using hk, h⟩
theorem hasLoop_no {P : List Int} (h : ∀ i, i < P.length → lf P P.length (i : Nat) = false) : hasLoop P = false := by
  rw [Bool.eq_false_iff]; intro hh
  obtain ⟨i, hi, hl⟩ := List.any_eq_true.1 hh
  rw [h i (by simpa using hi)] at hl; cases hl
theorem up_get {P : List Int} {p : Nat} (h : p < P.length) : up P (p : Int) = P[p] := by simp [up, List.getD, List.getElem?_eq_getElem h]

set_option maxHeartbeats 2000000 in
theorem hasloop_walk (A : Option Addr) (n cap : Nat) (P : List Int) (w : World) (hn : P.length = n) (hn2 : n ≤ 1000) (hS : IL w A P) (hG : Good P) (r : Bool) (hr : Hid (hasLoop P = r)) :
    Calls Tryd.prog 58 #[.slice A n cap] w fun e w' => e = .returned (.bool r) ∧ w' = w := by
  have HS := Lib.hid hS
  have HL := Lib.hid hn
  have HGG := Lib.hid hG
  clear hS hn hG
  go_enter Tryd.func58, Tryd.ntmps58
  go_wp2_with fail
  go_loop [8] (fun i => ∃ k : Nat, k ≤ n ∧ i = .int .i64 k ∧ Hid (∀ i, i < k → lf P n (i : Nat) = false)) (fun i => n - (intOf i).toNat)
  case atStart => exact ⟨0, Nat.zero_le _, rfl, Lib.hid (fun i hi => absurd hi (by omega))⟩
  case round =>
    obtain ⟨k, hk, rfl, HK⟩ := hrel
    by_cases hlt : k < n
    · go_wp2_with fail
      go_loop [4, 5] (fun a b => ∃ (s : Nat) (p : Int), a = .int .i64 s ∧ b = .int .i64 p ∧ s ≤ n ∧ -1 ≤ p ∧ p < n ∧ Hid (lf P (n - s) p = lf P n k)) (fun a _ => n - (intOf a).toNat)
      case atStart => exact ⟨0, k, rfl, rfl, Nat.zero_le _, by omega, by omega, Lib.hid (by rw [Nat.sub_zero])⟩
      case round =>
        obtain ⟨s, p, rfl, rfl, hs, hp1, hp2, HP⟩ := hrel
        by_cases hp : p = -1
        · subst hp
          have HK2 : Hid (∀ i, i < k + 1 → lf P n (i : Nat) = false) := Lib.hid (fun i hi => by
            rcases (by omega : i < k ∨ i = k) with h | rfl
            · exact HK.out i h
            · rw [← HP.out, lf_neg])
          clear HK HP
          go_wp2_with fail
          go_round
          case rel => exact ⟨k + 1, by omega, by go_num, HK2⟩
          case measure => simp [intOf]; omega
        · have hpb : (p != -1) = true := by rw [bne_iff_ne]; exact hp
          obtain ⟨q, rfl⟩ : ∃ q : Nat, p = q := ⟨p.toNat, by omega⟩
          by_cases hsn : s = n
          · have HE : Hid (r = true) := Lib.hid (by
              have h1 := HP.out
              rw [hsn, Nat.sub_self, lf_zero hp] at h1
              rw [← hr.out]; exact hasLoop_yes (k := k) (by have := HL.out; omega) (by rw [HL.out]; exact h1.symm))
            have d1 : decide ((s : Int) + 1 > n) = true := by simp; omega
            clear HK HP
            go_wp2_with fail
            go_ret; exact ⟨by rw [HE.out]; rfl, rfl⟩
          · have d1 : decide ((s : Int) + 1 > n) = false := by simp; omega
            have hql : q < P.length := by have := HL.out; omega
            obtain ⟨b, hA, hbl, hc⟩ := HS.out (by omega)
            have c1 := hc q hql
            have hr2 := up_range HGG.out (p := q) (by omega) (by omega)
            have HP2 : Hid (lf P (n - (s + 1)) (up P q) = lf P n k) := Lib.hid (by
              have h1 := HP.out
              rw [show n - s = n - (s + 1) + 1 by omega, lf_step hp] at h1; exact h1)
            rw [up_get hql] at hr2 HP2
            have hr3 : -1 ≤ P[q] ∧ P[q] < n := by have := HL.out; omega
            generalize P[q] = u at *
            have q0 : (0 : Int) ≤ (q : Int) := by omega
            subst hA
            clear HK HP hc hr2 hpb
            have hpb : ((q : Int) != -1) = true := by rw [bne_iff_ne]; exact hp
            go_wp2_with fail
            go_round
            case rel => exact ⟨s + 1, u, by go_num, rfl, by omega, by omega, by omega, HP2⟩
            case measure => simp [intOf]; omega
    · have HE : Hid (r = false) := Lib.hid (by rw [← hr.out]; exact hasLoop_no (fun i hi => by rw [HL.out]; exact HK.out i (by have := HL.out; omega)))
      go_wp2_with fail
      go_ret; exact ⟨by rw [HE.out]; rfl, rfl⟩

theorem infoI : (Tryd.prog.info? 3).map (fun i => (i.zero, i.size, i.bytes)) = some (some (.int .i64 0), 1, 8) := by kernel_rfl
theorem row_add (b i : Nat) : (⟨b, 0, none⟩ : Addr).add i = ⟨b, i, none⟩ := by
  unfold Addr.add; split
  · rename_i h; subst h; rfl
  · simp
theorem row_il {w : World} {base n cap : Nat} {A : Option Addr} {L : List Int} (h : w.ownsRow base 3 1 (.slice A n cap) n (L.map (Value.int .i64))) (hl : L.length = n) : IL w A L := by
  intro h0
  obtain ⟨g, cap', hv, _, hlt⟩ := h.form (by omega)
  have hA : A = some ⟨g, 0, none⟩ := by injection hv
  subst hA
  refine ⟨g, rfl, hlt, fun i hi => ?_⟩
  have e1 := h.cells (g := g) rfl i (.int .i64 L[i]) (by simp [List.getElem?_eq_getElem hi])
  rw [row_add] at e1
  exact e1
theorem grown_below {w w' : World} {row : Option Nat} {C : Nat} (h : w.grownBy w' row) (hr : ∀ g, row = some g → C ≤ g) (hC : C ≤ w.heap.size) : Below C w w' :=
  ⟨h.os, h.tape, h.output, h.size, fun i hi => h.block i (by omega) (fun e => by have := hr i e.symm; omega)⟩
theorem row_cap {w : World} {base E S n cap : Nat} {A : Option Addr} {m : Nat} {xs : List Value} (h : w.ownsRow base E S (.slice A n cap) m xs) : n ≤ cap := by
  rcases h.2 with ⟨e, _⟩ | ⟨g, cap', cur, e, _, _, hc, _⟩
  · injection e with _ e1 e2; omega
  · injection e with _ e1 e2; omega
theorem pth_len (P : List Int) : ∀ (f : Nat) (p : Int), (pth P f p).length ≤ f
  | 0, p => by simp [pth]
  | f + 1, p => by
    unfold pth; split
    · simp
    · simp; exact pth_len P f _
def lenOf : Value → Nat
  | .slice _ m _ => m
  | _ => 0

set_option maxHeartbeats 4000000 in
theorem path_walk (A : Option Addr) (n cap : Nat) (P : List Int) (i0 : Int) (w : World) (hn : P.length = n) (hn2 : n ≤ 1000) (hS : IL w A P) (hG : Good P) (h0 : -1 ≤ i0) (h1 : i0 < n) (hlf : lf P n i0 = false) (L0 : List Int) (hL0 : Hid (pth P n i0 = L0)) :
    Calls Tryd.prog 25 #[.slice A n cap, .int .i64 i0] w fun e w' => ∃ (A' : Option Addr) (m c : Nat), e = .returned (.slice A' m c) ∧ L0.length = m ∧ m ≤ n ∧ w'.ownsRow w.heap.size 3 1 (.slice A' m c) m (L0.map (Value.int .i64)) ∧ Below w.heap.size w w' := by
  have HS := Lib.hid hS
  have HL := Lib.hid hn
  have HGG := Lib.hid hG
  have HLF := Lib.hid hlf
  clear hS hn hG hlf
  go_enter Tryd.func25, Tryd.ntmps25
  go_wp2_with fail
  go_loopw [1, 5] (fun a v wr => ∃ (p : Int) (f m c : Nat) (A' : Option Addr) (L : List Int), a = .int .i64 p ∧ v = .slice A' m c ∧ L.length = m ∧ f + m = n ∧ -1 ≤ p ∧ p < n ∧ Hid (lf P f p = false) ∧ Hid (L ++ pth P f p = L0) ∧
    Hid (wr.ownsRow w.heap.size 3 1 (.slice A' m c) m (L.map (Value.int .i64))) ∧ Hid (Below w.heap.size w wr)) (fun _ v _ => n - lenOf v)
  case atStart => exact ⟨i0, n, 0, 0, none, [], rfl, rfl, rfl, rfl, h0, h1, HLF, Lib.hid (by rw [← hL0.out]; rfl), Lib.hid (World.ownsRow_nil _ _ _ _), Lib.hid (Below.refl _ _)⟩
  case round =>
    obtain ⟨p, f, m, c, A', L, rfl, rfl, hm, hfm, hp0, hp1, HF, HP, HO, HB⟩ := hrel
    have HM := Lib.hid hm
    clear hm
    by_cases hp : p = -1
    · subst hp
      have HE : Hid (L = L0) := Lib.hid (by have := HP.out; rw [pth_neg, List.append_nil] at this; exact this)
      go_wp2_with fail
      go_ret
      exact ⟨A', m, c, rfl, by rw [← HE.out]; exact HM.out, by omega, by rw [← HE.out]; exact HO.out, HB.out⟩
    · obtain ⟨f, rfl⟩ : ∃ g, f = g + 1 := by
        cases f with
        | zero => have := HF.out; rw [lf_zero hp] at this; cases this
        | succ g => exact ⟨g, rfl⟩
      obtain ⟨q, rfl⟩ : ∃ q : Nat, p = q := ⟨p.toNat, by omega⟩
      have hql : q < P.length := by have := HL.out; omega
      obtain ⟨b, hA, hbl, hc⟩ := HS.out (by omega)
      have c1 := hc q hql
      have hr2 := up_range HGG.out (p := q) (by omega) (by omega)
      have HF2 : Hid (lf P f (up P q) = false) := Lib.hid (by have := HF.out; rwa [lf_step hp] at this)
      have HP2 : Hid ((L ++ [(q : Int)]) ++ pth P f (up P q) = L0) := Lib.hid (by rw [← HP.out, pth_more hp]; simp)
      rw [up_get hql] at hr2 HP2 HF2
      have hr3 : -1 ≤ P[q] ∧ P[q] < n := by have := HL.out; omega
      generalize P[q] = u at *
      have q0 : (0 : Int) ≤ (q : Int) := by omega
      have hpb : ((q : Int) != -1) = true := by rw [bne_iff_ne]; exact hp
      have HCC := Lib.hid (fun (W : World) (hW : Below w.heap.size w W) => (hW.cell (p := ⟨b, q, none⟩) hbl).trans c1)
      have hzw := HB.out.size
      obtain ⟨i0', hi0, hz0, hz1', hz2⟩ := info_parts infoI
      have HI := Lib.hid hi0
      have Z0 := Lib.hid hz0
      have Z1 := Lib.hid hz1'
      have Z2 := Lib.hid hz2
      subst hA
      clear HF HP hc hr2 c1 hi0 hz0 hz1' hz2
      go_wp2_with (at_builtin; (refine wpList_append_lies _ rfl _ _ _ rfl w.heap.size 3 i0' _ 1 8 Tryd.underlying22 HI.out Z0.out Z1.out Z2.out rfl (by omega) (.slice A' m c) m (L.map (Value.int .i64)) rfl (HO.out.alloc _) ⟨wr.heap.size, 0, none⟩ 1 1 [.int .i64 (q : Int)] rfl rfl (World.news_of_block (cs := #[.int .i64 (q : Int)]) (t := 3) (fr := (0, 0)) (heap_alloc_new wr _)) (by simp [Value.oneCell']) (by omega) (by unfold maxLen; omega) (by omega) (by simp; omega) (wr.heap.size + 1) (by simp) ?_); intro gg cap' w2 hown hgrow hat hgl; (have O2 := Lib.hid (show w2.ownsRow w.heap.size 3 1 _ (m + 1) ((L ++ [(q : Int)]).map (Value.int .i64)) by rw [List.map_append]; exact hown)); (have B2 := Lib.hid ((HB.out.alloc hzw (.cells #[.int .i64 (q : Int)] 3)).trans (grown_below hgrow (fun g e => (HO.out.lt g e).1) (by simp; omega)))); (have c1 := HCC.out _ B2.out); clear hown hgrow hat)
      go_roundw
      case rel => exact ⟨u, f, m + 1, cap', some ⟨gg, 0, none⟩, L ++ [(q : Int)], rfl, rfl, by simp [HM.out], by omega, by omega, by omega, HF2, HP2, O2, B2⟩
      case measure => simp [lenOf]; omega
end Go.Proofs.YtnjigaklkalebaaDoor.For
