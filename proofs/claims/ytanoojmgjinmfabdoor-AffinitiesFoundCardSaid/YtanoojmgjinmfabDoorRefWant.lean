/-
  THE REFERENCE OF THE CHECK OF WANTED TOPICS: WantedFault over a right forest.
-/
import Derived.Test.YtanoojmgjinmfabDoorRefSkills
namespace Go.Proofs.YtanoojmgjinmfabDoor.For
open Go.ChangeShapes Go.WideShapes Go.ChangeAt Go.RowKit Stm Key
set_option linter.unusedVariables false

def prevW (s : List ByteArray) : Nat → ByteArray
  | 0 => ⟨#[]⟩
  | k + 1 => s.getD k ⟨#[]⟩
theorem prevW_next {s : List ByteArray} {k : Nat} (h : k < s.length) : prevW s (k + 1) = s[k] := by simp [prevW, List.getD, h]

set_option maxRecDepth 100000 in
set_option maxHeartbeats 8000000 in
theorem wantedfault_walk (A : Option Addr) (n cap : Nat) (l : List Tp) (A2 : Option Addr) (n2 c2 : Nat) (s : List ByteArray) (w : World) (hn : l.length = n) (hn2 : n ≤ 1000) (h0 : forestE l = 0) (hS : TL w A l) (hs : SL w A2 s) (hk : s.length = n2) (h8 : n2 ≤ 8) (r : Int) (hr : Hid (waE l ⟨#[]⟩ s = r)) :
    Calls Tryd.prog 12 #[.slice A n cap, .slice A2 n2 c2] w fun e w' => e = .returned (.int .i64 r) ∧ Below w.heap.size w w' := by
  have HF0 := Lib.hid h0
  have HS := Lib.hid hs
  have HL := Lib.hid hk
  have TW : Hid (∀ W, Below w.heap.size w W → TL W A l) := Lib.hid fun W hW => hS.below hW
  have HN := Lib.hid hn
  have hbig : ¬ ((n2 : Int) > 8) := by omega
  clear hS hs hk h0 hn
  go_enter Tryd.func12, Tryd.ntmps12
  go_wp2_with fail
  go_loopw [12] (fun i wr => ∃ k : Nat, k ≤ n2 ∧ i = .int .i64 k ∧ Hid (waE l (prevW s k) (s.drop k) = r) ∧ Hid (Below w.heap.size w wr)) (fun i _ => n2 - (intOf i).toNat)
  case atStart => exact ⟨0, by omega, rfl, hr, Lib.hid (Below.refl _ _)⟩
  case round =>
    obtain ⟨k, hk, rfl, HQ, HB⟩ := hrel
    clear hr hbig
    have hz := HB.out.size
    by_cases hlt : k < n2
    · have hkl : k < s.length := by rw [HL.out]; exact hlt
      obtain ⟨g, hA, hgl, hc⟩ := HS.out.2 (by omega)
      have KC : Hid (∀ W, Below w.heap.size w W → W.cell? ⟨g, k, none⟩ = some (.string s[k])) := Lib.hid fun W hW => (hW.cell (p := ⟨g, k, none⟩) hgl).trans (hc k hkl)
      have HPREV : Hid (k = 0 ∨ ∃ j, k = j + 1 ∧ ∀ W, Below w.heap.size w W → W.cell? ⟨g, j, none⟩ = some (.string (prevW s k))) := Lib.hid (by
        cases k with
        | zero => exact Or.inl rfl
        | succ j => exact Or.inr ⟨j, rfl, fun W hW => by rw [prevW_next (by omega)]; exact (hW.cell (p := ⟨g, j, none⟩) hgl).trans (hc j (by omega))⟩)
      have h1 := HS.out.1 _ (List.getElem_mem hkl)
      have HPN := Lib.hid (prevW_next hkl)
      have HE := Lib.hid (show (if (lk l s[k]).isSome = false then 8 else if leB s[k] (prevW s k) = true then 7 else waE l s[k] (s.drop (k + 1))) = r by rw [← HQ.out, drop_step s k hkl]; rfl)
      have HLE : Hid (k = 0 → (lk l s[k]).isSome = true → leB s[k] (prevW s k) = false) := Lib.hid (fun h0 h => by subst h0; exact known_key HF0.out h)
      subst hA
      generalize s[k] = x at *
      generalize prevW s k = y at *
      have hgw : g < wr.heap.size := by omega
      have c0 := KC.out _ HB.out
      obtain ⟨ph, hph⟩ : ∃ b, (lk l x).isSome = b := ⟨_, rfl⟩
      have HH := Lib.hid (hastopic_walk A n cap l x _ HN.out (by omega) (TW.out _ HB.out) ph (Lib.hid (by rw [topsome (rightF HF0.out)]; exact hph)))
      rw [hph] at HE HLE
      clear hc hph HQ
      have a0 : (0 : Int) ≤ (k : Int) := by omega
      have a1 : (k : Int) < (n2 : Int) := by omega
      go_wp2_with fail
      refine (HH.out).mono ?_; rintro e w5 ⟨rfl, hb5⟩
      have B5 := Lib.hid (HB.out.trans (hb5.mono hz))
      clear hb5 HH c0 HB
      cases ph
      · have HR : Hid ((8 : Int) = r) := Lib.hid (by have := HE.out; simpa using this)
        go_wp2_with fail
        go_ret
        exact ⟨(by rw [← HR.out]; try rfl), B5.out⟩
      · have HE2 := Lib.hid (show (if leB x y = true then 7 else waE l x (s.drop (k + 1))) = r by have := HE.out; simpa using this)
        have HLT := Lib.hid hlt
        clear HE
        rcases HPREV.out with hk0 | ⟨j, hj, hjc⟩
        · have hle := HLE.out hk0 rfl
          have HR : Hid (waE l (prevW s (k + 1)) (s.drop (k + 1)) = r) := Lib.hid (by have h := HE2.out; rw [hle] at h; rw [HPN.out]; simpa using h)
          clear HPREV HLE hle HE2 HPN
          subst hk0
          go_wp2_with fail
          go_roundw
          case rel => exact ⟨1, by have := HLT.out; omega, rfl, HR, B5⟩
          case measure => simp [intOf]; omega
        · have e3 := hjc _ B5.out
          have HR2 := Lib.hid HPN.out
          subst hj
          have g1 : (j : Int) + 1 > 0 := by omega
          have g2 : (0 : Int) ≤ (j : Int) := by omega
          have g3 : (j : Int) < (n2 : Int) := by omega
          have g4 : IntKind.i64.wrap ((j : Int) + 1 - 1) = (j : Int) := by rw [show (j : Int) + 1 - 1 = j by omega]; exact IntWalk.i64_in _ (by omega)
          clear hjc HPREV HLE HPN
          unfold leB at HE2
          cases h7 : Op.bytesLess x.toList y.toList <;> cases h8 : (x.toList == y.toList)
          all_goals
            rw [h7, h8] at HE2
            have hl := HE2.out
            simp only [Bool.or_false, Bool.or_true, Bool.false_eq_true, Bool.true_eq_false, if_true, if_false] at hl
            have HFF := Lib.hid hl
            clear hl HE2
            go_wp2_with fail
            first
              | (go_ret
                 exact ⟨(by rw [← HFF.out]; try rfl), B5.out⟩)
              | (go_roundw
                 case rel => exact ⟨j + 1 + 1, by have := HLT.out; omega, by go_num, Lib.hid (by rw [HR2.out]; exact HFF.out), B5⟩
                 case measure => simp [intOf]; omega)
    · have hkn : k = n2 := by omega
      subst hkn
      have HR : Hid ((0 : Int) = r) := Lib.hid (by have := HQ.out; rw [List.drop_eq_nil_of_le (by rw [HL.out]; exact Nat.le_refl _)] at this; exact this)
      go_wp2_with fail
      go_ret
      exact ⟨(by rw [← HR.out]; try rfl), HB.out⟩
end Go.Proofs.YtanoojmgjinmfabDoor.For
