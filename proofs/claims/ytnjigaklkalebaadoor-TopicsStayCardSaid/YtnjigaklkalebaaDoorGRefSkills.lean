/-
  THE REFERENCE OF THE CHECK OF SKILLS: SkillsFault over a right forest.
-/
import Derived.Test.YtnjigaklkalebaaDoorWith
import Derived.Test.YtnjigaklkalebaaDoorRefNear
import Derived.Deep.RegionHeld3
namespace Go.Proofs.YtnjigaklkalebaaDoor.For
open Go.ChangeShapes Go.WideShapes Go.ChangeAt Go.RowKit Stm Key
set_option linter.unusedVariables false

theorem topsome {l : List Tp} (h : RightF l) (s : ByteArray) : (topOf l s).isSome = (lk l s).isSome := by
  have h1 := topOf_none h.dist s
  cases h2 : topOf l s <;> cases h3 : lk l s <;> rw [h2, h3] at h1 <;> simp at h1 ⊢
theorem known_key {l : List Tp} (h : forestE l = 0) {s : ByteArray} (hs : (lk l s).isSome = true) : leB s ⟨#[]⟩ = false := by
  obtain ⟨i, hi⟩ := Option.isSome_iff_exists.1 hs
  obtain ⟨h1, h2⟩ := lk_some l s i hi
  rw [← h2]
  exact lex_empty _ (rising_gt l _ (forest_parts h).1 _ (List.getElem_mem h1)).2
def prevS (s : List Sk) : Nat → ByteArray
  | 0 => ⟨#[]⟩
  | k + 1 => (s.getD k ⟨⟨#[]⟩, 0⟩).t
theorem prevS_next {s : List Sk} {k : Nat} (h : k < s.length) : prevS s (k + 1) = s[k].t := by simp [prevS, List.getD, h]

set_option maxRecDepth 100000 in
set_option maxHeartbeats 8000000 in
theorem skillsfault_walk (A : Option Addr) (n cap : Nat) (l : List Tp) (A2 : Option Addr) (n2 c2 : Nat) (s : List Sk) (w : World) (hn : l.length = n) (hn2 : n ≤ 1000) (h0 : forestE l = 0) (hS : TL w A l) (hs : KL w A2 s) (hk : s.length = n2) (h100 : n2 ≤ 100) (r : Int) (hr : Hid (skE l ⟨#[]⟩ s = r)) :
    Calls Tryd.prog 6 #[.slice A n cap, .slice A2 n2 c2] w fun e w' => e = .returned (.int .i64 r) ∧ Below w.heap.size w w' := by
  have HF0 := Lib.hid h0
  have HS := Lib.hid hs
  have HL := Lib.hid hk
  have TW : Hid (∀ W, Below w.heap.size w W → TL W A l) := Lib.hid fun W hW => hS.below hW
  have HN := Lib.hid hn
  have hbig : ¬ ((n2 : Int) > 100) := by omega
  clear hS hs hk h0 hn
  go_enter Tryd.func6, Tryd.ntmps6
  go_wp2_with fail
  go_loopw [12] (fun i wr => ∃ k : Nat, k ≤ n2 ∧ i = .int .i64 k ∧ Hid (skE l (prevS s k) (s.drop k) = r) ∧ Hid (Below w.heap.size w wr)) (fun i _ => n2 - (intOf i).toNat)
  case atStart => exact ⟨0, by omega, rfl, hr, Lib.hid (Below.refl _ _)⟩
  case round =>
    obtain ⟨k, hk, rfl, HQ, HB⟩ := hrel
    clear hr hbig
    have hz := HB.out.size
    by_cases hlt : k < n2
    · have hkl : k < s.length := by rw [HL.out]; exact hlt
      obtain ⟨g, hA, hgl, hc⟩ := HS.out.2 (by omega)
      have KC : Hid (∀ W, Below w.heap.size w W → W.cell? ⟨g, k * 2, none⟩ = some (.string s[k].t) ∧ W.cell? ⟨g, k * 2 + 1, none⟩ = some (.int .i64 s[k].n)) := Lib.hid fun W hW => ⟨(hW.cell (p := ⟨g, k * 2, none⟩) hgl).trans (hc k hkl).1, (hW.cell (p := ⟨g, k * 2 + 1, none⟩) hgl).trans (hc k hkl).2⟩
      have HPREV : Hid (k = 0 ∨ ∃ j, k = j + 1 ∧ ∀ W, Below w.heap.size w W → W.cell? ⟨g, j * 2, none⟩ = some (.string (prevS s k))) := Lib.hid (by
        cases k with
        | zero => exact Or.inl rfl
        | succ j => exact Or.inr ⟨j, rfl, fun W hW => by rw [prevS_next (by omega)]; exact (hW.cell (p := ⟨g, j * 2, none⟩) hgl).trans (hc j (by omega)).1⟩)
      have hx := HS.out.1 _ (List.getElem_mem hkl)
      have HPN := Lib.hid (prevS_next hkl)
      have HE := Lib.hid (show (if (lk l s[k].t).isSome = false then 8 else if leB s[k].t (prevS s k) = true then 7 else if pct s[k].n = false then 1 else skE l s[k].t (s.drop (k + 1))) = r by rw [← HQ.out, drop_step s k hkl]; rfl)
      have HLE : Hid (k = 0 → (lk l s[k].t).isSome = true → leB s[k].t (prevS s k) = false) := Lib.hid (fun h0 h => by subst h0; exact known_key HF0.out h)
      subst hA
      generalize s[k] = x at *
      generalize prevS s k = y at *
      obtain ⟨h1, h2, h3⟩ := hx
      have hgw : g < wr.heap.size := by omega
      obtain ⟨c0, c1⟩ := KC.out _ HB.out
      have B1 := Lib.hid (HB.out.alloc hz (.cells #[.string x.t, .int .i64 x.n] 36))
      have K1 := Lib.hid (Blk.new wr 36 #[.string x.t, .int .i64 x.n])
      obtain ⟨ph, hph⟩ : ∃ b, (lk l x.t).isSome = b := ⟨_, rfl⟩
      have HH := Lib.hid (hastopic_walk A n cap l x.t _ HN.out (by omega) (TW.out _ B1.out) ph (Lib.hid (by rw [topsome (rightF HF0.out)]; exact hph)))
      rw [hph] at HE HLE
      clear hc hph HQ HB
      have a0 : (0 : Int) ≤ (k : Int) := by omega
      have a1 : (k : Int) < (n2 : Int) := by omega
      go_wp2_with fail
      refine (HH.out).mono ?_; rintro e w5 ⟨rfl, hb5⟩
      have B5 := Lib.hid (B1.out.trans (hb5.mono B1.out.size))
      have K5 := Lib.hid (K1.out.below hb5 K1.out.lt)
      clear hb5 HH K1 B1 c0 c1
      cases ph
      · have HR : Hid ((8 : Int) = r) := Lib.hid (by have := HE.out; simpa using this)
        go_wp2_with fail
        go_ret
        exact ⟨(by rw [← HR.out]; try rfl), B5.out⟩
      · have e0 : w5.cell? ⟨wr.heap.size, 0, none⟩ = some (.string x.t) := K5.out.cell 0 _ rfl
        have e1 : w5.cell? ⟨wr.heap.size, 1, none⟩ = some (.int .i64 x.n) := K5.out.cell 1 _ rfl
        have HE2 := Lib.hid (show (if leB x.t y = true then 7 else if pct x.n = false then 1 else skE l x.t (s.drop (k + 1))) = r by have := HE.out; simpa using this)
        have HLT := Lib.hid hlt
        clear HE
        have hpp : pct x.n = (decide (1 ≤ x.n) && decide (x.n ≤ 100)) := rfl
        have key : ∀ b : Bool, leB x.t y = b → (b = true → Hid ((7 : Int) = r)) ∧ (b = false → (x.n < 1 → Hid ((1 : Int) = r)) ∧ (x.n > 100 → Hid ((1 : Int) = r)) ∧ (1 ≤ x.n → x.n ≤ 100 → Hid (skE l (prevS s (k + 1)) (s.drop (k + 1)) = r))) := fun b hb => by
          have h := HE2.out
          rw [hb, hpp] at h
          refine ⟨fun e => by subst e; exact Lib.hid (by simpa using h), fun e => ?_⟩
          subst e
          refine ⟨fun h1 => Lib.hid ?_, fun h1 => Lib.hid ?_, fun h1 h2 => Lib.hid ?_⟩
          · have q : decide (1 ≤ x.n) = false := by simp; omega
            rw [q] at h; simpa using h
          · have q : decide (x.n ≤ 100) = false := by simp; omega
            rw [q] at h; simpa using h
          · have q : decide (1 ≤ x.n) = true := by simp; omega
            have q2 : decide (x.n ≤ 100) = true := by simp; omega
            rw [q, q2] at h; rw [HPN.out]; simpa using h
        have KEY := Lib.hid key
        clear key hpp HE2
        rcases HPREV.out with hk0 | ⟨j, hj, hjc⟩
        · have hle := HLE.out hk0 rfl
          obtain ⟨k1, k2, k3⟩ := (KEY.out _ hle).2 rfl
          have K1 := Lib.hid k1
          have K2 := Lib.hid k2
          have K3 := Lib.hid k3
          clear k1 k2 k3 KEY HPREV HLE hle
          subst hk0
          go_wp2_with fail
          go_quiet (fail)
          by_cases q1 : x.n < 1
          · have HR := K1.out q1
            go_wp2_with fail
            go_ret
            exact ⟨(by rw [← HR.out]; try rfl), Stm.Below.drewN B5.out _⟩
          · by_cases q2 : x.n > 100
            · have HR := K2.out q2
              go_wp2_with fail
              go_ret
              exact ⟨(by rw [← HR.out]; try rfl), Stm.Below.drewN B5.out _⟩
            · have HR := K3.out (by omega) (by omega)
              go_wp2_with fail
              go_roundw
              case rel => exact ⟨1, by have := HLT.out; omega, rfl, HR, Lib.hid (Stm.Below.drewN B5.out _)⟩
              case measure => simp [intOf]; omega
        · have e3 := hjc _ B5.out
          subst hj
          have g1 : (j : Int) + 1 > 0 := by omega
          have g2 : (0 : Int) ≤ (j : Int) := by omega
          have g3 : (j : Int) < (n2 : Int) := by omega
          have g4 : IntKind.i64.wrap ((j : Int) + 1 - 1) = (j : Int) := by rw [show (j : Int) + 1 - 1 = j by omega]; exact IntWalk.i64_in _ (by omega)
          clear hjc HPREV HLE
          obtain ⟨lb, hlb⟩ : ∃ b, leB x.t y = b := ⟨_, rfl⟩
          have KB := KEY.out _ hlb
          have K0 := Lib.hid KB.1
          have K1 := Lib.hid (fun h => (KB.2 h).1)
          have K2 := Lib.hid (fun h => (KB.2 h).2.1)
          have K3 := Lib.hid (fun h => (KB.2 h).2.2)
          have LBH := Lib.hid hlb
          clear KB KEY hlb
          unfold leB at LBH
          cases h7 : Op.bytesLess x.t.toList y.toList <;> cases h8 : (x.t.toList == y.toList)
          all_goals
            rw [h7, h8] at LBH
            obtain rfl := LBH.out
            first
              | (have HR := K0.out rfl
                 go_wp2_with fail
                 go_quiet (fail)
                 go_wp2_with fail
                 go_ret
                 exact ⟨(by rw [← HR.out]; try rfl), Stm.Below.drewN B5.out _⟩)
              | (go_wp2_with fail
                 go_quiet (fail)
                 by_cases q1 : x.n < 1
                 · have HR := K1.out rfl q1
                   go_wp2_with fail
                   go_ret
                   exact ⟨(by rw [← HR.out]; try rfl), Stm.Below.drewN B5.out _⟩
                 · by_cases q2 : x.n > 100
                   · have HR := K2.out rfl q2
                     go_wp2_with fail
                     go_ret
                     exact ⟨(by rw [← HR.out]; try rfl), Stm.Below.drewN B5.out _⟩
                   · have HR := K3.out rfl (by omega) (by omega)
                     go_wp2_with fail
                     go_roundw
                     case rel => exact ⟨j + 1 + 1, by have := HLT.out; omega, by go_num, HR, Lib.hid (Stm.Below.drewN B5.out _)⟩
                     case measure => simp [intOf]; omega)
    · have hkn : k = n2 := by omega
      subst hkn
      have HR : Hid ((0 : Int) = r) := Lib.hid (by have := HQ.out; rw [List.drop_eq_nil_of_le (by rw [HL.out]; exact Nat.le_refl _)] at this; exact this)
      go_wp2_with fail
      go_ret
      exact ⟨(by rw [← HR.out]; try rfl), HB.out⟩
end Go.Proofs.YtnjigaklkalebaaDoor.For

/-
  THE REFERENCE OF THE CHECK OF WANTED TOPICS: WantedFault over a right forest.
-/
namespace Go.Proofs.YtnjigaklkalebaaDoor.For
open Go.ChangeShapes Go.WideShapes Go.ChangeAt Go.RowKit Stm Key
set_option linter.unusedVariables false

def prevW (s : List ByteArray) : Nat → ByteArray
  | 0 => ⟨#[]⟩
  | k + 1 => s.getD k ⟨#[]⟩
theorem prevW_next {s : List ByteArray} {k : Nat} (h : k < s.length) : prevW s (k + 1) = s[k] := by simp [prevW, List.getD, h]

end Go.Proofs.YtnjigaklkalebaaDoor.For

/-
  cmp.Or AT TWO ERRORS.
-/
namespace Go.Proofs.YtnjigaklkalebaaDoor.For
open Go.ChangeShapes Go.WideShapes Go.ChangeAt Go.RowKit Stm Key
set_option linter.unusedVariables false

end Go.Proofs.YtnjigaklkalebaaDoor.For

/-
  slices.Equal OF TWO EQUAL LISTS OF REASONS (api.Because).
-/
namespace Go.Proofs.YtnjigaklkalebaaDoor.For
open Go.ChangeShapes Go.WideShapes Go.ChangeAt Go.RowKit Stm Key
set_option linter.unusedVariables false

/-- A reason: a topic, the skill by which it is known, how well. -/
structure Bc where
  t : ByteArray
  b : ByteArray
  p : Int
  q : Int
/-- A list of reasons in memory. -/
def BL (w : World) (A : Option Addr) (l : List Bc) : Prop :=
  0 < l.length → ∃ g, A = some ⟨g, 0, none⟩ ∧ g < w.heap.size ∧ ∀ (i : Nat) (h : i < l.length), w.cell? ⟨g, i * 4, none⟩ = some (.string l[i].t) ∧ w.cell? ⟨g, i * 4 + 1, none⟩ = some (.string l[i].b) ∧ w.cell? ⟨g, i * 4 + 2, none⟩ = some (.int .i64 l[i].p) ∧ w.cell? ⟨g, i * 4 + 3, none⟩ = some (.int .i64 l[i].q)

end Go.Proofs.YtnjigaklkalebaaDoor.For
