/-
  THE CONTRACTS OF WORDS: submit.ofWord, lower, placedWords: how many words a string has.
-/
import Derived.Test.YtanoojmgjinmfaaDoorRefTexts
import Derived.Deep.AppendLies
import Derived.OwnWalk
namespace Go.Proofs.YtanoojmgjinmfaaDoor.Key
open Go.ChangeShapes Go.WideShapes Go.ChangeAt Go.RowKit
set_option linter.unusedVariables false

def wordI (c : Int) : Bool := decide ((97 ≤ c ∧ c ≤ 122) ∨ (65 ≤ c ∧ c ≤ 90) ∨ (48 ≤ c ∧ c ≤ 57) ∨ 128 ≤ c)

set_option maxHeartbeats 1000000 in
theorem ofWord_any (c : Int) (w : World) (h0 : 0 ≤ c) (h1 : c ≤ 255) : Calls Tryd.prog 68 #[.int .u8 c] w fun e w' => e = .returned (.bool (wordI c)) ∧ w' = w := by
  obtain ⟨r, hr⟩ : ∃ r, wordI c = r := ⟨_, rfl⟩
  rw [hr]
  unfold wordI at hr
  have HR := Lib.hid hr; clear hr
  rcases (by omega : c < 48 ∨ (48 ≤ c ∧ c ≤ 57) ∨ (58 ≤ c ∧ c < 65) ∨ (65 ≤ c ∧ c ≤ 90) ∨ (91 ≤ c ∧ c < 97) ∨ (97 ≤ c ∧ c ≤ 122) ∨ (123 ≤ c ∧ c < 128) ∨ 128 ≤ c) with h | h | h | h | h | h | h | h
  all_goals
    have d1 : 97 ≤ c ∨ ¬ 97 ≤ c := by omega
    have d2 : c ≤ 122 ∨ ¬ c ≤ 122 := by omega
    have d3 : 65 ≤ c ∨ ¬ 65 ≤ c := by omega
    have d4 : c ≤ 90 ∨ ¬ c ≤ 90 := by omega
    have d5 : 48 ≤ c ∨ ¬ 48 ≤ c := by omega
    have d6 : c ≤ 57 ∨ ¬ c ≤ 57 := by omega
    have d7 : 128 ≤ c ∨ ¬ 128 ≤ c := by omega
    rcases d1 with d1 | d1 <;> first | (exfalso; omega) | skip
    all_goals (rcases d2 with d2 | d2 <;> first | (exfalso; omega) | skip)
    all_goals (rcases d3 with d3 | d3 <;> first | (exfalso; omega) | skip)
    all_goals (rcases d4 with d4 | d4 <;> first | (exfalso; omega) | skip)
    all_goals (rcases d5 with d5 | d5 <;> first | (exfalso; omega) | skip)
    all_goals (rcases d6 with d6 | d6 <;> first | (exfalso; omega) | skip)
    all_goals (rcases d7 with d7 | d7 <;> first | (exfalso; omega) | skip)
    go_enter Tryd.func68, Tryd.ntmps68
    go_wp2_with fail
    go_ret
    exact ⟨ret_bool (by rw [← HR.out]; simp [d1, d2, d3, d4, d5, d6, d7]), rfl⟩

def lowU (c : UInt8) : UInt8 := if 65 ≤ c.toNat ∧ c.toNat ≤ 90 then UInt8.ofNat (c.toNat + 32) else c
def lowS (s : ByteArray) : ByteArray := ⟨(s.data.toList.map lowU).toArray⟩
theorem lowU_nat (c : UInt8) : (lowU c).toNat = if 65 ≤ c.toNat ∧ c.toNat ≤ 90 then c.toNat + 32 else c.toNat := by
  unfold lowU
  split
  · rename_i h; simp; omega
  · rfl

theorem add_zero (b i : Nat) : (⟨b, 0, none⟩ : Addr).add i = ⟨b, i, none⟩ := by
  unfold Addr.add; split
  · rename_i h; subst h; rfl
  · simp

theorem bytes_free (s : ByteArray) (w : World) : ∃ (cap : Nat) (W1 : World), (convert 9 57 (.string s)).run Tryd.prog w = .ok (.slice (some ⟨w.heap.size, 0, none⟩) s.size cap) W1 ∧
    (∀ (i : Nat) (h : i < s.size), W1.cell? ⟨w.heap.size, i, none⟩ = some (.int .u8 s[i].toNat) ∧ W1.frozen? ⟨w.heap.size, i, none⟩ = false) ∧ Below w.heap.size w W1 ∧ w.heap.size < W1.heap.size := by
  refine ⟨_, _, run_bytes_of_string w 9 57 5 s Tryd.underlying9 Tryd.underlying57 Tryd.underlying5, fun i h => ?_, ((Below.refl _ _).drew).alloc (by simp) _, by simp⟩
  have h1 : (w.drew.alloc (.cells (bytesRow s (grownCap w s.size 0 5)) 5 ((bytesRow s (grownCap w s.size 0 5)).size, (bytesRow s (grownCap w s.size 0 5)).size + 1))).heap[w.heap.size]? = some (.cells (bytesRow s (grownCap w s.size 0 5)) 5 ((bytesRow s (grownCap w s.size 0 5)).size, (bytesRow s (grownCap w s.size 0 5)).size + 1)) := heap_alloc_new w.drew _
  have h2 := bytesRow_at s (grownCap w s.size 0 5) i h
  have h3 : i < (bytesRow s (grownCap w s.size 0 5)).size := (Array.getElem?_eq_some_iff.1 h2).1
  refine ⟨?_, ?_⟩
  · simp only [World.cell?, h1, h2]; rfl
  · simp only [World.frozen?, h1]; simp; omega

set_option maxHeartbeats 2000000 in
theorem lower_any (s : ByteArray) (w : World) (hs : s.size ≤ 1000000) :
    Calls Tryd.prog 69 #[.string s] w fun e w' => e = .returned (.string (lowS s)) ∧ Below w.heap.size w w' := by
  obtain ⟨cap, W1, hconv, hcell, hb1, hz1⟩ := bytes_free s w
  have HCELL := Lib.hid hcell
  have HB1 := Lib.hid hb1
  clear hcell hb1
  go_enter Tryd.func69, Tryd.ntmps69
  go_wp2_with fail
  clear hconv
  go_loopw [10] (fun i wr => ∃ k : Nat, k ≤ s.size ∧ i = .int .i64 k ∧ Hid (Below w.heap.size w wr) ∧ w.heap.size < wr.heap.size ∧
      Hid (∀ (i : Nat) (h : i < s.size), wr.cell? ⟨w.heap.size, i, none⟩ = some (.int .u8 (if i < k then (lowU s[i]).toNat else s[i].toNat : Nat)) ∧ wr.frozen? ⟨w.heap.size, i, none⟩ = false)) (fun i _ => s.size - (intOf i).toNat)
  case atStart => exact ⟨0, Nat.zero_le _, rfl, HB1, hz1, Lib.hid fun i h => by simpa using HCELL.out i h⟩
  case round =>
    obtain ⟨k, hk, rfl, HB, hz, HC⟩ := hrel
    by_cases hlt : k < s.size
    · obtain ⟨ck, fk⟩ := HC.out k hlt
      rw [if_neg (Nat.lt_irrefl k)] at ck
      have hbk := s[k].toNat_lt
      have hlow := lowU_nat s[k]
      have HLOW := Lib.hid hlow
      obtain ⟨c, hc⟩ : ∃ c : Nat, s[k].toNat = c := ⟨_, rfl⟩
      rw [hc] at ck hbk HLOW
      have hk1 : ∀ W : World, (∀ i, i ≠ k → W.cell? ⟨w.heap.size, i, none⟩ = wr.cell? ⟨w.heap.size, i, none⟩) → W.cell? ⟨w.heap.size, k, none⟩ = some (.int .u8 ((lowU s[k]).toNat : Nat)) → (∀ i, W.frozen? ⟨w.heap.size, i, none⟩ = wr.frozen? ⟨w.heap.size, i, none⟩) →
          ∀ (i : Nat) (h : i < s.size), W.cell? ⟨w.heap.size, i, none⟩ = some (.int .u8 (if i < k + 1 then (lowU s[i]).toNat else s[i].toNat : Nat)) ∧ W.frozen? ⟨w.heap.size, i, none⟩ = false := fun W h1 h2 h3 i hi => by
        refine ⟨?_, (h3 i).trans (HC.out i hi).2⟩
        by_cases e : i = k
        · subst e; rw [if_pos (by omega)]; exact h2
        · rw [h1 i e, (HC.out i hi).1]
          by_cases e2 : i < k
          · rw [if_pos e2, if_pos (by omega)]
          · rw [if_neg e2, if_neg (by omega)]
      have HK1 := Lib.hid hk1
      clear hk1 hlow
      cases a1 : decide ((c : Int) ≥ 65) <;> cases a2 : decide ((c : Int) ≤ 90)
      all_goals
        have hv : (lowU s[k]).toNat = if 65 ≤ c ∧ c ≤ 90 then c + 32 else c := HLOW.out
        simp only [decide_eq_true_eq, decide_eq_false_iff_not] at a1 a2
      all_goals
        have HV := Lib.hid hv
        clear hv hc
      case true.true =>
        have hq : IntKind.u8.wrap (IntKind.u8.wrap ((c : Int) + 97) - 65) = ((c + 32 : Nat) : Int) := by
          have e1 : IntKind.u8.wrap ((c : Int) + 97) = (c : Int) + 97 := IntWalk.u8_in _ (by omega)
          rw [e1, show (c : Int) + 97 - 65 = ((c + 32 : Nat) : Int) by omega]
          exact IntWalk.u8_in _ (by omega)
        have e1 : IntKind.u8.wrap ((c : Int) + 97) = (c : Int) + 97 := IntWalk.u8_in _ (by omega)
        go_wp2_with fail
        go_roundw
        case rel =>
          refine ⟨k + 1, by omega, by go_num, Lib.hid (HB.out.setCell (by simp) _), by simp; omega, Lib.hid (HK1.out _ (fun i hi => World.cell?_setCell_other _ _ _ _ (fun e => hi (by have := congrArg Addr.off e; simp at this; omega))) ?_ (fun i => by simp))⟩
          rw [World.cell?_setCell_same _ _ _ ck, HV.out, if_pos ⟨by omega, by omega⟩]
          exact congrArg (fun z : Int => some (Value.int .u8 z)) (by omega)
        case measure => simp [intOf]; omega
      all_goals
        go_wp2_with fail
        go_roundw
        case rel =>
          refine ⟨k + 1, by omega, by go_num, HB, hz, Lib.hid (HK1.out _ (fun i hi => rfl) ?_ (fun i => rfl))⟩
          rw [ck, HV.out, if_neg (by omega)]
        case measure => simp [intOf]; omega
    · obtain rfl : k = s.size := by omega
      have hl : (s.data.toList.map lowU).length = s.size := by rw [List.length_map, size_list]
      have hcv := run_convert_bytes_back (P := Tryd.prog) wr 57 9 5 ⟨w.heap.size, 0, none⟩ cap (s.data.toList.map lowU) Tryd.underlying57 Tryd.underlying5 Tryd.underlying9 (fun j hj => by
        rw [hl] at hj
        have := (HC.out j hj).1
        rw [if_pos hj] at this
        rw [add_zero, this]
        simp only [List.getElem_map]
        rfl)
      rw [hl] at hcv
      clear hl
      go_wp2_with fail
      go_ret
      exact ⟨rfl, HB.out⟩

/-- How many words: the longest runs of their bytes. -/
def runsF : Nat → List UInt8 → Nat
  | 0, _ => 0
  | f + 1, l => if (l.dropWhile fun c => wordI c.toNat).length < l.length then 1 + runsF f ((l.dropWhile fun c => wordI c.toNat).drop 1) else runsF f ((l.dropWhile fun c => wordI c.toNat).drop 1)
theorem runsF_nil : ∀ f, runsF f [] = 0
  | 0 => rfl
  | f + 1 => by unfold runsF; simp; exact runsF_nil f
theorem drop_cons (s : ByteArray) (j : Nat) (h : j < s.size) : s.data.toList.drop j = s[j] :: s.data.toList.drop (j + 1) := by
  have := List.drop_eq_getElem_cons (l := s.data.toList) (i := j) (by rw [size_list]; exact h)
  exact this
theorem dropWhile_yes (s : ByteArray) (j : Nat) (h : j < s.size) (hw : wordI s[j].toNat = true) : (s.data.toList.drop j).dropWhile (fun c => wordI c.toNat) = (s.data.toList.drop (j + 1)).dropWhile (fun c => wordI c.toNat) := by
  rw [drop_cons s j h, List.dropWhile_cons_of_pos (by simpa using hw)]
theorem dropWhile_no (s : ByteArray) (j : Nat) (h : j < s.size) (hw : wordI s[j].toNat = false) : (s.data.toList.drop j).dropWhile (fun c => wordI c.toNat) = s.data.toList.drop j := by
  rw [drop_cons s j h, List.dropWhile_cons_of_neg (by simp [hw])]
theorem dropWhile_end (s : ByteArray) (j : Nat) (h : ¬ j < s.size) : (s.data.toList.drop j).dropWhile (fun c => wordI c.toNat) = s.data.toList.drop j := by
  rw [List.drop_of_length_le (by rw [size_list]; omega)]; rfl
theorem infoP : (Tryd.prog.info? 104).map (fun i => (i.zero, i.size, i.bytes)) = some (some (.agg #[.string ⟨#[]⟩, .int .i64 0, .int .i64 0, .int .i64 0]), 4, 40) := by kernel_rfl
theorem grown_below {w w' : World} {row : Option Nat} {C : Nat} (h : w.grownBy w' row) (hr : ∀ g, row = some g → C ≤ g) (hC : C ≤ w.heap.size) : Below C w w' :=
  ⟨h.os, h.tape, h.output, h.size, fun i hi => h.block i (by omega) (fun e => by have := hr i e.symm; omega)⟩
theorem own_below {w w' : World} {base E S n : Nat} {v : Value} {xs : List Value} (h : w.ownsRow base E S v n xs) (hb : Below w.heap.size w w') : w'.ownsRow base E S v n xs :=
  h.kept (row := none) ⟨hb.os, hb.tape, hb.output, hb.size, fun k hk _ => hb.block k hk⟩ (by
    rcases hh : v.ownBlock with _ | g
    · exact Or.inl rfl
    · exact Or.inr (by simp))

theorem runs_step (s : ByteArray) (k j g : Nat) (hkj : k ≤ j) (hj : j ≤ s.size) (D : (s.data.toList.drop k).dropWhile (fun c => wordI c.toNat) = s.data.toList.drop j) :
    runsF (g + 1) (s.data.toList.drop k) = (if k < j then 1 else 0) + runsF g (s.data.toList.drop (j + 1)) := by
  have e0 : runsF (g + 1) (s.data.toList.drop k) = if ((s.data.toList.drop k).dropWhile fun c => wordI c.toNat).length < (s.data.toList.drop k).length then 1 + runsF g (((s.data.toList.drop k).dropWhile fun c => wordI c.toNat).drop 1) else runsF g (((s.data.toList.drop k).dropWhile fun c => wordI c.toNat).drop 1) := rfl
  rw [e0, D, List.drop_drop]
  have e1 : (s.data.toList.drop j).length = s.size - j := by rw [List.length_drop, size_list]
  have e2 : (s.data.toList.drop k).length = s.size - k := by rw [List.length_drop, size_list]
  rw [e1, e2]
  by_cases h : k < j
  · rw [if_pos (by omega), if_pos h]
  · rw [if_neg (by omega), if_neg h, Nat.zero_add]

set_option maxRecDepth 100000 in
set_option maxHeartbeats 8000000 in
theorem placed_any (s : ByteArray) (w : World) (hs : s.size ≤ 1000000) :
    Calls Tryd.prog 49 #[.string s] w fun e w' => ∃ (A : Option Addr) (cap : Nat), e = .returned (.slice A (runsF (s.size + 1) s.data.toList) cap) ∧ Below w.heap.size w w' := by
  obtain ⟨N, hN⟩ : ∃ N, runsF (s.size + 1) s.data.toList = N := ⟨_, rfl⟩
  rw [hN]
  have HN := Lib.hid hN; clear hN
  obtain ⟨i0, hi0, hz0, hz1, hz2⟩ := info_parts infoP
  have HI := Lib.hid hi0
  have Z0 := Lib.hid hz0; have Z1 := Lib.hid hz1; have Z2 := Lib.hid hz2
  clear hi0 hz0 hz1 hz2
  go_enter Tryd.func49, Tryd.ntmps49
  go_wp2_with fail
  go_loopw [3, 4, 5] (fun v3 v4 v5 wr => ∃ (k ln n f : Nat) (A : Option Addr) (cap : Nat) (xs : List Value), v5 = .int .i64 k ∧ v4 = .int .i64 ln ∧ v3 = .slice A n cap ∧ k ≤ s.size + 1 ∧ ln ≤ k ∧ n ≤ k ∧ s.size + 1 ≤ k + f ∧
      Hid (wr.ownsRow w.heap.size 104 4 (.slice A n cap) n xs) ∧ Hid (n + runsF f (s.data.toList.drop k) = N) ∧ Hid (Below w.heap.size w wr)) (fun _ _ v5 _ => s.size + 1 - (intOf v5).toNat)
  case atStart => exact ⟨0, 0, 0, s.size + 1, none, 0, [], rfl, rfl, rfl, by omega, by omega, by omega, by omega, Lib.hid (World.ownsRow_nil _ _ _ _), Lib.hid (by rw [← HN.out]; simp), Lib.hid (Below.refl _ _)⟩
  case round =>
    obtain ⟨k, ln, n, f, A, cap, xs, rfl, rfl, rfl, hk, hln, hnk, hf, HO, HR, HB⟩ := hrel
    by_cases hlt : k < s.size
    · obtain ⟨f, rfl⟩ : ∃ g, f = g + 1 := ⟨f - 1, by omega⟩
      go_wp2_with fail
      go_loop [6] (fun v6 => ∃ j : Nat, v6 = .int .i64 j ∧ k ≤ j ∧ j ≤ s.size ∧ Hid ((s.data.toList.drop k).dropWhile (fun c => wordI c.toNat) = (s.data.toList.drop j).dropWhile (fun c => wordI c.toNat))) (fun v6 => s.size - (intOf v6).toNat)
      case atStart => exact ⟨k, rfl, by omega, by omega, Lib.hid rfl⟩
      case round =>
        obtain ⟨j, rfl, hkj, hjs, HD⟩ := hrel
        by_cases hj : j < s.size
        · have hbj := s[j].toNat_lt
          have hjz : (j : Int) < (s.size : Int) := by omega
          have H1 : Hid (wordI s[j].toNat = true → (s.data.toList.drop k).dropWhile (fun c => wordI c.toNat) = (s.data.toList.drop (j + 1)).dropWhile (fun c => wordI c.toNat)) := Lib.hid fun h => HD.out.trans (dropWhile_yes s j hj h)
          have H2 : Hid (wordI s[j].toNat = false → (s.data.toList.drop k).dropWhile (fun c => wordI c.toNat) = s.data.toList.drop j) := Lib.hid fun h => HD.out.trans (dropWhile_no s j hj h)
          obtain ⟨b, hb⟩ : ∃ b, wordI s[j].toNat = b := ⟨_, rfl⟩
          have HW := Lib.hid hb
          clear hb HD
          cases b
          · have hD := H2.out HW.out
            have hstep := runs_step s k j f hkj hjs hD
            have HS := Lib.hid (show n + ((if k < j then 1 else 0) + runsF f (s.data.toList.drop (j + 1))) = N by rw [← hstep]; exact HR.out)
            clear hD hstep H1 H2 HR HN
            cases hnl : ((s[j].toNat : Int) == 10) <;> by_cases hkj' : k < j
            all_goals
              go_wp2_with (first | (go_at_call 68; (refine (ofWord_any _ _ (by omega) (by omega)).mono ?_); rintro e w' ⟨rfl, rfl⟩; rw [HW.out]) | (go_at_call 69; (refine (lower_any _ _ (by simp; omega)).mono ?_); rintro e w1 ⟨rfl, hb⟩; generalize lowS _ = r; (have O1 := Lib.hid (own_below HO.out (hb.mono (Nat.le_refl _)))); (have HB1 := Lib.hid (HB.out.trans (hb.mono HB.out.size))); (have hz1 := HB1.out.size); clear hb) | (at_builtin; (refine wpList_append_lies _ rfl _ _ _ rfl w.heap.size 104 i0 _ 4 40 Tryd.underlying75 HI.out Z0.out Z1.out Z2.out rfl (by omega) (.slice A n cap) n xs rfl (O1.out.alloc _) ⟨w1.heap.size, 0, none⟩ 1 1 [.string r, .int .i64 ln, .int .i64 k, .int .i64 (j : Nat)] rfl rfl (World.news_of_block (cs := #[.string r, .int .i64 ln, .int .i64 k, .int .i64 (j : Nat)]) (t := 104) (fr := (0, 0)) (heap_alloc_new w1 _)) (by simp [Value.oneCell']) (by omega) (by unfold maxLen; omega) (by omega) (by simp; omega) (w1.heap.size + 1) (by simp) ?_); intro gg cap' w2 hown hgrow hat hgl; (have O2 := Lib.hid hown); (have HB2 := Lib.hid ((HB1.out.alloc hz1 (.cells #[.string r, .int .i64 ln, .int .i64 k, .int .i64 (j : Nat)] 104)).trans (grown_below hgrow (fun g e => (O1.out.lt g e).1) (by simp; omega)))); clear hown hgrow hat))
              go_roundw
              case rel => first | exact ⟨j + 1, ln, n + 1, f, _, _, _, by go_num, rfl, rfl, by omega, by omega, by omega, by omega, O2, Lib.hid (by have := HS.out; rw [if_pos hkj'] at this; omega), HB2⟩ | exact ⟨j + 1, ln + 1, n + 1, f, _, _, _, by go_num, by go_num, rfl, by omega, by omega, by omega, by omega, O2, Lib.hid (by have := HS.out; rw [if_pos hkj'] at this; omega), HB2⟩ | exact ⟨j + 1, ln, n, f, _, _, _, by go_num, rfl, rfl, by omega, by omega, by omega, by omega, HO, Lib.hid (by have := HS.out; rw [if_neg hkj'] at this; omega), HB⟩ | exact ⟨j + 1, ln + 1, n, f, _, _, _, by go_num, by go_num, rfl, by omega, by omega, by omega, by omega, HO, Lib.hid (by have := HS.out; rw [if_neg hkj'] at this; omega), HB⟩
              case measure => simp [intOf]; omega
          · go_wp2_with (go_at_call 68; (refine (ofWord_any _ _ (by omega) (by omega)).mono ?_); rintro e w' ⟨rfl, rfl⟩; rw [HW.out])
            go_round
            case rel => exact ⟨j + 1, by go_num, by omega, by omega, Lib.hid ((H1.out HW.out).trans rfl)⟩
            case measure => simp [intOf]; omega
        · obtain rfl : j = s.size := by omega
          have hD := HD.out.trans (dropWhile_end s s.size hj)
          have hstep := runs_step s k s.size f hkj (Nat.le_refl _) hD
          have HS := Lib.hid (show n + ((if k < s.size then 1 else 0) + runsF f (s.data.toList.drop (s.size + 1))) = N by rw [← hstep]; exact HR.out)
          clear hD hstep HR HN HD
          go_wp2_with (first | (go_at_call 68; (refine (ofWord_any _ _ (by omega) (by omega)).mono ?_); rintro e w' ⟨rfl, rfl⟩; rw [HW.out]) | (go_at_call 69; (refine (lower_any _ _ (by simp; omega)).mono ?_); rintro e w1 ⟨rfl, hb⟩; generalize lowS _ = r; (have O1 := Lib.hid (own_below HO.out (hb.mono (Nat.le_refl _)))); (have HB1 := Lib.hid (HB.out.trans (hb.mono HB.out.size))); (have hz1 := HB1.out.size); clear hb) | (at_builtin; (refine wpList_append_lies _ rfl _ _ _ rfl w.heap.size 104 i0 _ 4 40 Tryd.underlying75 HI.out Z0.out Z1.out Z2.out rfl (by omega) (.slice A n cap) n xs rfl (O1.out.alloc _) ⟨w1.heap.size, 0, none⟩ 1 1 [.string r, .int .i64 ln, .int .i64 k, .int .i64 (s.size : Nat)] rfl rfl (World.news_of_block (cs := #[.string r, .int .i64 ln, .int .i64 k, .int .i64 (s.size : Nat)]) (t := 104) (fr := (0, 0)) (heap_alloc_new w1 _)) (by simp [Value.oneCell']) (by omega) (by unfold maxLen; omega) (by omega) (by simp; omega) (w1.heap.size + 1) (by simp) ?_); intro gg cap' w2 hown hgrow hat hgl; (have O2 := Lib.hid hown); (have HB2 := Lib.hid ((HB1.out.alloc hz1 (.cells #[.string r, .int .i64 ln, .int .i64 k, .int .i64 (s.size : Nat)] 104)).trans (grown_below hgrow (fun g e => (O1.out.lt g e).1) (by simp; omega)))); clear hown hgrow hat))
          go_roundw
          case rel => exact ⟨s.size + 1, ln, n + 1, f, _, _, _, by go_num, rfl, rfl, by omega, by omega, by omega, by omega, O2, Lib.hid (by have := HS.out; rw [if_pos hlt] at this; omega), HB2⟩
          case measure => simp [intOf]; omega
    · have hd : s.data.toList.drop k = [] := List.drop_of_length_le (by rw [size_list]; omega)
      have hnn : n = N := by have := HR.out; rw [hd, runsF_nil] at this; omega
      clear hd HR HN
      subst hnn
      go_wp2_with fail
      go_ret
      exact ⟨_, _, rfl, HB.out⟩
end Go.Proofs.YtanoojmgjinmfaaDoor.Key
