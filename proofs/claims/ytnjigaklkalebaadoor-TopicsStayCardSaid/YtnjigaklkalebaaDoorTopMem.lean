/-
  FORESTS IN MEMORY: lists of topics, lists of numbers; the contracts of checkTopics, hasLoop and Path.
-/
import Derived.Test.YtnjigaklkalebaaDoorForTop
import Derived.Test.YtnjigaklkalebaaDoorBlk
import Derived.Laws.Cover1
import Derived.Deep.AppendLies
import Derived.OwnWalk
namespace Go.Proofs.YtnjigaklkalebaaDoor.For
open Go.ChangeShapes Go.WideShapes Go.ChangeAt Go.RowKit Stm Key
set_option linter.unusedVariables false

/-- A slice's cells are these topics. -/
def TL (w : World) (A : Option Addr) (l : List Tp) : Prop :=
  (∀ x ∈ l, x.k.size ≤ 1000 ∧ x.a.size ≤ 1000) ∧ (0 < l.length → ∃ b, A = some ⟨b, 0, none⟩ ∧ b < w.heap.size ∧ ∀ (i : Nat) (h : i < l.length), w.cell? ⟨b, i * 2, none⟩ = some (.string l[i].k) ∧ w.cell? ⟨b, i * 2 + 1, none⟩ = some (.string l[i].a))
theorem TL.below {w w' : World} {A : Option Addr} {l : List Tp} (h : TL w A l) (hb : Below w.heap.size w w') : TL w' A l :=
  ⟨h.1, fun h0 => by
    obtain ⟨b, hA, hlt, hc⟩ := h.2 h0
    exact ⟨b, hA, Nat.lt_of_lt_of_le hlt hb.size, fun i hi => ⟨(hb.cell (p := ⟨b, i * 2, none⟩) hlt).trans (hc i hi).1, (hb.cell (p := ⟨b, i * 2 + 1, none⟩) hlt).trans (hc i hi).2⟩⟩⟩
/-- A slice's cells are these numbers. -/
def IL (w : World) (A : Option Addr) (L : List Int) : Prop := 0 < L.length → ∃ b, A = some ⟨b, 0, none⟩ ∧ b < w.heap.size ∧ ∀ (i : Nat) (h : i < L.length), w.cell? ⟨b, i, none⟩ = some (.int .i64 L[i])
theorem IL.below {w w' : World} {A : Option Addr} {L : List Int} (h : IL w A L) (hb : Below w.heap.size w w') : IL w' A L := fun h0 => by
  obtain ⟨b, hA, hlt, hc⟩ := h h0
  exact ⟨b, hA, Nat.lt_of_lt_of_le hlt hb.size, fun i hi => (hb.cell (p := ⟨b, i, none⟩) hlt).trans (hc i hi)⟩

theorem topicE_cases (x : Tp) (last : ByteArray) (r : Int) (h : topicE x last = r) :
    (keyL x.k.data.toList = false ∧ r = 5) ∨ (keyL x.k.data.toList = true ∧ x.a.toList.isEmpty = false ∧ keyL x.a.data.toList = false ∧ r = 5) ∨
    (keyL x.k.data.toList = true ∧ x.a.toList.isEmpty = true ∧ r = if leB x.k last then 7 else 0) ∨ (keyL x.k.data.toList = true ∧ x.a.toList.isEmpty = false ∧ keyL x.a.data.toList = true ∧ r = if leB x.k last then 7 else 0) := by
  unfold topicE at h
  cases h1 : keyL x.k.data.toList <;> cases h2 : x.a.toList.isEmpty <;> cases h3 : keyL x.a.data.toList <;> rw [h1, h2, h3] at h <;> simp at h <;> simp [h.symm]

set_option maxHeartbeats 4000000 in
theorem topics_walk (A : Option Addr) (n cap : Nat) (l : List Tp) (w : World) (hn : l.length = n) (hn2 : n ≤ 1000) (hS : TL w A l) (r : Int) (hr : Hid ((if 100 < n then 2 else topicsE ⟨#[]⟩ l) = r)) :
    Calls Tryd.prog 46 #[.slice A n cap] w fun e w' => e = .returned (.int .i64 r) ∧ Below w.heap.size w w' := by
  have HS := Lib.hid hS
  have HL := Lib.hid hn
  clear hS hn
  obtain ⟨z1, hz1⟩ : ∃ b, decide ((n : Int) > 100) = b := ⟨_, rfl⟩
  cases z1
  case true =>
    have h4 : 100 < n := by have := of_decide_eq_true hz1; omega
    have HR : Hid (2 = r) := Lib.hid (by have := hr.out; rwa [if_pos h4] at this)
    clear hr
    go_enter Tryd.func46, Tryd.ntmps46
    go_wp2_with fail
    go_ret; exact ⟨Stm.ret_int HR.out, Below.refl _ _⟩
  have h4 : ¬ 100 < n := by have := of_decide_eq_false hz1; omega
  have HR : Hid (topicsE ⟨#[]⟩ l = r) := Lib.hid (by have := hr.out; rwa [if_neg h4] at this)
  clear hr
  go_enter Tryd.func46, Tryd.ntmps46
  go_wp2_with fail
  go_loopw [3, 11] (fun s i wr => ∃ (k : Nat) (y : ByteArray), k ≤ n ∧ i = .int .i64 k ∧ s = .string y ∧ Hid (topicsE y (l.drop k) = r) ∧ Hid (Below w.heap.size w wr)) (fun _ i _ => n - (intOf i).toNat)
  case atStart => exact ⟨0, ⟨#[]⟩, Nat.zero_le _, rfl, rfl, HR, Lib.hid (Below.refl _ _)⟩
  case round =>
    obtain ⟨k, y, hk, rfl, rfl, HK, HBW⟩ := hrel
    by_cases hlt : k < n
    · obtain ⟨hok, hcells⟩ := HS.out
      have hkl : k < l.length := by have := HL.out; omega
      obtain ⟨b, hA, hbl, hc⟩ := hcells (by omega)
      obtain ⟨hsz1, hsz2⟩ := hok l[k] (List.getElem_mem hkl)
      obtain ⟨d0, d1⟩ := hc k hkl
      have c0 := (HBW.out.cell (p := ⟨b, k * 2, none⟩) hbl).trans d0
      have c1 := (HBW.out.cell (p := ⟨b, k * 2 + 1, none⟩) hbl).trans d1
      have HQ2 := HK.out
      rw [drop_step l k hkl] at HQ2
      unfold topicsE at HQ2
      generalize l[k] = x at *
      subst hA
      have hB1 := HBW.out.alloc HBW.out.size (.cells #[.string x.k, .string x.a] 38)
      have HB1 := Lib.hid hB1
      have HKC := Lib.hid (fun (s : ByteArray) (hs : s.size ≤ 1000) (W : World) => key_any s W (by omega))
      obtain ⟨f, hf⟩ : ∃ f, topicE x y = f := ⟨_, rfl⟩
      have hcs := topicE_cases x y f hf
      rw [hf] at HQ2
      have HQ := Lib.hid HQ2
      clear HQ2 hok hcells hc HK d0 d1 hf hB1
      rcases hcs with ⟨k1, rfl⟩ | ⟨k1, k2, k3, rfl⟩ | ⟨k1, k2, hf⟩ | ⟨k1, k2, k3, hf⟩
      · have K1 := Lib.hid k1
        have HE : Hid ((5 : Int) = r) := Lib.hid (by have := HQ.out; simpa using this)
        clear k1 HQ
        go_wp2_with (go_at_call 57; (refine (HKC.out _ (by omega) _).mono ?_); rintro e w2 ⟨rfl, rfl⟩; rw [K1.out])
        go_ret; exact ⟨Stm.ret_int HE.out, HB1.out⟩
      · have K1 := Lib.hid k1
        have K3 := Lib.hid k3
        have HE : Hid ((5 : Int) = r) := Lib.hid (by have := HQ.out; simpa using this)
        clear k1 k3 HQ
        go_wp2_with (first | (go_at_call 57; (with_reducible refine (HKC.out x.k (by omega) _).mono ?_); rintro e w2 ⟨rfl, rfl⟩; rw [K1.out]) | (go_at_call 57; (with_reducible refine (HKC.out x.a (by omega) _).mono ?_); rintro e w2 ⟨rfl, rfl⟩; rw [K3.out]))
        go_ret; exact ⟨Stm.ret_int HE.out, HB1.out⟩
      · have K1 := Lib.hid k1
        have HF := Lib.hid hf
        unfold leB at HF
        clear k1 hf
        cases h7 : Op.bytesLess x.k.toList y.toList <;> cases h8 : (x.k.toList == y.toList)
        all_goals
          rw [h7, h8] at HF
          have hl := HF.out
          simp only [Bool.or_false, Bool.or_true, Bool.false_eq_true, if_true, if_false] at hl
          subst hl
          have HQ3 := HQ.out
          go_wp2_with (go_at_call 57; (refine (HKC.out _ (by omega) _).mono ?_); rintro e w2 ⟨rfl, rfl⟩; rw [K1.out])
          first
            | (go_roundw
               case rel => exact ⟨k + 1, x.k, by omega, by go_num, rfl, Lib.hid (by have := HQ.out; simpa using this), HB1⟩
               case measure => simp [intOf]; omega)
            | (go_ret; exact ⟨Stm.ret_int (by have := HQ.out; simpa using this), HB1.out⟩)
      · have K1 := Lib.hid k1
        have K3 := Lib.hid k3
        have HF := Lib.hid hf
        unfold leB at HF
        clear k1 k3 hf
        cases h7 : Op.bytesLess x.k.toList y.toList <;> cases h8 : (x.k.toList == y.toList)
        all_goals
          rw [h7, h8] at HF
          have hl := HF.out
          simp only [Bool.or_false, Bool.or_true, Bool.false_eq_true, if_true, if_false] at hl
          subst hl
          go_wp2_with (first | (go_at_call 57; (with_reducible refine (HKC.out x.k (by omega) _).mono ?_); rintro e w2 ⟨rfl, rfl⟩; rw [K1.out]) | (go_at_call 57; (with_reducible refine (HKC.out x.a (by omega) _).mono ?_); rintro e w2 ⟨rfl, rfl⟩; rw [K3.out]))
          first
            | (go_roundw
               case rel => exact ⟨k + 1, x.k, by omega, by go_num, rfl, Lib.hid (by have := HQ.out; simpa using this), HB1⟩
               case measure => simp [intOf]; omega)
            | (go_ret; exact ⟨Stm.ret_int (by have := HQ.out; simpa using this), HB1.out⟩)
    · have HE : Hid (0 = r) := Lib.hid (by have := HK.out; rw [List.drop_of_length_le (by have := HL.out; omega)] at this; exact this)
      clear HK
      go_wp2_with fail
      go_ret; exact ⟨Stm.ret_int HE.out, HBW.out⟩
end Go.Proofs.YtnjigaklkalebaaDoor.For
