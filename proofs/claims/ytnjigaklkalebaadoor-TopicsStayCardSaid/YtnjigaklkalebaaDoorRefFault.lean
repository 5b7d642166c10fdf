/-
  THE CONTRACT OF THE REFERENCE'S ForestFault.
-/
import Derived.Test.YtnjigaklkalebaaDoorRefTop
import Derived.Test.YtnjigaklkalebaaDoorRefKeys
import Derived.Deep.RegionHeld3
namespace Go.Proofs.YtnjigaklkalebaaDoor.For
open Go.ChangeShapes Go.WideShapes Go.ChangeAt Go.RowKit Stm Key
set_option linter.unusedVariables false

def prevK (l : List Tp) : Nat → ByteArray
  | 0 => ⟨#[]⟩
  | k + 1 => (l.getD k ⟨⟨#[]⟩, ⟨#[]⟩⟩).k
theorem prevK_next {l : List Tp} {k : Nat} (h : k < l.length) : prevK l (k + 1) = l[k].k := by simp [prevK, List.getD, List.getElem?_eq_getElem h]
def missR (l : List Tp) (x : Tp) : Bool := !x.a.toList.isEmpty && (topOf l x.a).isNone
def loopR (l : List Tp) (x : Tp) : Bool := has (abv l (l.length + 1) x.k).tail x.k
def bigR (l : List Tp) (x : Tp) : Bool := decide (5 < (abv l (l.length + 1) x.k).length)
theorem forestR_eq (l : List Tp) : forestR l = if 100 < l.length then 2 else if topicsE ⟨#[]⟩ l ≠ 0 then topicsE ⟨#[]⟩ l else if l.any (missR l) then 8 else if l.any (loopR l) then 14 else if l.any (bigR l) then 2 else 0 := rfl
theorem any_hit {α : Type} {l : List α} {p : α → Bool} {k : Nat} (h : k < l.length) (hp : p l[k] = true) : l.any p = true := List.any_eq_true.2 ⟨l[k], List.getElem_mem h, hp⟩
theorem any_miss {α : Type} {l : List α} {p : α → Bool} (h : ∀ (j : Nat) (hj : j < l.length), p l[j] = false) : l.any p = false := List.any_eq_false.2 (fun x hx => by
  obtain ⟨j, hj, rfl⟩ := List.getElem_of_mem hx
  rw [h j hj]; simp)
theorem lex_empty (x : ByteArray) (h : keyL x.data.toList = true) : leB x ⟨#[]⟩ = false := by
  unfold leB
  rw [Lib.toList_data, Lib.toList_data]
  cases hx : x.data.toList with
  | nil => rw [hx] at h; cases h
  | cons a l => rfl
/-- What an index's own block and the rest look like. -/
def RF (w : World) (wr : World) (b : Nat) (x : Tp) (v : World) : Prop := Below w.heap.size w v ∧ Below wr.heap.size wr v ∧ Blk v b 38 #[.string x.k, .string x.a]
theorem RF.below {w wr v v' : World} {b : Nat} {x : Tp} (h : RF w wr b x v) (hb : Below v.heap.size v v') : RF w wr b x v' := ⟨h.1.trans (hb.mono h.1.size), h.2.1.trans (hb.mono h.2.1.size), h.2.2.below hb h.2.2.lt⟩
theorem RF.drewN {w wr v : World} {b : Nat} {x : Tp} (h : RF w wr b x v) (m : Nat) : RF w wr b x (v.drewN m) := h.below (Stm.Below.drewN (Below.refl _ _) _)
theorem RF.start {w wr : World} (x : Tp) (h : Below w.heap.size w wr) : RF w wr wr.heap.size x (wr.alloc (.cells #[.string x.k, .string x.a] 38)) := ⟨h.alloc h.size _, (Below.refl _ _).alloc (Nat.le_refl _) _, Blk.new wr _ _⟩
theorem RF.c0 {w wr v : World} {b : Nat} {x : Tp} (h : RF w wr b x v) : v.cell? ⟨b, 0, none⟩ = some (.string x.k) := h.2.2.cell 0 _ rfl
theorem RF.c1 {w wr v : World} {b : Nat} {x : Tp} (h : RF w wr b x v) : v.cell? ⟨b, 1, none⟩ = some (.string x.a) := h.2.2.cell 1 _ rfl

theorem has_flip (ss : List ByteArray) (s : ByteArray) (m : Nat) (hm : ss.length = m) : ((ss.take m).any fun y => s.toList == y.toList) = has ss s := by
  rw [← hm, List.take_length]; unfold has eqB
  congr 1; funext y
  rw [Bool.eq_iff_iff, beq_iff_eq, beq_iff_eq]; exact eq_comm
/-- Contains, over a list of strings that lies in memory. -/
theorem hasS_walk (A : Option Addr) (c : Nat) (ss : List ByteArray) (s : ByteArray) (w : World) (hS : SL w A ss) (hl : ss.length ≤ 1000) :
    Calls Tryd.prog 30 #[.slice A ss.length c, .string s] w fun e w' => e = .returned (.bool (has ss s)) ∧ w' = w := by
  by_cases h0 : ss.length = 0
  · have : ss = [] := List.length_eq_zero_iff.1 h0
    subst this
    exact AnyE.slices_Contains_empty Tryd.laysSlE31_f30 A c (.string s) w
  · obtain ⟨b, hA, hbl, hc⟩ := hS.2 (by omega)
    subst hA
    have h := AnyE.slices_Contains (α := ByteArray) Tryd.laysSlE31_f30 Value.string (fun x y => x.toList == y.toList) (EqlAt.string _ _) b 0 ss.length c ss s w (Nat.le_refl _) (by omega) (fun j hj => by
      rw [Nat.zero_add, getElem!_pos ss j hj]; exact hc j hj)
    rw [has_flip ss s _ rfl] at h
    exact h
/-- The same, over a list without its first element. -/
theorem hasT_walk (A2 A3 : Option Addr) (c3 : Nat) (ss : List ByteArray) (s : ByteArray) (w : World) (hS : SL w A2 ss) (hm1 : 1 ≤ ss.length) (hl : ss.length ≤ 1001) (h3 : ∀ g, A2 = some ⟨g, 0, none⟩ → 2 ≤ ss.length → A3 = some ⟨g, 1, none⟩) :
    Calls Tryd.prog 30 #[.slice A3 (ss.length - 1) c3, .string s] w fun e w' => e = .returned (.bool (has ss.tail s)) ∧ w' = w := by
  have htl : ss.tail.length = ss.length - 1 := by simp
  by_cases h0 : ss.length = 1
  · have : ss.tail = [] := List.length_eq_zero_iff.1 (by omega)
    rw [this, h0]
    exact AnyE.slices_Contains_empty Tryd.laysSlE31_f30 A3 c3 (.string s) w
  · obtain ⟨g, hA, hbl, hc⟩ := hS.2 (by omega)
    rw [h3 g hA (by omega)]
    have h := AnyE.slices_Contains (α := ByteArray) Tryd.laysSlE31_f30 Value.string (fun x y => x.toList == y.toList) (EqlAt.string _ _) g 1 (ss.length - 1) c3 ss.tail s w (by omega) (by omega) (fun j hj => by
      have hjt : j < ss.tail.length := by omega
      rw [getElem!_pos ss.tail j hjt, List.getElem_tail, Nat.add_comm 1 j]; exact hc (j + 1) (by omega))
    rw [has_flip ss.tail s _ htl] at h
    exact h
theorem tail_slice (A : Option Addr) (m c : Nat) (hm : 1 ≤ m) (hmc : m ≤ c) : ∃ A3 : Option Addr, (∀ W : World, (Instr.slice 39 (.slice A m c) (some (.int .i64 1)) none none).run Tryd.prog W = .ok (.slice A3 (m - 1) (c - 1)) W) ∧ ∀ g, A = some ⟨g, 0, none⟩ → 2 ≤ m → A3 = some ⟨g, 1, none⟩ := by
  refine ⟨if c = 1 then A else A.map (·.add (1 * 1)), fun W => ?_, fun g hA h2 => ?_⟩
  · rw [run_slice_l (P := Tryd.prog) W 39 A m c (by kernel_rfl) .i64 1 (by omega) (by omega)]
    have hs : (sizeOf (Tryd.prog.elem 39)).run Tryd.prog W = .ok 1 W := by kernel_rfl
    rw [hs]
    rfl
  · rw [if_neg (by omega), hA]
    show some ((⟨g, 0, none⟩ : Addr).add 1) = _
    rw [row_add]
theorem abv_head {l : List Tp} (n k : Nat) (hk : k < l.length) : 1 ≤ (abv l (n + 1) l[k].k).length := by
  show 1 ≤ (match topOf l l[k].k with | none => [] | some t => l[k].k :: abv l n t.a).length
  cases h : topOf l l[k].k with
  | none => have := List.find?_eq_none.1 h l[k] (List.getElem_mem hk); simp [eqB_self] at this
  | some t => simp
theorem abv_len (l : List Tp) : ∀ (f : Nat) (s : ByteArray), (abv l f s).length ≤ f
  | 0, s => Nat.le_refl _
  | f + 1, s => by
    show (match topOf l s with | none => [] | some t => s :: abv l f t.a).length ≤ f + 1
    cases topOf l s with
    | none => simp
    | some t => simp; exact abv_len l f _

set_option maxRecDepth 100000 in
set_option maxHeartbeats 16000000 in
theorem fault_walk (A : Option Addr) (n cap : Nat) (l : List Tp) (w : World) (hn : l.length = n) (hn2 : n ≤ 1000) (hnc : n ≤ cap) (hS : TL w A l) (r : Int) (hr : Hid (forestR l = r)) :
    Calls Tryd.prog 17 #[.slice A n cap] w fun e w' => e = .returned (.int .i64 r) ∧ Below w.heap.size w w' := by
  have HS := Lib.hid hS
  have HL := Lib.hid hn
  have hr2 := hr.out
  rw [forestR_eq, hn] at hr2
  clear hS hn hr
  obtain ⟨z1, hz1⟩ : ∃ b, decide ((n : Int) > 100) = b := ⟨_, rfl⟩
  cases z1
  case true =>
    have h4 : 100 < n := by have := of_decide_eq_true hz1; omega
    have HR : Hid (2 = r) := Lib.hid (by rwa [if_pos h4] at hr2)
    clear hr2
    go_enter Tryd.func17, Tryd.ntmps17
    go_wp2_with fail
    go_ret; exact ⟨Stm.ret_int HR.out, Below.refl _ _⟩
  have h4 : ¬ 100 < n := by have := of_decide_eq_false hz1; omega
  rw [if_neg h4] at hr2
  obtain ⟨r1, hr1⟩ : ∃ r1, topicsE ⟨#[]⟩ l = r1 := ⟨_, rfl⟩
  rw [hr1] at hr2
  have HR1 := Lib.hid hr1
  have HR2 := Lib.hid hr2
  have HKC := Lib.hid (fun (s : ByteArray) (hs : s.size ≤ 1000) (W : World) => keyOf_any s W (by omega))
  clear hr2 hr1
  go_enter Tryd.func17, Tryd.ntmps17
  go_wp2_with fail
  go_loopw [16] (fun i wr => ∃ k : Nat, k ≤ n ∧ i = .int .i64 k ∧ Hid (topicsE (prevK l k) (l.drop k) = r1) ∧ Hid (Below w.heap.size w wr)) (fun i _ => n - (intOf i).toNat)
  case atStart => exact ⟨0, Nat.zero_le _, rfl, HR1, Lib.hid (Below.refl _ _)⟩
  case round =>
    obtain ⟨k, hk, rfl, HK, HB⟩ := hrel
    by_cases hlt : k < n
    · obtain ⟨hok, hcells⟩ := HS.out
      have hkl : k < l.length := by have := HL.out; omega
      obtain ⟨bl, hA, hbl, hc⟩ := hcells (by omega)
      obtain ⟨hsz1, hsz2⟩ := hok l[k] (List.getElem_mem hkl)
      have c0 := (HB.out.cell (p := ⟨bl, k * 2, none⟩) hbl).trans (hc k hkl).1
      have c1 := (HB.out.cell (p := ⟨bl, k * 2 + 1, none⟩) hbl).trans (hc k hkl).2
      have HQ2 := HK.out
      rw [drop_step l k hkl] at HQ2
      unfold topicsE at HQ2
      have HPN := Lib.hid (prevK_next hkl)
      have HPREV : Hid (k = 0 ∨ ∃ j, k = j + 1 ∧ ∀ W, Below w.heap.size w W → W.cell? ⟨bl, j * 2, none⟩ = some (.string (prevK l k))) := Lib.hid (by
        cases k with
        | zero => exact Or.inl rfl
        | succ j => exact Or.inr ⟨j, rfl, fun W hW => by rw [prevK_next (by omega)]; exact (hW.cell (p := ⟨bl, j * 2, none⟩) hbl).trans (hc j (by omega)).1⟩)
      have HLE : Hid (k = 0 → keyL l[k].k.data.toList = true → leB l[k].k (prevK l k) = false) := Lib.hid (fun h0 h => by subst h0; exact lex_empty _ h)
      generalize l[k] = x at *
      generalize prevK l k = y at *
      subst hA
      have S0 := Lib.hid (RF.start x HB.out)
      obtain ⟨f, hf⟩ : ∃ f, topicE x y = f := ⟨_, rfl⟩
      have hcs := topicE_cases x y f hf
      rw [hf] at HQ2
      have HQ := Lib.hid HQ2
      have hbw : bl < wr.heap.size := by have := HB.out.size; omega
      clear HQ2 hok hcells hc HK hf HS
      have HE5 : Hid (f = 5 → r = 5) := Lib.hid (fun h => by
        subst h
        have h1 := HQ.out
        have h2 : r1 = 5 := by simpa using h1.symm
        have h3 := HR2.out
        rw [h2] at h3; simpa using h3.symm)
      rcases hcs with ⟨k1, rfl⟩ | ⟨k1, k2, k3, rfl⟩ | ⟨k1, k2, hf⟩ | ⟨k1, k2, k3, hf⟩
      · have K1 := Lib.hid k1
        have HE := Lib.hid (HE5.out rfl)
        clear k1 HQ HLE HPREV
        go_wp2_with fail
        refine (HKC.out x.k (by omega) _).mono ?_; rintro e w2 ⟨rfl, hb⟩; rw [K1.out]
        have S2 := Lib.hid (S0.out.below hb)
        clear hb
        go_wp2_with fail
        go_ret; exact ⟨by rw [HE.out]; try rfl, S2.out.1⟩
      · have K1 := Lib.hid k1
        have K3 := Lib.hid k3
        have HE := Lib.hid (HE5.out rfl)
        clear k1 k3 HQ HLE HPREV
        go_wp2_with fail
        refine (HKC.out x.k (by omega) _).mono ?_; rintro e w2 ⟨rfl, hb⟩; rw [K1.out]
        have S2 := Lib.hid (S0.out.below hb)
        have e1 := S2.out.c1
        clear hb
        go_wp2_with fail
        refine (HKC.out x.a (by omega) _).mono ?_; rintro e w3 ⟨rfl, hb⟩; rw [K3.out]
        have S3 := Lib.hid (S2.out.below hb)
        clear hb e1
        go_wp2_with fail
        go_ret; exact ⟨by rw [HE.out]; try rfl, S3.out.1⟩
      all_goals
        have HF := Lib.hid hf
        have K1 := Lib.hid k1
        have hle0 := fun h0 => HLE.out h0 k1
        have HLE0 := Lib.hid hle0
        clear k1 hf HE5 HLE hle0
        go_wp2_with fail
        refine (HKC.out x.k (by omega) _).mono ?_; rintro e w2 ⟨rfl, hb⟩; rw [K1.out]
        have S2 := Lib.hid (S0.out.below hb)
        have e1 := S2.out.c1
        clear hb
      · have SZ := S2
        have e0 := SZ.out.c0
        clear S2
        rcases HPREV.out with h0 | ⟨j, hj, hjc⟩
        · have hlf := HLE0.out h0
          rw [hlf] at HF
          have hf0 : f = 0 := HF.out
          subst hf0
          have HNX : Hid (topicsE (prevK l (k + 1)) (l.drop (k + 1)) = r1) := Lib.hid (by rw [HPN.out]; have := HQ.out; simpa using this)
          clear HQ HLE0 HPREV HPN hlf HF
          subst h0
          go_wp2_with fail
          go_quiet (fail)
          go_wp2_with fail
          go_roundw
          case rel => exact ⟨1, by omega, rfl, HNX, Lib.hid (SZ.out.drewN _).1⟩
          case measure => simp [intOf]; omega
        · have HJC := Lib.hid hjc
          have HNX : Hid (f = 0 → topicsE (prevK l (k + 1)) (l.drop (k + 1)) = r1) := Lib.hid (fun h => by subst h; rw [HPN.out]; have := HQ.out; simpa using this)
          have HE7 : Hid (f = 7 → r = 7) := Lib.hid (fun h => by
            subst h
            have h1 := HQ.out
            have h2 : r1 = 7 := by simpa using h1.symm
            have h3 := HR2.out
            rw [h2] at h3; simpa using h3.symm)
          clear HQ HLE0 HPREV HPN hjc
          subst hj
          have g1 : (j : Int) + 1 > 0 := by omega
          have g2 : (0 : Int) ≤ (j : Int) := by omega
          have g3 : (j : Int) < (n : Int) := by omega
          have g4 : IntKind.i64.wrap ((j : Int) + 1 - 1) = (j : Int) := by rw [show (j : Int) + 1 - 1 = j by omega]; exact IntWalk.i64_in _ (by omega)
          have e3 := HJC.out _ SZ.out.1
          unfold leB at HF
          cases h7 : Op.bytesLess x.k.toList y.toList <;> cases h8 : (x.k.toList == y.toList)
          all_goals
            rw [h7, h8] at HF
            have hl := HF.out
            simp only [Bool.or_false, Bool.or_true, Bool.false_eq_true, if_true, if_false] at hl
            have HFF := Lib.hid hl
            clear hl HF
            go_wp2_with fail
            go_quiet (fail)
            go_wp2_with fail
            first
              | (go_roundw
                 case rel => exact ⟨j + 1 + 1, by omega, by go_num, Lib.hid (HNX.out HFF.out), Lib.hid (SZ.out.drewN _).1⟩
                 case measure => simp [intOf]; omega)
              | (go_ret; exact ⟨by rw [HE7.out HFF.out]; try rfl, (SZ.out.drewN _).1⟩)
      · have K3 := Lib.hid k3
        clear k3
        go_wp2_with fail
        refine (HKC.out x.a (by omega) _).mono ?_; rintro e w3 ⟨rfl, hb⟩; rw [K3.out]
        have SZ := Lib.hid (S2.out.below hb)
        clear hb e1 S2
        have e0 := SZ.out.c0
        rcases HPREV.out with h0 | ⟨j, hj, hjc⟩
        · have hlf := HLE0.out h0
          rw [hlf] at HF
          have hf0 : f = 0 := HF.out
          subst hf0
          have HNX : Hid (topicsE (prevK l (k + 1)) (l.drop (k + 1)) = r1) := Lib.hid (by rw [HPN.out]; have := HQ.out; simpa using this)
          clear HQ HLE0 HPREV HPN hlf HF
          subst h0
          go_wp2_with fail
          go_quiet (fail)
          go_wp2_with fail
          go_roundw
          case rel => exact ⟨1, by omega, rfl, HNX, Lib.hid (SZ.out.drewN _).1⟩
          case measure => simp [intOf]; omega
        · have HJC := Lib.hid hjc
          have HNX : Hid (f = 0 → topicsE (prevK l (k + 1)) (l.drop (k + 1)) = r1) := Lib.hid (fun h => by subst h; rw [HPN.out]; have := HQ.out; simpa using this)
          have HE7 : Hid (f = 7 → r = 7) := Lib.hid (fun h => by
            subst h
            have h1 := HQ.out
            have h2 : r1 = 7 := by simpa using h1.symm
            have h3 := HR2.out
            rw [h2] at h3; simpa using h3.symm)
          clear HQ HLE0 HPREV HPN hjc
          subst hj
          have g1 : (j : Int) + 1 > 0 := by omega
          have g2 : (0 : Int) ≤ (j : Int) := by omega
          have g3 : (j : Int) < (n : Int) := by omega
          have g4 : IntKind.i64.wrap ((j : Int) + 1 - 1) = (j : Int) := by rw [show (j : Int) + 1 - 1 = j by omega]; exact IntWalk.i64_in _ (by omega)
          have e3 := HJC.out _ SZ.out.1
          unfold leB at HF
          cases h7 : Op.bytesLess x.k.toList y.toList <;> cases h8 : (x.k.toList == y.toList)
          all_goals
            rw [h7, h8] at HF
            have hl := HF.out
            simp only [Bool.or_false, Bool.or_true, Bool.false_eq_true, if_true, if_false] at hl
            have HFF := Lib.hid hl
            clear hl HF
            go_wp2_with fail
            go_quiet (fail)
            go_wp2_with fail
            first
              | (go_roundw
                 case rel => exact ⟨j + 1 + 1, by omega, by go_num, Lib.hid (HNX.out HFF.out), Lib.hid (SZ.out.drewN _).1⟩
                 case measure => simp [intOf]; omega)
              | (go_ret; exact ⟨by rw [HE7.out HFF.out]; try rfl, (SZ.out.drewN _).1⟩)
    · have hkn : k = n := by omega
      subst hkn
      have h0 : r1 = 0 := by have := HK.out; rw [List.drop_of_length_le (by have := HL.out; omega)] at this; exact this.symm
      have HR3 := Lib.hid (show (if l.any (missR l) then (8 : Int) else if l.any (loopR l) then 14 else if l.any (bigR l) then 2 else 0) = r by have := HR2.out; rw [h0] at this; simpa using this)
      clear HK HR2 HR1 h0
      go_wp2_with fail
      go_loopw [52] (fun i wx => ∃ j : Nat, j ≤ k ∧ i = .int .i64 j ∧ Hid (∀ (a : Nat) (ha : a < l.length), a < j → missR l l[a] = false) ∧ Hid (Below w.heap.size w wx)) (fun i _ => k - (intOf i).toNat)
      case atStart => exact ⟨0, Nat.zero_le _, rfl, Lib.hid (fun a _ ha => absurd ha (by omega)), HB⟩
      case round =>
        clear HB
        obtain ⟨j, hj, rfl, HM, HB⟩ := hrel
        by_cases hlt2 : j < k
        · obtain ⟨hok, hcells⟩ := HS.out
          have hjl : j < l.length := by have := HL.out; omega
          obtain ⟨bl, hA, hbl, hc⟩ := hcells (by omega)
          obtain ⟨hsz1, hsz2⟩ := hok l[j] (List.getElem_mem hjl)
          have c0 := (HB.out.cell (p := ⟨bl, j * 2, none⟩) hbl).trans (hc j hjl).1
          have c1 := (HB.out.cell (p := ⟨bl, j * 2 + 1, none⟩) hbl).trans (hc j hjl).2
          have hmr : missR l l[j] = (!l[j].a.toList.isEmpty && (topOf l l[j].a).isNone) := rfl
          have HH8 : Hid (missR l l[j] = true → r = 8) := Lib.hid (fun h => by rw [← HR3.out, if_pos (any_hit hjl h)])
          have HNX : Hid (missR l l[j] = false → ∀ (a : Nat) (ha : a < l.length), a < j + 1 → missR l l[a] = false) := Lib.hid (fun h a ha hlt => by
            rcases (by omega : a < j ∨ a = j) with h2 | rfl
            · exact HM.out a ha h2
            · exact h)
          generalize missR l l[j] = mr at *
          generalize l[j] = x at *
          have S0 := Lib.hid (RF.start x HB.out)
          have HTL := Lib.hid (HS.out.below S0.out.1)
          obtain ⟨b, hb⟩ : ∃ b, (topOf l x.a).isSome = b := ⟨_, rfl⟩
          have HHT := Lib.hid (hastopic_walk A k cap l x.a _ HL.out hn2 HTL.out b (Lib.hid hb))
          have hbn : (topOf l x.a).isNone = !b := by rw [← hb]; cases topOf l x.a <;> rfl
          rw [hbn] at hmr
          subst hA
          clear hok hcells hc hb hbn HTL
          cases he : x.a.toList.isEmpty
          · rw [he] at hmr
            cases b
            · have HE := Lib.hid (HH8.out hmr)
              clear hmr HNX HH8
              go_wp2_with fail
              refine (HHT.out).mono ?_; rintro e w2 ⟨rfl, hb2⟩
              have S2 := Lib.hid (S0.out.below hb2)
              clear hb2
              go_wp2_with fail
              go_ret; exact ⟨by rw [HE.out]; try rfl, S2.out.1⟩
            · have HE := Lib.hid (HNX.out hmr)
              clear hmr HNX HH8
              go_wp2_with fail
              refine (HHT.out).mono ?_; rintro e w2 ⟨rfl, hb2⟩
              have S2 := Lib.hid (S0.out.below hb2)
              clear hb2
              go_wp2_with fail
              go_roundw
              case rel => exact ⟨j + 1, by omega, by go_num, HE, Lib.hid S2.out.1⟩
              case measure => simp [intOf]; omega
          · rw [he] at hmr
            have HE := Lib.hid (HNX.out hmr)
            clear hmr HNX HH8 HHT
            go_wp2_with fail
            go_roundw
            case rel => exact ⟨j + 1, by omega, by go_num, HE, Lib.hid S0.out.1⟩
            case measure => simp [intOf]; omega
        · have hjk : j = k := by omega
          subst hjk
          have hA1 : l.any (missR l) = false := any_miss (fun a ha => HM.out a ha (by have := HL.out; omega))
          have HR4 := Lib.hid (show (if l.any (loopR l) then (14 : Int) else if l.any (bigR l) then 2 else 0) = r by have := HR3.out; rw [hA1] at this; simpa using this)
          clear HR3 HM hA1
          go_wp2_with fail
          go_loopw [69] (fun i wx => ∃ p : Nat, p ≤ j ∧ i = .int .i64 p ∧ Hid (∀ (a : Nat) (ha : a < l.length), a < p → loopR l l[a] = false) ∧ Hid (Below w.heap.size w wx)) (fun i _ => j - (intOf i).toNat)
          case atStart => exact ⟨0, Nat.zero_le _, rfl, Lib.hid (fun a _ ha => absurd ha (by omega)), HB⟩
          case round =>
            clear HB
            obtain ⟨p, hp, rfl, HM, HB⟩ := hrel
            by_cases hlt3 : p < j
            · obtain ⟨hok, hcells⟩ := HS.out
              have hpl : p < l.length := by have := HL.out; omega
              obtain ⟨bl, hA, hbl, hc⟩ := hcells (by omega)
              obtain ⟨hsz1, hsz2⟩ := hok l[p] (List.getElem_mem hpl)
              have c0 := (HB.out.cell (p := ⟨bl, p * 2, none⟩) hbl).trans (hc p hpl).1
              have c1 := (HB.out.cell (p := ⟨bl, p * 2 + 1, none⟩) hbl).trans (hc p hpl).2
              have hlr : loopR l l[p] = has (abv l (l.length + 1) l[p].k).tail l[p].k := rfl
              have hhd := abv_head l.length p hpl
              have hln := abv_len l (l.length + 1) l[p].k
              have HH8 : Hid (loopR l l[p] = true → r = 14) := Lib.hid (fun h => by rw [← HR4.out, if_pos (any_hit hpl h)])
              have HNX : Hid (loopR l l[p] = false → ∀ (a : Nat) (ha : a < l.length), a < p + 1 → loopR l l[a] = false) := Lib.hid (fun h a ha hlt => by
                rcases (by omega : a < p ∨ a = p) with h2 | rfl
                · exact HM.out a ha h2
                · exact h)
              generalize loopR l l[p] = mr at *
              have HTL := Lib.hid (fun W (hW : Below w.heap.size w W) => HS.out.below hW)
              generalize l[p] = x at *
              have S0 := Lib.hid (RF.start x HB.out)
              obtain ⟨ss, hss⟩ : ∃ ss, abv l (l.length + 1) x.k = ss := ⟨_, rfl⟩
              have hll := HL.out
              have HAB := Lib.hid (fun W (hW : Below w.heap.size w W) => aboveof_walk A j cap l x.k W HL.out hn2 (HTL.out W hW) hsz1 ss (Lib.hid (by rw [← hss, hll])))
              rw [hss] at hlr hhd hln
              have hln2 : ss.length ≤ 1001 := by omega
              have HM1 := Lib.hid hhd
              have HLR := Lib.hid hlr
              subst hA
              clear hok hcells hc hss HTL hlr hhd hln hll
              go_wp2_with fail
              go_region_held3 (fun v => v.cell? ⟨wr.heap.size, 0, none⟩ = some (.string x.k) ∧ RF w wr wr.heap.size x v)
                (first
                  | (go_split_ands; exact ⟨RF.c0 (RF.below (by assumption) hB), RF.below (by assumption) hB⟩)
                  | (go_split_ands; exact ⟨RF.c0 (by assumption), by assumption⟩)
                  | exact ⟨RF.c0 (S0.out.drewN 1), S0.out.drewN 1⟩
                  | exact ⟨RF.c0 S0.out, S0.out⟩)
                (first
                  | (go_at_call 31; go_split_ands; refine (HAB.out _ (And.left (by assumption : RF w wr wr.heap.size x _))).mono ?_; rintro e w6 ⟨A2, c2, rfl, hc2, hSL, hB⟩; (obtain ⟨A3, hsl, hA3⟩ := tail_slice A2 ss.length c2 HM1.out hc2))
                  | (go_at_call 30; go_split_ands; refine (hasT_walk A2 A3 _ ss x.k _ hSL HM1.out hln2 hA3).mono ?_; rintro e w7 ⟨rfl, rfl⟩))
              all_goals
                go_split_ands
                have S6 : Hid (RF w wr wr.heap.size x _) := Lib.hid (by assumption)
                rw [← HLR.out]
                cases mr
                · have HE := Lib.hid (HNX.out rfl)
                  go_wp2_with fail
                  go_roundw
                  case rel => exact ⟨p + 1, by omega, by go_num, HE, Lib.hid S6.out.1⟩
                  case measure => simp [intOf]; omega
                · have HE := Lib.hid (HH8.out rfl)
                  go_wp2_with fail
                  go_ret; exact ⟨by rw [HE.out]; try rfl, S6.out.1⟩
            · have hpj : p = j := by omega
              subst hpj
              have hA2 : l.any (loopR l) = false := any_miss (fun a ha => HM.out a ha (by have := HL.out; omega))
              have HR5 := Lib.hid (show (if l.any (bigR l) then (2 : Int) else 0) = r by have := HR4.out; rw [hA2] at this; simpa using this)
              clear HR4 HM hA2
              go_wp2_with fail
              go_loopw [84] (fun i wx => ∃ q : Nat, q ≤ p ∧ i = .int .i64 q ∧ Hid (∀ (a : Nat) (ha : a < l.length), a < q → bigR l l[a] = false) ∧ Hid (Below w.heap.size w wx)) (fun i _ => p - (intOf i).toNat)
              case atStart => exact ⟨0, Nat.zero_le _, rfl, Lib.hid (fun a _ ha => absurd ha (by omega)), HB⟩
              case round =>
                clear HB
                obtain ⟨q, hq, rfl, HM, HB⟩ := hrel
                by_cases hlt4 : q < p
                · obtain ⟨hok, hcells⟩ := HS.out
                  have hql : q < l.length := by have := HL.out; omega
                  obtain ⟨bl, hA, hbl, hc⟩ := hcells (by omega)
                  obtain ⟨hsz1, hsz2⟩ := hok l[q] (List.getElem_mem hql)
                  have c0 := (HB.out.cell (p := ⟨bl, q * 2, none⟩) hbl).trans (hc q hql).1
                  have c1 := (HB.out.cell (p := ⟨bl, q * 2 + 1, none⟩) hbl).trans (hc q hql).2
                  have hlr : bigR l l[q] = decide (5 < (abv l (l.length + 1) l[q].k).length) := rfl
                  have HH8 : Hid (bigR l l[q] = true → r = 2) := Lib.hid (fun h => by rw [← HR5.out, if_pos (any_hit hql h)])
                  have HNX : Hid (bigR l l[q] = false → ∀ (a : Nat) (ha : a < l.length), a < q + 1 → bigR l l[a] = false) := Lib.hid (fun h a ha hlt => by
                    rcases (by omega : a < q ∨ a = q) with h2 | rfl
                    · exact HM.out a ha h2
                    · exact h)
                  generalize bigR l l[q] = mr at *
                  generalize l[q] = x at *
                  have S0 := Lib.hid (RF.start x HB.out)
                  obtain ⟨ss, hss⟩ : ∃ ss, abv l (l.length + 1) x.k = ss := ⟨_, rfl⟩
                  have hll := HL.out
                  have HAB := Lib.hid (aboveof_walk A p cap l x.k _ HL.out hn2 (HS.out.below S0.out.1) hsz1 ss (Lib.hid (by rw [← hss, hll])))
                  rw [hss] at hlr
                  have HLR := Lib.hid hlr
                  subst hA
                  clear hok hcells hc hss hlr hll
                  go_wp2_with fail
                  refine (HAB.out).mono ?_; rintro e w6 ⟨A2, c2, rfl, hc2, hSL, hB⟩
                  have S6 := Lib.hid (S0.out.below hB)
                  clear hB hSL c0 c1
                  by_cases h5 : 5 < ss.length
                  · have hd : decide (((ss.length : Nat) : Int) > 5) = true := by simp; omega
                    have HE := Lib.hid (HH8.out (by rw [HLR.out]; simpa using h5))
                    go_wp2_with fail
                    go_ret; exact ⟨by rw [HE.out]; try rfl, S6.out.1⟩
                  · have hd : decide (((ss.length : Nat) : Int) > 5) = false := by simp; omega
                    have HE := Lib.hid (HNX.out (by rw [HLR.out]; simpa using h5))
                    go_wp2_with fail
                    go_roundw
                    case rel => exact ⟨q + 1, by omega, by go_num, HE, Lib.hid S6.out.1⟩
                    case measure => simp [intOf]; omega
                · have hqp : q = p := by omega
                  subst hqp
                  have hA3 : l.any (bigR l) = false := any_miss (fun a ha => HM.out a ha (by have := HL.out; omega))
                  have HE := Lib.hid (show r = 0 by have := HR5.out; rw [hA3] at this; simpa using this.symm)
                  clear HR5 HM hA3
                  go_wp2_with fail
                  go_ret; exact ⟨by rw [HE.out]; try rfl, HB.out⟩

theorem faultE_walk (A : Option Addr) (n cap : Nat) (l : List Tp) (w : World) (hn : l.length = n) (hn2 : n ≤ 1000) (hnc : n ≤ cap) (hS : TL w A l) (r : Int) (hr : Hid (forestE l = r)) :
    Calls Tryd.prog 17 #[.slice A n cap] w fun e w' => e = .returned (.int .i64 r) ∧ Below w.heap.size w w' := fault_walk A n cap l w hn hn2 hnc hS r (Lib.hid ((forest_same l).trans hr.out))
end Go.Proofs.YtnjigaklkalebaaDoor.For
