/-
  A REGION THAT DRAWS ITS ORDER, by an invariant: what each operation has yielded is said of its value and the world alone; the last operation comes behind all others.
-/
import Derived.Test.YtmihbfmlnfhgcadGreatDoorBlk
import Derived.RegionTactic
namespace Go.Proofs.YtmihbfmlnfhgcadGreatDoor.Cal
open Go.ChangeShapes Go.WideShapes Go.ChangeAt Go.RowKit Stm Key
set_option linter.unusedVariables false

/-- One value turned. -/
def upd (f : Nat → Value) (i : Nat) (v : Value) : Nat → Value := fun j => if j = i then v else f j
theorem ready_spec {md : Region.Mode} {ops : Array Oper} {listed : Array Bool} {i : Nat} (h : i ∈ Region.ready md ops listed) :
    i < ops.size ∧ listed.getD i true = false ∧ ∃ o, ops[i]? = some o ∧ ∀ e ∈ o.after, Region.binds md e = true → listed.getD e.on false = true := by
  unfold Region.ready at h
  rw [List.mem_filter] at h
  obtain ⟨h1, h2⟩ := h
  rw [List.mem_range] at h1
  rw [Bool.and_eq_true] at h2
  obtain ⟨h2, h3⟩ := h2
  refine ⟨h1, by simpa using h2, ops[i], Array.getElem?_eq_getElem h1, fun e he hb => ?_⟩
  rw [Array.getElem?_eq_getElem h1] at h3
  simp only [Option.map_some, Option.getD_some] at h3
  have := Array.all_eq_true_iff_forall_mem.1 h3 e he
  rw [hb] at this
  simpa using this
theorem ready_mk {md : Region.Mode} {ops : Array Oper} {listed : Array Bool} {i : Nat} {o : Oper} (ho : ops[i]? = some o) (h2 : listed.getD i true = false) (h3 : ∀ e ∈ o.after, Region.binds md e = true → listed.getD e.on false = true) : i ∈ Region.ready md ops listed := by
  unfold Region.ready
  rw [List.mem_filter, List.mem_range, Bool.and_eq_true]
  refine ⟨(Array.getElem?_eq_some_iff.1 ho).1, by rw [h2]; rfl, ?_⟩
  rw [ho]
  simp only [Option.map_some, Option.getD_some]
  refine Array.all_eq_true_iff_forall_mem.2 (fun e he => ?_)
  cases hb : Region.binds md e
  · rfl
  · simpa using h3 e he hb
theorem countP_lt {p p' : Nat → Bool} (hm : ∀ j, p' j = true → p j = true) : ∀ l : List Nat, (∃ i ∈ l, p i = true ∧ p' i = false) → l.countP p' < l.countP p
  | [], h => by obtain ⟨i, hi, _⟩ := h; simp at hi
  | x :: t, h => by
    have hle : t.countP p' ≤ t.countP p := List.countP_mono_left (fun j _ => hm j)
    rw [List.countP_cons, List.countP_cons]
    obtain ⟨i, hi, h1, h2⟩ := h
    rcases List.mem_cons.1 hi with rfl | hi
    · rw [if_pos h1, if_neg (by rw [h2]; simp)]; omega
    · have := countP_lt hm t ⟨i, hi, h1, h2⟩
      by_cases hx : p' x = true
      · rw [if_pos hx, if_pos (hm x hx)]; omega
      · rw [if_neg hx]; split <;> omega
theorem getD_set {listed : Array Bool} {i j : Nat} {d : Bool} (hj : j < listed.size) : (listed.setIfInBounds i true).getD j d = if j = i then true else listed.getD j d := by
  by_cases h : j = i
  · subst h; simp [Array.getD, hj]
  · rw [if_neg h]
    simp [Array.getD, hj, Ne.symm h]
theorem getD_any {listed : Array Bool} {j : Nat} (hj : j < listed.size) (d d' : Bool) : listed.getD j d = listed.getD j d' := by simp [Array.getD, hj]
theorem wpAny_inv {P : Program} {md : Region.Mode} {ops : Array Oper} {Q : Exit → Act → World → Prop} {m : Nat} (frame : (Nat → Value) → Act) (p : Nat → Value → World → Prop) (S : Nat → World → Prop)
    (hm : ops.size = m + 1)
    (hlow : ∀ (i : Nat) (o : Oper), ops[i]? = some o → ∀ e ∈ o.after, e.on < i)
    (hlast : ∀ o : Oper, ops[m]? = some o → ∀ j, j < m → ∃ e ∈ o.after, Region.binds md e = true ∧ e.on = j)
    (step : ∀ i, i < m → ∀ (vals : Nat → Value) (w : World) (c : Nat) (o : Oper), ops[i]? = some o → (∀ e ∈ o.after, Region.binds md e = true → p e.on (vals e.on) w) → S c w → c ≤ m →
      wpOp P ops Q i (fun a' w' => ∃ v, a' = frame (upd vals i v) ∧ p i v w' ∧ (∀ j u, p j u w → p j u w') ∧ S (c + 1) w') (frame vals) w)
    (last : ∀ (vals : Nat → Value) (w : World) (c : Nat), (∀ j, j < m → p j (vals j) w) → S c w → c ≤ m → wpOp P ops Q m (fun a' w' => Q .normal a' w') (frame vals) w) :
    ∀ (fuel c : Nat) (listed : Array Bool) (vals : Nat → Value) (w : World), listed.size = m + 1 → listed.getD m true = false → c + fuel = m + 1 → (∀ j, j < m → listed.getD j false = true → p j (vals j) w) →
      (List.range (m + 1)).countP (fun j => !listed.getD j true) ≤ fuel → S c w → wpAny P md ops Q fuel listed (frame vals) w
  | 0, c, listed, vals, w, hs, hl, hc, hp, hn, hS => by
    exfalso
    have h0 : (List.range (m + 1)).countP (fun j => !listed.getD j true) = 0 := Nat.le_zero.1 hn
    have := List.countP_eq_zero.1 h0 m (by simp)
    rw [hl] at this; exact this rfl
  | fuel + 1, c, listed, vals, w, hs, hl, hc, hp, hn, hS => by
    refine ⟨fun h0 => ?_, fun i hi => ?_⟩
    · exfalso
      have key : ∀ i, i ≤ m → listed.getD i true = false → False := by
        intro i
        induction i using Nat.strongRecOn with
        | ind i ih =>
          intro him hli
          have hio : i < ops.size := by omega
          have ho : ops[i]? = some ops[i] := Array.getElem?_eq_getElem hio
          by_cases hall : ∀ e ∈ (ops[i]).after, Region.binds md e = true → listed.getD e.on false = true
          · have := ready_mk (md := md) ho hli hall
            rw [h0] at this; simp at this
          · simp only [Classical.not_forall] at hall
            obtain ⟨e, he, hb, hne⟩ := hall
            have hlt := hlow i _ ho e he
            refine ih e.on hlt (by omega) ?_
            rw [getD_any (by omega) true false]
            simpa using hne
      exact key m (Nat.le_refl _) hl
    · obtain ⟨h1, h2, o, ho, h3⟩ := ready_spec hi
      have hcnt : (List.range (m + 1)).countP (fun j => !(listed.setIfInBounds i true).getD j true) ≤ fuel := by
        have := countP_lt (p := fun j => !listed.getD j true) (p' := fun j => !(listed.setIfInBounds i true).getD j true) (fun j hj => by
          by_cases hjs : j < listed.size
          · rw [getD_set hjs] at hj
            by_cases hji : j = i
            · rw [if_pos hji] at hj; simp at hj
            · rw [if_neg hji] at hj; exact hj
          · have e : (listed.setIfInBounds i true).getD j true = true := by simp [Array.getD, hjs]
            rw [e] at hj; simp at hj) (List.range (m + 1)) ⟨i, by simp; omega, by rw [h2]; rfl, by rw [getD_set (by omega), if_pos rfl]; rfl⟩
        omega
      by_cases him : i = m
      · subst him
        have hall : ∀ j, j < i → listed.getD j false = true := fun j hj => by
          obtain ⟨e, he, hb, rfl⟩ := hlast o ho j hj
          exact h3 e he hb
        refine wpOp_mono (fun a' w' hQ => ?_) (last vals w c (fun j hj => hp j hj (hall j hj)) hS (by omega))
        refine wpAny_done ?_ hQ _
        rcases hr : Region.ready md ops (listed.setIfInBounds i true) with _ | ⟨x, t⟩
        · rfl
        · exfalso
          have hx : x ∈ Region.ready md ops (listed.setIfInBounds i true) := by rw [hr]; exact List.mem_cons_self ..
          obtain ⟨q1, q2, _⟩ := ready_spec hx
          rw [getD_set (by omega)] at q2
          by_cases hxi : x = i
          · rw [if_pos hxi] at q2; exact absurd q2 (by simp)
          · rw [if_neg hxi, getD_any (by omega) true false, hall x (by omega)] at q2; exact absurd q2 (by simp)
      · have hi2 : i < m := by omega
        refine wpOp_mono (fun a' w' hQ => ?_) (step i hi2 vals w c o ho (fun e he hb => hp e.on (by have := hlow i o ho e he; omega) (h3 e he hb)) hS (by omega))
        obtain ⟨v, rfl, hpi, hmono, hS'⟩ := hQ
        refine wpAny_inv frame p S hm hlow hlast step last fuel (c + 1) (listed.setIfInBounds i true) (upd vals i v) w' (by simpa using hs) (by rw [getD_set (by omega), if_neg (fun e => him e.symm)]; exact hl) (by omega) (fun j hj hjl => ?_) hcnt hS'
        rw [getD_set (by omega)] at hjl
        by_cases hji : j = i
        · subst hji; unfold upd; rw [if_pos rfl]; exact hpi
        · rw [if_neg hji] at hjl
          unfold upd; rw [if_neg hji]
          exact hmono j _ (hp j hj hjl)
/-- Each operation's edges lead to earlier ones. -/
def lowB (ops : Array Oper) : Bool := (List.range ops.size).all fun i => (ops[i]?.map fun o => o.after.all fun e => decide (e.on < i)).getD true
/-- The operation m comes behind all before it. -/
def lastB (md : Region.Mode) (ops : Array Oper) (m : Nat) : Bool := (ops[m]?.map fun o => (List.range m).all fun j => o.after.any fun e => Region.binds md e && e.on == j).getD true
theorem lowB_spec {ops : Array Oper} (h : lowB ops = true) (i : Nat) (o : Oper) (ho : ops[i]? = some o) : ∀ e ∈ o.after, e.on < i := fun e he => by
  have hi := (Array.getElem?_eq_some_iff.1 ho).1
  have := List.all_eq_true.1 h i (List.mem_range.2 hi)
  rw [ho] at this
  simp only [Option.map_some, Option.getD_some] at this
  simpa using Array.all_eq_true_iff_forall_mem.1 this e he
theorem lastB_spec {md : Region.Mode} {ops : Array Oper} {m : Nat} (h : lastB md ops m = true) (o : Oper) (ho : ops[m]? = some o) (j : Nat) (hj : j < m) : ∃ e ∈ o.after, Region.binds md e = true ∧ e.on = j := by
  unfold lastB at h
  rw [ho] at h
  simp only [Option.map_some, Option.getD_some] at h
  have := List.all_eq_true.1 h j (List.mem_range.2 hj)
  obtain ⟨e, he, hb⟩ := Array.any_eq_true'.1 this
  rw [Bool.and_eq_true] at hb
  exact ⟨e, he, hb.1, by simpa using hb.2⟩
theorem wp_region_inv {P : Program} {id : Nat} {ops : Array Oper} {Q : Exit → Act → World → Prop} (m : Nat) (frame : (Nat → Value) → Act) (p : Nat → Value → World → Prop) (S : Nat → World → Prop)
    (hmix : P.follows .mixedOrders = true) (hm : ops.size = m + 1) (hlow : lowB ops = true) (hlast : lastB .any ops m = true) (vals : Nat → Value) (w : World) (hS : S 0 w.drew)
    (step : ∀ i, i < m → ∀ (vals : Nat → Value) (w : World) (c : Nat) (o : Oper), ops[i]? = some o → (∀ e ∈ o.after, Region.binds .any e = true → p e.on (vals e.on) w) → S c w → c ≤ m →
      wpOp P ops Q i (fun a' w' => ∃ v, a' = frame (upd vals i v) ∧ p i v w' ∧ (∀ j u, p j u w → p j u w') ∧ S (c + 1) w') (frame vals) w)
    (last : ∀ (vals : Nat → Value) (w : World) (c : Nat), (∀ j, j < m → p j (vals j) w) → S c w → c ≤ m → wpOp P ops Q m (fun a' w' => Q .normal a' w') (frame vals) w) :
    (Code.region id ops true).wp P Q (frame vals) w := by
  refine wp_region_any hmix ?_
  rw [hm]
  refine wpAny_inv frame p S hm (lowB_spec hlow) (fun o ho j hj => lastB_spec hlast o ho j hj) step last (m + 1) 0 _ vals _ (by simp) (by simp [Array.getD]) (by omega) (fun j hj hl => ?_) ?_ hS
  · simp [Array.getD] at hl
  · have := List.countP_le_length (p := fun j => !(Array.replicate (m + 1) false).getD j true) (l := List.range (m + 1))
    simpa using this
end Go.Proofs.YtmihbfmlnfhgcadGreatDoor.Cal
