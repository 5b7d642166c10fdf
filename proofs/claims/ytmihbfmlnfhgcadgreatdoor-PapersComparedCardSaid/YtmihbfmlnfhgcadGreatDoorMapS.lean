/-
  MAPS OF STRINGS TO SLICES OF INTEGERS: which slice lies at which key, apart from what the slices' rows hold.
-/
import Derived.Test.YtmihbfmlnfhgcadGreatDoorIntL
import Derived.Maps.RangeWalk
import Derived.Maps.AppendAt
import Derived.StringKeys
namespace Go.Proofs.YtmihbfmlnfhgcadGreatDoor.Cal
open Go.ChangeShapes Go.WideShapes Go.ChangeAt Go.RowKit Stm Key
open Go.Maps (Keyed string_keyed)
set_option linter.unusedVariables false

/-- A slice as a datum: its block, its length, its capacity. -/
def encD : Value → DataW Unit
  | .slice (some a) n c => .agg [.lit (.int .i64 a.block), .lit (.int .i64 n), .lit (.int .i64 c)]
  | _ => .nil
/-- Slices that are nil or lie at the head of a block. -/
def headS : Value → Bool
  | .slice none n c => n == 0 && c == 0
  | .slice (some a) _ _ => a.off == 0 && a.spot.isNone
  | _ => false
def encS (v : Value) : Option (DataW Unit × List MemPlace) := if headS v = true then some (encD v, []) else none
theorem encS_head {v : Value} (h : headS v = true) : encS v = some (encD v, []) := by unfold encS; rw [if_pos h]
theorem encS_inv {v : Value} {d : DataW Unit} {ps : List MemPlace} (h : encS v = some (d, ps)) : headS v = true ∧ d = encD v := by
  unfold encS at h
  split at h
  · rename_i hh
    injection h with h
    injection h with h1 h2
    exact ⟨hh, h1.symm⟩
  · cases h
theorem encD_inj {u v : Value} (hu : headS u = true) (hv : headS v = true) (h : encD u = encD v) : u = v := by
  cases u with
  | slice a n c =>
    cases v with
    | slice b m d =>
      cases a with
      | none =>
        cases b with
        | none => simp [headS] at hu hv; obtain ⟨rfl, rfl⟩ := hu; obtain ⟨rfl, rfl⟩ := hv; rfl
        | some b => simp [encD] at h
      | some a =>
        cases b with
        | none => simp [encD] at h
        | some b =>
          obtain ⟨g, o, s⟩ := a
          obtain ⟨g', o', s'⟩ := b
          simp [headS] at hu hv
          obtain ⟨rfl, rfl⟩ := hu
          obtain ⟨rfl, rfl⟩ := hv
          simp [encD] at h
          obtain ⟨h1, h2, h3⟩ := h
          obtain rfl : g = g' := by omega
          obtain rfl : n = m := by omega
          obtain rfl : c = d := by omega
          rfl
    | _ => simp [headS] at hv
  | _ => simp [headS] at hu
theorem zeroS (w : World) : (zeroValue 22).run Tryz.prog w = .ok (.slice none 0 0) w := by kernel_rfl
/-- Block M is a map with these slices; it has taken c stores. -/
def MS (w : World) (M c : Nat) (V : ByteArray → Option Value) : Prop := ∃ D : DataW Unit, w.ownsMap Tryz.prog 9 encS M c D ∧
  ∀ s : ByteArray, (∀ z, D.atKey (.string s.data.toList) z = match V s with | some v => encD v | none => z) ∧ Maps.has D (.string s.data.toList) = (V s).isSome ∧ ∀ v, V s = some v → headS v = true
theorem MS.gr {w w' : World} {M c : Nat} {V : ByteArray → Option Value} {row : Option Nat} (h : MS w M c V) (hb : w.grownBy w' row) (hne : some M ≠ row) : MS w' M c V := by
  obtain ⟨D, h1, h2⟩ := h
  exact ⟨D, h1.kept hb hne, h2⟩
theorem MS.below {w w' : World} {M c : Nat} {V : ByteArray → Option Value} (h : MS w M c V) (hb : Below w.heap.size w w') : MS w' M c V :=
  h.gr (row := none) ⟨hb.os, hb.tape, hb.output, hb.size, fun k hk _ => hb.block k hk⟩ (by simp)
theorem MS.lt {w : World} {M c : Nat} {V : ByteArray → Option Value} (h : MS w M c V) : M < w.heap.size := by
  obtain ⟨D, h1, _⟩ := h
  exact h1.lt
theorem ms_new (w : World) : MS (w.alloc (.map #[] 0)) w.heap.size 0 (fun _ => none) := ⟨.map [], World.ownsMap_made _ _ _ _, fun _ => ⟨fun _ => rfl, rfl, fun _ h => by cases h⟩⟩
theorem ms_look {w : World} {M c : Nat} {V : ByteArray → Option Value} (h : MS w M c V) {s : ByteArray} (hs : s.size ≤ 1000) :
    (Instr.lookup 56 (.map (some M)) (.string s) false).run Tryz.prog w = .ok ((V s).getD (.slice none 0 0)) w := by
  obtain ⟨D, h1, h2⟩ := h
  obtain ⟨v, ps, hrun, he⟩ := h1.lookup keyLaw Tryz.underlying56 (zeroS w) (zd := .nil) (zp := []) rfl (key := .string s) (Go.WideMaps.keyOf_string_mk Tryz.underlying9 (by unfold maxLen; omega))
  obtain ⟨e1, e2⟩ := encS_inv he
  rw [hrun]
  obtain ⟨a1, _, a3⟩ := h2 s
  rw [a1] at e2
  cases hv : V s with
  | none =>
    rw [hv] at e2
    rw [show v = .slice none 0 0 from encD_inj e1 rfl e2.symm]
    rfl
  | some u =>
    rw [hv] at e2
    rw [show v = u from encD_inj e1 (a3 u hv) e2.symm]
    rfl
def updV (V : ByteArray → Option Value) (s : ByteArray) (v : Value) : ByteArray → Option Value := fun t => if eqB s t = true then some v else V t
theorem ms_put {w w' : World} {M c : Nat} {V : ByteArray → Option Value} {D : DataW Unit} {s : ByteArray} {v : Value} (h : w.ownsMap Tryz.prog 9 encS M c D)
    (hf : ∀ s : ByteArray, (∀ z, D.atKey (.string s.data.toList) z = match V s with | some v => encD v | none => z) ∧ Maps.has D (.string s.data.toList) = (V s).isSome ∧ ∀ v, V s = some v → headS v = true)
    (hv : headS v = true) (h2 : w'.ownsMap Tryz.prog 9 encS M (c + 1) (D.put (.string s.data.toList) (encD v))) : MS w' M (c + 1) (updV V s v) :=
  ⟨_, h2, fun t => by
    unfold updV
    cases hx : eqB s t with
    | true =>
      have hs : s = t := (eqB_iff _ _).1 hx
      subst hs
      exact ⟨fun z => by rw [Maps.atKey_put_same (k := .string s.data.toList) h.isMap (show WideAt.IsKeyLit (.string _) from trivial), if_pos rfl], by rw [Maps.has_put_same (k := .string s.data.toList) h.isMap (show WideAt.IsKeyLit (.string _) from trivial), if_pos rfl]; rfl, fun u hu => by rw [if_pos rfl] at hu; cases hu; exact hv⟩
    | false =>
      refine ⟨fun z => ?_, ?_, fun u hu => ?_⟩
      · rw [Maps.atKey_put_other (key_ne hx), (hf t).1 z]; simp
      · rw [Maps.has_put_other (key_ne hx), (hf t).2.1]; simp
      · exact (hf t).2.2 u (by simpa using hu)⟩
/-- The slices' rows: what each holds; no two of them are one. -/
def FS (w : World) (base : Nat) (V : ByteArray → Option Value) (X : ByteArray → List Int) : Prop :=
  (∀ s v, V s = some v → w.ownsRow base 3 1 v (X s).length ((X s).map (Value.int .i64)) ∧ v.ownBlock ≠ none) ∧ ∀ s t v u, V s = some v → V t = some u → s ≠ t → v.ownBlock ≠ u.ownBlock
theorem FS.kept {w w' : World} {base : Nat} {V : ByteArray → Option Value} {X : ByteArray → List Int} {row : Option Nat} (h : FS w base V X) (hg : w.grownBy w' row) (hne : ∀ s v, V s = some v → v.ownBlock ≠ row) : FS w' base V X :=
  ⟨fun s v hv => ⟨(h.1 s v hv).1.kept hg (Or.inr (hne s v hv)), (h.1 s v hv).2⟩, h.2⟩
theorem FS.below {w w' : World} {base : Nat} {V : ByteArray → Option Value} {X : ByteArray → List Int} (h : FS w base V X) (hb : Below w.heap.size w w') : FS w' base V X :=
  h.kept (row := none) ⟨hb.os, hb.tape, hb.output, hb.size, fun k hk _ => hb.block k hk⟩ (fun s v hv => (h.1 s v hv).2)
/-- One row has turned. -/
theorem FS.turn {w w' : World} {base : Nat} {V : ByteArray → Option Value} {X : ByteArray → List Int} {s : ByteArray} {v v' : Value} {ys : List Int} (h : FS w base V X) (hv : V s = some v ∨ V s = none) (hg : w.grownBy w' v.ownBlock)
    (hvn : V s = none → v.ownBlock = none) (ho : w'.ownsRow base 3 1 v' ys.length (ys.map (Value.int .i64))) (hn : v'.ownBlock ≠ none) (hat : v'.ownBlock = v.ownBlock ∨ ∃ g, v'.ownBlock = some g ∧ w.heap.size ≤ g) :
    FS w' base (updV V s v') (fun t => if eqB s t = true then ys else X t) := by
  have hold : ∀ t u, V t = some u → s ≠ t → u.ownBlock ≠ v.ownBlock := fun t u hu hne e => by
    rcases hv with hv | hv
    · exact h.2 s t v u hv hu hne e.symm
    · rw [hvn hv] at e; exact (h.1 t u hu).2 e
  have hnew : ∀ t u, V t = some u → s ≠ t → v'.ownBlock ≠ u.ownBlock := fun t u hu hne e => by
    rcases hat with hat | ⟨g, hg1, hg2⟩
    · exact hold t u hu hne (by rw [← e, hat])
    · rw [hg1] at e
      have := ((h.1 t u hu).1.lt g e.symm).2
      omega
  constructor
  · intro t u hu
    unfold updV at hu
    by_cases he : eqB s t = true
    · rw [if_pos he] at hu
      cases hu
      show w'.ownsRow base 3 1 v' (if eqB s t = true then ys else X t).length ((if eqB s t = true then ys else X t).map (Value.int .i64)) ∧ _
      rw [if_pos he]
      exact ⟨ho, hn⟩
    · rw [if_neg he] at hu
      show w'.ownsRow base 3 1 u (if eqB s t = true then ys else X t).length ((if eqB s t = true then ys else X t).map (Value.int .i64)) ∧ _
      rw [if_neg he]
      have hne : s ≠ t := fun k => he ((eqB_iff _ _).2 k)
      exact ⟨(h.1 t u hu).1.kept hg (Or.inr (hold t u hu hne)), (h.1 t u hu).2⟩
  · intro a b x y hx hy hab
    unfold updV at hx hy
    by_cases ha : eqB s a = true
    · rw [if_pos ha] at hx
      cases hx
      have hsb : s ≠ b := fun k => hab (((eqB_iff _ _).1 ha).symm.trans k)
      rw [if_neg (fun k => hsb ((eqB_iff _ _).1 k))] at hy
      exact hnew b y hy hsb
    · rw [if_neg ha] at hx
      have hsa : s ≠ a := fun k => ha ((eqB_iff _ _).2 k)
      by_cases hb : eqB s b = true
      · rw [if_pos hb] at hy
        cases hy
        exact fun k => hnew a x hx hsa k.symm
      · rw [if_neg hb] at hy
        exact h.2 a b x y hx hy hab
/-! ### A range over strings and slices -/
theorem wpList_next_ss (w : World) {ops : Array Oper} {rest : List Oper} {o : Oper} {a : Act} {Q : Exit → Act → World → Prop}
    (hg : o.guard = none) (it : Operand) (hop : o.op = Op.next it false) (b r n : Nat) (D : DataW Unit) (left : Lit → Bool) (cnt : Nat)
    (hit : a.eval it = .pointer (some ⟨r, 0, none⟩)) (h : w.ranges Tryz.prog 9 encS b r n D left cnt)
    (hDone : cnt = 0 → (∀ kl, left kl = false) → wpList Tryz.prog ops Q rest (a.put o.dst (.tuple #[.bool false])) w)
    (hMore : ∀ (x : ByteArray) (v : Value) (w' : World) (cnt' : Nat), x.size ≤ maxLen → headS v = true → left (.string x.data.toList) = true → (∀ zd, D.atKey (.string x.data.toList) zd = encD v) → w'.ranges Tryz.prog 9 encS b r n D (fun z => left z && !z.sameKey (.string x.data.toList)) cnt' → cnt' < cnt →
      w.grownBy w' (some r) → w'.heap.size = w.heap.size → (Instr.entry (.pointer (some ⟨r, 0, none⟩))).run Tryz.prog w' = .ok (.tuple #[.string x, v]) w' → wpList Tryz.prog ops Q rest (a.put o.dst (.tuple #[.bool true, .string x, v])) w') :
    wpList Tryz.prog ops Q (o :: rest) a w :=
  wpList_next_ranges w hg it hop 9 keyLaw encS Value.string (fun v : Value => v) (fun key kl hkey => by obtain ⟨x, rfl, _⟩ := Go.WideMaps.string_of_keyOf Tryz.underlying9 hkey; exact ⟨x, rfl⟩) (fun v y hv => ⟨v, rfl⟩)
    b r n D left cnt hit h hDone (fun x c kl y w' cnt' hkey hlk hv hat hrg hlt hgr hsz hen => by
      obtain ⟨x', ex, rfl, hwx⟩ := Go.WideMaps.string_of_keyOf Tryz.underlying9 hkey
      cases ex
      obtain ⟨d, ps⟩ := y
      obtain ⟨h1, h2⟩ := encS_inv hv
      exact hMore x c w' cnt' hwx h1 hlk (fun zd => by rw [hat zd]; exact h2) hrg hlt hgr hsz hen)
end Go.Proofs.YtmihbfmlnfhgcadGreatDoor.Cal
