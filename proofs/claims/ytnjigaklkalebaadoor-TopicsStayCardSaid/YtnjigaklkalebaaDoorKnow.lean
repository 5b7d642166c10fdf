/-
  WHAT THE PROGRAM KNOWS (package topic): knowledge.
-/
import Derived.Test.YtnjigaklkalebaaDoorKnowM
import Derived.Laws.OwnMore
import Derived.BigQuiet
namespace Go.Proofs.YtnjigaklkalebaaDoor.For
open Go.ChangeShapes Go.WideShapes Go.ChangeAt Go.RowKit Stm Key
set_option linter.unusedVariables false

theorem look_run (M : Nat) (l : List Tp) (s : ByteArray) (w : World) (hN : NM w M l) (hs : s.size ≤ 1000) (c : Int) (hc : lkI l s = c) :
    (Instr.lookup 66 (.map (some M)) (.string s) false).run Tryd.prog w = .ok (.int .i64 c) w := by
  have hown : w.ownsMap Tryd.prog 9 (plainElem Tryd.prog 3) M l.length (numD l l.length) := hN
  obtain ⟨c', hrun, hat, _⟩ := hown.lookup_int keyLaw Tryd.underlying66 Tryd.underlying3 (zeroI _) (key := .string s) (Go.WideMaps.keyOf_string_mk Tryd.underlying9 (by unfold maxLen; omega))
  rw [hrun, (look_any l s).2 c' hat, hc]
/-- What is known of n topics, in memory. -/
def KNs (w : World) (g n : Nat) (f : Nat → Nat × ByteArray) : Prop := g < w.heap.size ∧ ∀ i, i < n → w.cell? ⟨g, i * 2, none⟩ = some (.int .i64 ((f i).1 : Nat)) ∧ w.cell? ⟨g, i * 2 + 1, none⟩ = some (.string (f i).2)
theorem KNs.below {w w' : World} {g n : Nat} {f : Nat → Nat × ByteArray} (h : KNs w g n f) (hb : Below w.heap.size w w') : KNs w' g n f :=
  ⟨Nat.lt_of_lt_of_le h.1 hb.size, fun i hi => ⟨(hb.cell (p := ⟨g, i * 2, none⟩) h.1).trans (h.2 i hi).1, (hb.cell (p := ⟨g, i * 2 + 1, none⟩) h.1).trans (h.2 i hi).2⟩⟩
def KC (cs : Array Value) (j : Nat) (p : Nat × ByteArray) : Prop := cs[j * 2]? = some (.int .i64 (p.1 : Nat)) ∧ cs[j * 2 + 1]? = some (.string p.2)
theorem KC.ne {cs : Array Value} {i j : Nat} {p : Nat × ByteArray} {u v : Value} (h : KC cs j p) (hij : j ≠ i) : KC ((cs.setIfInBounds (i * 2) u).setIfInBounds (i * 2 + 1) v) j p := by
  unfold KC at h ⊢
  rw [Array.getElem?_setIfInBounds_ne (by omega), Array.getElem?_setIfInBounds_ne (by omega), Array.getElem?_setIfInBounds_ne (by omega), Array.getElem?_setIfInBounds_ne (by omega)]
  exact h
theorem KC.eq {cs : Array Value} {i n : Nat} (p : Nat × ByteArray) (hs : cs.size = n * 2) (hi : i < n) : KC ((cs.setIfInBounds (i * 2) (.int .i64 (p.1 : Nat))).setIfInBounds (i * 2 + 1) (.string p.2)) i p := by
  unfold KC
  constructor
  · rw [Array.getElem?_setIfInBounds_ne (by omega), Array.getElem?_setIfInBounds_self_of_lt (by omega)]
  · rw [Array.getElem?_setIfInBounds_self_of_lt (by simp; omega)]
theorem infoN : (Tryd.prog.info? 62).map (fun i => (i.zero, i.size, i.bytes)) = some (some (.agg #[.int .i64 0, .string ⟨#[]⟩]), 2, 24) := by kernel_rfl
theorem make_knowns (n : Nat) (hn : n ≤ 1000) : ∃ cs : Array Value, cs.size = n * 2 ∧ (∀ j, j < n → KC cs j (0, ⟨#[]⟩)) ∧ ∀ W : World, (Instr.makeSlice 59 (.int .i64 n) (.int .i64 n)).run Tryd.prog W = .ok (.slice (some ⟨W.heap.size, 0, none⟩) n n) (W.alloc (.cells cs 62)) := by
  obtain ⟨i0, hi, hz0, hz1, hz2⟩ := info_parts infoN
  refine ⟨madeCells (Value.agg #[.int .i64 0, .string ⟨#[]⟩]).cells (n * i0.size), ?_, ?_, fun W => ?_⟩
  · rw [hz1, size_madeCells]
  · intro j hj
    rw [hz1]
    unfold KC
    have e1 : j * 2 < n * 2 := by omega
    have e2 : j * 2 + 1 < n * 2 := by omega
    constructor
    · simp [madeCells, e1, Value.cells]
    · simp [madeCells, e2, Value.cells, Nat.add_mod]
  · have h := run_makeSlice (P := Tryd.prog) W 59 62 i0 (.agg #[.int .i64 0, .string ⟨#[]⟩]) Tryd.underlying59 hi hz0 .i64 .i64 n n (by omega) (Int.le_refl _) (by rw [hz1]; simp; omega) (by rw [hz2]; omega) (by omega)
    simpa using h
theorem blk_kns {w : World} {g n : Nat} {cs : Array Value} {f : Nat → Nat × ByteArray} (h : Blk w g 62 cs) (hc : ∀ j, j < n → KC cs j (f j)) : KNs w g n f :=
  ⟨h.lt, fun i hi => ⟨h.cell _ _ (hc i hi).1, h.cell _ _ (hc i hi).2⟩⟩
def KnRet (n : Nat) (f : Nat → Nat × ByteArray) (w : World) (e : Ending) (w' : World) : Prop := ∃ g, e = .returned (.slice (some ⟨g, 0, none⟩) n n) ∧ KNs w' g n f ∧ Below w.heap.size w w'
end Go.Proofs.YtnjigaklkalebaaDoor.For
