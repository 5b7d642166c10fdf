/-
  MARKS: the scores of a paper out of the table; what Agreement adds up, as plain functions.
-/
import Derived.Test.YthhiefpickpiaaaGreatDoorCalTd
import Derived.Deep.AppendLies
import Derived.Test.YthhiefpickpiaaaGreatDoorCalS
namespace Go.Proofs.YthhiefpickpiaaaGreatDoor.Cal
open Go.ChangeShapes Go.WideShapes Go.ChangeAt Go.RowKit Stm Key
set_option linter.unusedVariables false

/-! ### The table behind what writes elsewhere -/
theorem Tab.below {w w' : World} {T : Nat} {l : List Mk} (h : Tab w T l) (hb : Below w.heap.size w w') : Tab w' T l := by
  obtain ⟨P, H, cP, cH, MP, MH, bo, bb, v, h1, h2, h3, h4, h5, h6, h7, h8⟩ := h
  exact ⟨P, H, cP, cH, MP, MH, bo, bb, v, h1.below hb h1.lt, h2.below hb, h3.below hb, h4.below hb, h5.below hb, h6.of_block (hb.block bo h6.lt), h7.of_block (hb.block bb h7.lt), fun i hi => (h8 i hi).below hb⟩
theorem Tab.lt {w : World} {T : Nat} {l : List Mk} (h : Tab w T l) : T < w.heap.size := by
  obtain ⟨P, H, cP, cH, MP, MH, bo, bb, v, h1, _⟩ := h
  exact h1.lt
/-- The scores of paper number p. -/
def scP (l : List Mk) (p : Nat) : List Int := (rowP (papersL l) (peopleL l) l p).map (·.2)
theorem scP_eq (l : List Mk) (p : Nat) : scP l p = (l.filter fun x => idx (papersL l) x.p == p).map (·.s) := by
  unfold scP rowP; rw [List.map_map]; rfl
theorem scP_mem {l : List Mk} (h : ∀ x ∈ l, 0 ≤ x.s ∧ x.s ≤ 10) (p : Nat) : ∀ y ∈ scP l p, 0 ≤ y ∧ y ≤ 10 := by
  intro y hy
  rw [scP_eq] at hy
  obtain ⟨x, hx, rfl⟩ := List.mem_map.1 hy
  exact h x (List.mem_filter.1 hx).1
theorem infoI1 : (Tryz.prog.info? 3).map (fun i => (i.zero, i.size, i.bytes)) = some (some (.int .i64 0), 1, 8) := by kernel_rfl
theorem row_il {w : World} {base n cap : Nat} {A : Option Addr} {l : List Int} (h : w.ownsRow base 3 1 (.slice A n cap) n (l.map (Value.int .i64))) (hL : l.length = n) (hok : ∀ x ∈ l, 0 ≤ x ∧ x ≤ 10) : IL w A l := by
  refine ⟨hok, fun h0 => ?_⟩
  rcases h.2 with ⟨e, e0⟩ | ⟨g, cap', cur, e, hb, hh, _⟩
  · omega
  · injection e with e1
    subst e1
    refine ⟨g, rfl, lt_of_block hh, fun i hi => ?_⟩
    have hc := h.cells (g := g) rfl i (.int .i64 l[i]) (by simp [List.getElem?_eq_getElem hi])
    rw [row_add'] at hc
    exact hc
theorem map_next2 {X : List (Nat × Int)} {k : Nat} (h : k < X.length) : ((X.take (k + 1)).map fun y => Value.int .i64 y.2) = ((X.take k).map fun y => Value.int .i64 y.2) ++ [.int .i64 X[k].2] := by
  rw [take_next X k h, List.map_append]; rfl
/-- A list of scores handed back. -/
def IRet (l : List Int) (w : World) (e : Ending) (w' : World) : Prop := ∃ (A : Option Addr) (c : Nat), e = .returned (.slice A l.length c) ∧ IL w' A l ∧ l.length ≤ c ∧ Below w.heap.size w w' ∧ (0 < l.length → ∃ g, A = some ⟨g, 0, none⟩ ∧ w.heap.size ≤ g)
set_option maxRecDepth 100000 in
set_option maxHeartbeats 4000000 in
theorem scores_walk (T p : Nat) (l : List Mk) (w : World) (hn : l.length ≤ 500) (hT : Tab w T l) (hp : p < (papersL l).length) (hs : ∀ x ∈ l, 0 ≤ x.s ∧ x.s ≤ 10) :
    Calls Tryz.prog 16 #[.pointer (some ⟨T, 0, none⟩), .int .i64 p, .int .i64 (-1)] w (IRet (scP l p) w) := by
  obtain ⟨P, H, cP, cH, MP, MH, bo, bb, v, h1, h2, h3, h4, h5, h6, h7, h8⟩ := hT
  have hX := h8 p (by omega)
  have eX : rowX (papersL l) (peopleL l) l p = rowP (papersL l) (peopleL l) l p := by unfold rowX; rw [if_pos hp]
  rw [eX] at hX
  have HSC := Lib.hid (show scP l p = (rowP (papersL l) (peopleL l) l p).map (·.2) from rfl)
  have HMEM := Lib.hid (scP_mem hs p)
  obtain ⟨X, hXe⟩ : ∃ X, rowP (papersL l) (peopleL l) l p = X := ⟨_, rfl⟩
  have hXl : X.length ≤ 500 := by
    have := rowX_len (papersL l) (peopleL l) l p; rw [eX, hXe] at this; omega
  rw [hXe] at hX
  have HSE := Lib.hid (show scP l p = X.map (·.2) by rw [HSC.out, hXe])
  obtain ⟨A, c, hv, hcells⟩ := hX
  obtain ⟨np, hnp⟩ : ∃ np, (papersL l).length = np := ⟨_, rfl⟩
  rw [hnp] at h1 h6 hp
  have t4 := h1.cell 4 _ rfl
  have r0 : w.cell? ⟨bo, p, none⟩ = some (.slice A X.length c) := by rw [h6.cell hp]; exact congrArg some hv
  obtain ⟨n, hn2⟩ : ∃ n, X.length = n := ⟨_, rfl⟩
  have HC := Lib.hid hcells
  have HN := Lib.hid hn2
  rw [hn2] at r0 hXl
  have hnpb : np ≤ 1000 := by
    rw [← hnp]; have := dedB_length (l.map Mk.p); rw [List.length_map] at this; unfold papersL; omega
  have a0 : (0 : Int) ≤ (p : Int) := by omega
  have a1 : (p : Int) < (np : Int) := by omega
  obtain ⟨i0, hi0, hz0, hz1', hz2'⟩ := info_parts infoI1
  have HI := Lib.hid hi0
  have Z0 := Lib.hid hz0
  have Z1 := Lib.hid hz1'
  have Z2 := Lib.hid hz2'
  clear hi0 hz0 hz1' hz2' h1 h2 h3 h4 h5 h6 h7 h8 eX hXe hv hcells hn2 hnp HSC hs
  go_enter Tryz.func16, Tryz.ntmps16
  go_wp2_with fail
  go_loopw [7, 18] (fun o i wr => ∃ (k : Nat) (Ao : Option Addr) (c2 : Nat), k ≤ n ∧ i = .int .i64 k ∧ o = .slice Ao k c2 ∧ Hid (wr.ownsRow w.heap.size 3 1 (.slice Ao k c2) k ((X.take k).map fun y => Value.int .i64 y.2)) ∧ Hid (Below w.heap.size w wr)) (fun _ i _ => n - (intOf i).toNat)
  case atStart => exact ⟨0, none, 0, Nat.zero_le _, rfl, rfl, Lib.hid (World.ownsRow_nil _ _ _ _), Lib.hid (Below.refl _ _)⟩
  case round =>
    obtain ⟨k, Ao, c2, hk, rfl, rfl, HO, HB⟩ := hrel
    have hzr := HB.out.size
    clear t4 r0 a0 a1
    by_cases hlt : k < n
    · have hkl : k < X.length := by rw [HN.out]; exact hlt
      obtain ⟨g, hA, hgW, hcl⟩ := HC.out (by omega)
      subst hA
      obtain ⟨d0, d1⟩ := hcl k hkl
      have c0 := (HB.out.cell (p := ⟨g, k * 2, none⟩) hgW).trans d0
      have c1 := (HB.out.cell (p := ⟨g, k * 2 + 1, none⟩) hgW).trans d1
      have HNX := Lib.hid (map_next2 hkl)
      clear hcl d0 d1
      obtain ⟨xa, hxa⟩ : ∃ xa, X[k].1 = xa := ⟨_, rfl⟩
      obtain ⟨xs, hxs⟩ : ∃ xs, X[k].2 = xs := ⟨_, rfl⟩
      rw [hxs] at HNX
      rw [hxa] at c0
      rw [hxs] at c1
      have b0 : (0 : Int) ≤ (k : Int) := by omega
      have b1 : (k : Int) < (n : Int) := by omega
      have hne : ((xa : Int) != -1) = true := by simp
      have B1 := Lib.hid (HB.out.alloc hzr (.cells #[.int .i64 (xa : Int), .int .i64 xs] 76))
      have O1 := Lib.hid (own_below HO.out ((Below.refl _ _).alloc (Nat.le_refl _) (.cells #[.int .i64 (xa : Int), .int .i64 xs] 76)))
      clear hxa hxs HO HB
      go_wp2_with (at_builtin; (refine wpList_append_lies _ rfl _ _ _ rfl w.heap.size 3 i0 _ 1 8 Tryz.underlying22 HI.out Z0.out Z1.out Z2.out rfl (by omega) (.slice Ao k c2) k ((X.take k).map fun y => Value.int .i64 y.2) rfl (O1.out.alloc _) ⟨wr.heap.size + 1, 0, none⟩ 1 1 [.int .i64 xs] rfl rfl (World.news_of_block (cs := #[.int .i64 xs]) (t := 3) (fr := (0, 0)) (new_at (by simp))) (by simp [Value.oneCell']) (by omega) (by unfold maxLen; omega) (by omega) (by simp; omega) (wr.heap.size + 1 + 1) (by simp) ?_); intro gg cap' w5 hown hgrow hat hgl; (have O5 := Lib.hid (show w5.ownsRow w.heap.size 3 1 (.slice (some ⟨gg, 0, none⟩) (k + 1) cap') (k + 1) ((X.take (k + 1)).map fun y => Value.int .i64 y.2) by rw [HNX.out]; exact hown)); (have B5 := Lib.hid ((B1.out.alloc B1.out.size (.cells #[.int .i64 xs] 3)).trans (grownB hgrow (fun g e => (O1.out.lt g e).1) (by simp; omega)))); clear hown hgrow hat)
      go_roundw
      case rel => exact ⟨k + 1, _, _, by omega, by go_num, rfl, O5, B5⟩
      case measure => simp [intOf]; omega
    · have hkn : k = n := by omega
      subst hkn
      have hO := HO.out
      rw [List.take_of_length_le (by rw [HN.out]; exact Nat.le_refl _)] at hO
      have e2 : (X.map fun y => Value.int .i64 y.2) = (scP l p).map (Value.int .i64) := by rw [HSE.out, List.map_map]; rfl
      rw [e2] at hO
      have hlen : (scP l p).length = k := by rw [HSE.out, List.length_map, HN.out]
      have FIN := Lib.hid (show IRet (scP l p) w (.returned (.slice Ao k c2)) wr by
        refine ⟨Ao, c2, by rw [hlen], row_il hO hlen HMEM.out, by rw [hlen]; exact row_cap hO, HB.out, fun h0 => ?_⟩
        rcases hO.2 with ⟨e, e0⟩ | ⟨g, cap', cur, e, hb, _⟩
        · omega
        · injection e with e1; exact ⟨g, e1, hb⟩)
      clear hO e2 hlen HO
      go_wp2_with fail
      go_ret
      exact FIN.out

/-! ### What Agreement adds up -/
def agW (f : Nat → List Int) : Nat → Int
  | 0 => 0
  | k + 1 => agW f k + (if (f k).length < 2 then 0 else difI (f k) * (27720 / (((f k).length : Int) - 1)))
def agA (f : Nat → List Int) : Nat → List Int
  | 0 => []
  | k + 1 => agA f k ++ (if (f k).length < 2 then [] else f k)
def agR (f : Nat → List Int) (n : Nat) : Int × Int :=
  if difI (agA f n) * 27720 = 0 then (1, 1) else lowZ (difI (agA f n) * 27720 - (((agA f n).length : Int) - 1) * agW f n) (difI (agA f n) * 27720)
theorem filt_split {α : Type} (q : α → Nat) (k : Nat) : ∀ l : List α, (l.filter fun x => decide (q x < k + 1)).length = (l.filter fun x => decide (q x < k)).length + (l.filter fun x => q x == k).length
  | [] => rfl
  | x :: t => by
    have ih := filt_split q k t
    simp only [List.filter_cons]
    by_cases h1 : q x < k
    · have h2 : ¬ q x = k := by omega
      have h3 : q x < k + 1 := by omega
      simp [h1, h2, h3, ih]; omega
    · by_cases h2 : q x = k
      · have h3 : q x < k + 1 := by omega
        simp [h2, ih]; omega
      · have h3 : ¬ q x < k + 1 := by omega
        simp [h1, h2, h3, ih]
theorem agA_len (l : List Mk) (k : Nat) : (agA (scP l) k).length ≤ l.length := by
  have h : ∀ k, (agA (scP l) k).length ≤ (l.filter fun x => decide (idx (papersL l) x.p < k)).length := by
    intro k
    induction k with
    | zero => exact Nat.zero_le _
    | succ k ih =>
      rw [filt_split (fun x : Mk => idx (papersL l) x.p) k l]
      show (agA (scP l) k ++ _).length ≤ _
      rw [List.length_append]
      have : (if (scP l k).length < 2 then ([] : List Int) else scP l k).length ≤ (l.filter fun x => idx (papersL l) x.p == k).length := by
        split
        · exact Nat.zero_le _
        · rw [scP_eq, List.length_map]; exact Nat.le_refl _
      omega
  exact Nat.le_trans (h k) (List.length_filter_le _ _)
theorem agA_mem {f : Nat → List Int} (h : ∀ p, ∀ y ∈ f p, 0 ≤ y ∧ y ≤ 10) : ∀ k, ∀ y ∈ agA f k, 0 ≤ y ∧ y ≤ 10
  | 0, y, hy => by simp [agA] at hy
  | k + 1, y, hy => by
    rcases List.mem_append.1 hy with h1 | h1
    · exact agA_mem h k y h1
    · split at h1
      · simp at h1
      · exact h k y h1
end Go.Proofs.YthhiefpickpiaaaGreatDoor.Cal
