/-
  MARKS: committeekeep1.agrees.
-/
import Derived.Test.YtgajencgpceababGreatDoorCalV
import Derived.Shelf.Sort.Plain
import Derived.Shelf.Slices.CompactI
import Derived.Shelf.Slices.In.SortNone
import Derived.Sort.OwnSortedInts
namespace Go.Proofs.YtgajencgpceababGreatDoor.Cal
open Go.Shelf Go.Lib Go.Sort
open Go.ChangeShapes Go.WideShapes Go.ChangeAt Go.RowKit Stm Key
set_option linter.unusedVariables false

/-! ### Sorted and compacted numbers -/
theorem cuI_mem (d : Array Int) : ∀ m, m ≤ d.size → ∀ x, x ∈ compactUpTo d m ↔ ∃ j, j < m ∧ d[j]! = x
  | 0, _, x => by simp [compactUpTo]
  | m + 1, hm, x => by
    rw [compactUpTo_succ, List.mem_append, cuI_mem d m (by omega) x]
    by_cases hk : keeps d m = true
    · rw [if_pos hk, List.mem_singleton]
      constructor
      · rintro (⟨j, hj, e⟩ | e)
        · exact ⟨j, by omega, e⟩
        · exact ⟨m, by omega, e.symm⟩
      · rintro ⟨j, hj, e⟩
        by_cases h : j = m
        · subst h; exact Or.inr e.symm
        · exact Or.inl ⟨j, by omega, e⟩
    · rw [if_neg hk]
      have hk2 : m ≠ 0 ∧ d[m]! = d[m - 1]! := by
        unfold keeps at hk
        simp only [decide_eq_true_eq, not_or, ne_eq] at hk
        exact ⟨hk.1, Classical.not_not.1 hk.2⟩
      constructor
      · rintro (⟨j, hj, e⟩ | e)
        · exact ⟨j, by omega, e⟩
        · simp at e
      · rintro ⟨j, hj, e⟩
        by_cases h : j = m
        · subst h; exact Or.inl ⟨j - 1, by omega, by rw [← hk2.2]; exact e⟩
        · exact Or.inl ⟨j, by omega, e⟩
theorem compactI_mem (zs : List Int) (x : Int) : x ∈ compact zs ↔ x ∈ zs := by
  unfold compact
  rw [cuI_mem _ _ (by simp), List.mem_iff_getElem]
  constructor
  · rintro ⟨j, hj, e⟩; exact ⟨j, hj, by rw [← e]; simp [getElem!_pos, hj]⟩
  · rintro ⟨j, hj, e⟩; exact ⟨j, hj, by rw [← e]; simp [getElem!_pos, hj]⟩
theorem compactI_few (zs : List Int) (h : allEq zs) : (compact zs).length ≤ 1 := by
  unfold compact
  have : ∀ m, m ≤ zs.length → (compactUpTo zs.toArray m).length ≤ 1 := by
    intro m
    induction m with
    | zero => intro _; simp [compactUpTo]
    | succ m ih =>
      intro hm
      rw [compactUpTo_succ]
      by_cases h0 : m = 0
      · subst h0
        simp [compactUpTo]; split <;> simp
      · have hk : keeps zs.toArray m = false := keeps_neg (by omega) (by
          have e1 : zs.toArray[m]! = zs[m]'(by omega) := by simp [getElem!_pos, show m < zs.length by omega]
          have e2 : zs.toArray[m - 1]! = zs[m - 1]'(by omega) := by simp [getElem!_pos, show m - 1 < zs.length by omega]
          rw [e1, e2]; exact h _ (List.getElem_mem _) _ (List.getElem_mem _))
        rw [hk]; simpa using ih (by omega)
  exact this _ (Nat.le_refl _)
theorem compactI_lt (zs : List Int) : (compact (zs.mergeSort fun x y => decide (x ≤ y))).length < 2 ↔ allEq zs := by
  constructor
  · intro h a ha b hb
    have h1 := (compactI_mem _ a).2 (List.mem_mergeSort.2 ha : a ∈ zs.mergeSort fun x y => decide (x ≤ y))
    have h2 := (compactI_mem _ b).2 (List.mem_mergeSort.2 hb : b ∈ zs.mergeSort fun x y => decide (x ≤ y))
    match hx : compact (zs.mergeSort fun x y => decide (x ≤ y)) with
    | [] => rw [hx] at h1; simp at h1
    | [y] => rw [hx] at h1 h2; simp at h1 h2; rw [h1, h2]
    | _ :: _ :: _ => rw [hx] at h; simp only [List.length_cons] at h; omega
  · intro h
    have : allEq (zs.mergeSort fun x y => decide (x ≤ y)) := fun a ha b hb => h a (List.mem_mergeSort.1 ha) b (List.mem_mergeSort.1 hb)
    have := compactI_few _ this
    omega
theorem sortsI_own (base n cap : Nat) (A : Option Addr) (zs : List Int) (w : World) (hn : zs.length = n) (h12 : n ≤ 1000000) (hr : w.ownsRow base 3 1 (.slice A n cap) n (zs.map (Value.int .i64))) :
    Calls Tryz.prog 22 #[.slice A n cap] w fun e w' => e = .returned (.tuple #[]) ∧ w'.ownsRow base 3 1 (.slice A n cap) n ((zs.mergeSort fun x y => decide (x ≤ y)).map (Value.int .i64)) ∧ (base ≤ w.heap.size → Below base w w') := by
  have hR := hr
  rcases hr.2 with ⟨hnil, h0⟩ | ⟨g', cap', cur, hv, hbase, hblk, h1, h2, h3, h4⟩
  · subst h0
    refine (Any.slices_Sort_int_none Tryz.lays189 A cap w).mono ?_
    rintro e w' ⟨rfl, rfl⟩
    obtain rfl := List.length_eq_zero_iff.1 hn
    exact ⟨rfl, by simpa using hR, fun _ => Below.refl _ _⟩
  injection hv with hv hv2 hv3
  subst hv
  subst hv3
  have hglt : g' < w.heap.size := (Array.getElem?_eq_some_iff.1 hblk).1
  have hH : Holds (Value.int .i64) w g' 0 zs.toArray := holds_of_blockI hblk (by rw [hn]; simpa using h4)
  have hcon := Any.slices_Sort_int Tryz.lays189 g' 0 cap zs w hH hglt (by omega)
  rw [hn] at hcon
  refine hcon.mono ?_
  rintro e w' ⟨rfl, m, os, rfl⟩
  have hown := ownsRow_sortedI (n := m) (os := os) (ss := zs) (ts := zs.mergeSort fun x y => decide (x ≤ y)) (by rw [List.length_mergeSort]) hbase hblk (by rw [hn]; exact h1) h2 h3
  rw [hn] at hown
  refine ⟨rfl, hown, fun hb => (Below.refl _ _).grown (grownBy_sortedI _) hb (fun k hk => by injection hk with hk; omega)⟩
theorem compactsI_own (base n cap : Nat) (A : Option Addr) (zs : List Int) (w : World) (hn : zs.length = n) (h12 : n ≤ 1000000) (hr : w.ownsRow base 3 1 (.slice A n cap) n (zs.map (Value.int .i64))) :
    Calls Tryz.prog 23 #[.slice A n cap] w fun e w' => e = .returned (.slice A (compact zs).length cap) ∧ (base ≤ w.heap.size → Below base w w') := by
  have hR := hr
  rcases hr.2 with ⟨hnil, h0⟩ | ⟨g', cap', cur, hv, hbase, hblk, h1, h2, h3, h4⟩
  · subst h0
    refine (Any.slices_Compact_int_empty Tryz.laysNm220 A cap w).mono ?_
    rintro e w' ⟨rfl, rfl⟩
    obtain rfl := List.length_eq_zero_iff.1 hn
    exact ⟨rfl, fun _ => Below.refl _ _⟩
  injection hv with hv hv2 hv3
  subst hv
  subst hv3
  have hH : Holds (Value.int .i64) w g' 0 zs.toArray := holds_of_blockI hblk (by rw [hn]; simpa using h4)
  have hcon := Any.slices_Compact_int Tryz.laysNm220 g' 0 cap zs w hH (by omega) (by omega)
  rw [hn] at hcon
  refine hcon.mono ?_
  rintro e w' ⟨rfl, q, rfl⟩
  refine ⟨rfl, fun hb => ?_⟩
  have hg := grownBy_sortedI (w := w) (g := g') (n := q) (os := #[]) (compact zs ++ List.replicate (n - (compact zs).length) 0).toArray
  rw [grow_empty] at hg
  exact (Below.refl _ _).grown hg hb (fun k hk => by injection hk with hk; omega)

/-! ### All pairs of marks of one paper -/
def Done (i k a b : Nat) : Prop := a < i ∨ (a = i ∧ b < k)
def OneU (l : List Mk) (i k : Nat) : Prop := ∀ a b x y, Done i k a b → l[a]? = some x → l[b]? = some y → a ≠ b → x.p = y.p → x.s = y.s
def MemU (l : List Mk) (i k : Nat) (s : Int) : Prop := ∃ a b x y, Done i k a b ∧ l[a]? = some x ∧ l[b]? = some y ∧ a ≠ b ∧ x.p = y.p ∧ x.s = s
theorem done_next {i k a b : Nat} : Done i (k + 1) a b ↔ Done i k a b ∨ (a = i ∧ b = k) := by unfold Done; omega
theorem one_hit {l : List Mk} {i k : Nat} {x y : Mk} (hx : l[i]? = some x) (hy : l[k]? = some y) (hne : i ≠ k) (hp : x.p = y.p) : OneU l i (k + 1) ↔ OneU l i k ∧ x.s = y.s := by
  constructor
  · intro h
    exact ⟨fun a b u v hd => h a b u v (done_next.2 (Or.inl hd)), h i k x y (done_next.2 (Or.inr ⟨rfl, rfl⟩)) hx hy hne hp⟩
  · rintro ⟨h, hs⟩ a b u v hd hu hv hab hpp
    rcases done_next.1 hd with hd | ⟨rfl, rfl⟩
    · exact h a b u v hd hu hv hab hpp
    · rw [hx] at hu; rw [hy] at hv
      injection hu with hu; injection hv with hv
      subst hu; subst hv; exact hs
theorem one_miss {l : List Mk} {i k : Nat} {x y : Mk} (hx : l[i]? = some x) (hy : l[k]? = some y) (hn : ¬ (i ≠ k ∧ x.p = y.p)) : OneU l i (k + 1) ↔ OneU l i k := by
  constructor
  · intro h a b u v hd; exact h a b u v (done_next.2 (Or.inl hd))
  · intro h a b u v hd hu hv hab hpp
    rcases done_next.1 hd with hd | ⟨rfl, rfl⟩
    · exact h a b u v hd hu hv hab hpp
    · rw [hx] at hu; rw [hy] at hv
      injection hu with hu; injection hv with hv
      subst hu; subst hv; exact absurd ⟨hab, hpp⟩ hn
theorem mem_hit {l : List Mk} {i k : Nat} {x y : Mk} (hx : l[i]? = some x) (hy : l[k]? = some y) (hne : i ≠ k) (hp : x.p = y.p) (s : Int) : MemU l i (k + 1) s ↔ MemU l i k s ∨ s = x.s := by
  constructor
  · rintro ⟨a, b, u, v, hd, hu, hv, hab, hpp, hs⟩
    rcases done_next.1 hd with hd | ⟨rfl, rfl⟩
    · exact Or.inl ⟨a, b, u, v, hd, hu, hv, hab, hpp, hs⟩
    · rw [hx] at hu; injection hu with hu; subst hu; exact Or.inr hs.symm
  · rintro (⟨a, b, u, v, hd, h⟩ | rfl)
    · exact ⟨a, b, u, v, done_next.2 (Or.inl hd), h⟩
    · exact ⟨i, k, x, y, done_next.2 (Or.inr ⟨rfl, rfl⟩), hx, hy, hne, hp, rfl⟩
theorem mem_miss {l : List Mk} {i k : Nat} {x y : Mk} (hx : l[i]? = some x) (hy : l[k]? = some y) (hn : ¬ (i ≠ k ∧ x.p = y.p)) (s : Int) : MemU l i (k + 1) s ↔ MemU l i k s := by
  constructor
  · rintro ⟨a, b, u, v, hd, hu, hv, hab, hpp, hs⟩
    rcases done_next.1 hd with hd | ⟨rfl, rfl⟩
    · exact ⟨a, b, u, v, hd, hu, hv, hab, hpp, hs⟩
    · rw [hx] at hu; rw [hy] at hv
      injection hu with hu; injection hv with hv
      subst hu; subst hv; exact absurd ⟨hab, hpp⟩ hn
  · rintro ⟨a, b, u, v, hd, h⟩; exact ⟨a, b, u, v, done_next.2 (Or.inl hd), h⟩
theorem done_row {l : List Mk} {i a b : Nat} {y : Mk} (hy : l[b]? = some y) : Done i l.length a b ↔ Done (i + 1) 0 a b := by
  have hb : b < l.length := (List.getElem?_eq_some_iff.1 hy).1
  unfold Done; omega
theorem one_row {l : List Mk} {i : Nat} : OneU l i l.length ↔ OneU l (i + 1) 0 :=
  ⟨fun h a b u v hd hu hv => h a b u v ((done_row hv).2 hd) hu hv, fun h a b u v hd hu hv => h a b u v ((done_row hv).1 hd) hu hv⟩
theorem mem_row {l : List Mk} {i : Nat} (s : Int) : MemU l i l.length s ↔ MemU l (i + 1) 0 s :=
  ⟨fun ⟨a, b, u, v, hd, hu, hv, h⟩ => ⟨a, b, u, v, (done_row hv).1 hd, hu, hv, h⟩, fun ⟨a, b, u, v, hd, hu, hv, h⟩ => ⟨a, b, u, v, (done_row hv).2 hd, hu, hv, h⟩⟩
theorem own_ne_blk {w : World} {base E S n B : Nat} {v : Value} {xs : List Value} {t : TypeId} {cs : Array Value} (h : w.ownsRow base E S v n xs) (hB : Blk w B t cs) (ht : t ≠ E) : v.ownBlock ≠ some B := by
  rcases h.2 with ⟨e, _⟩ | ⟨g, cap, cur, e, hb, hh, _⟩
  · rw [e]; simp [Value.ownBlock]
  · rw [e]
    intro h2
    have := own_some h2
    subst this
    unfold Blk at hB
    rw [hB] at hh
    injection hh with hh
    injection hh with _ hh
    exact ht hh
/-- What agrees hands back. -/
def AgB (l : List Mk) (w : World) (e : Ending) (w' : World) : Prop := ∃ b : Bool, e = .returned (.bool b) ∧ (b = true ↔ OneU l l.length 0 ∨ ∀ s t, MemU l l.length 0 s → MemU l l.length 0 t → s = t) ∧ Below w.heap.size w w'
end Go.Proofs.YtgajencgpceababGreatDoor.Cal
