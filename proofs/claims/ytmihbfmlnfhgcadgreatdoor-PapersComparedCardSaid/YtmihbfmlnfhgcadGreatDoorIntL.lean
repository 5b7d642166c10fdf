/-
  LISTS OF INTEGERS IN MEMORY: a row read as a list; sorted; the mean of scores.
-/
import Derived.Test.YtmihbfmlnfhgcadGreatDoorCalS
import Derived.Test.YtmihbfmlnfhgcadGreatDoorShelf
import Derived.Deep.AppendLies
import Derived.Handy
import Derived.RegionTactic
import Derived.Shelf.Sort.Plain
import Derived.Shelf.Slices.In.SortNone
import Derived.Sort.OwnSortedInts
import Derived.IntWalk
namespace Go.Proofs.YtmihbfmlnfhgcadGreatDoor.Cal
open Go.Shelf Go.Lib Go.Sort
open Go.ChangeShapes Go.WideShapes Go.ChangeAt Go.RowKit Stm Key
set_option linter.unusedVariables false

theorem infoI1 : (Tryz.prog.info? 3).map (fun i => (i.zero, i.size, i.bytes)) = some (some (.int .i64 0), 1, 8) := by kernel_rfl
theorem row_il {w : World} {base n cap : Nat} {A : Option Addr} {l : List Int} (h : w.ownsRow base 3 1 (.slice A n cap) n (l.map (Value.int .i64))) (hL : l.length = n) (hok : ∀ x ∈ l, 0 ≤ x ∧ x ≤ 10) : IL w A l := by
  refine ⟨hok, fun h0 => ?_⟩
  rcases h.2 with ⟨e, e0⟩ | ⟨g, cap', cur, e, hb, hh, _⟩
  · omega
  · injection e with e1
    subst e1
    refine ⟨g, rfl, lt_of_block hh, fun i hi => ?_⟩
    have hc := h.cells (g := g) rfl i (.int .i64 l[i]) (by simp [List.getElem?_eq_getElem hi])
    rw [row_add'] at hc
    exact hc
def srtI (zs : List Int) : List Int := zs.mergeSort fun x y => decide (x ≤ y)
theorem srtI_perm (zs : List Int) : (srtI zs).Perm zs := List.mergeSort_perm _ _
theorem perm_sum {a b : List Int} (h : a.Perm b) : a.sum = b.sum := by
  induction h with
  | nil => rfl
  | cons x _ ih => rw [List.sum_cons, List.sum_cons, ih]
  | swap x y l => rw [List.sum_cons, List.sum_cons, List.sum_cons, List.sum_cons]; omega
  | trans _ _ ih1 ih2 => rw [ih1, ih2]
theorem srtI_sum (zs : List Int) : sumI (srtI zs) = sumI zs := perm_sum (srtI_perm zs)
theorem srtI_sq (zs : List Int) : sqI (srtI zs) = sqI zs := perm_sum ((srtI_perm zs).map _)
theorem srtI_dif (zs : List Int) : difI (srtI zs) = difI zs := by unfold difI; rw [srtI_sum, srtI_sq, (srtI_perm zs).length_eq]
theorem sortsI_own (base n cap : Nat) (A : Option Addr) (zs : List Int) (w : World) (hn : zs.length = n) (h12 : n ≤ 1000000) (hr : w.ownsRow base 3 1 (.slice A n cap) n (zs.map (Value.int .i64))) :
    Calls Tryz.prog 40 #[.slice A n cap] w fun e w' => e = .returned (.tuple #[]) ∧ w'.ownsRow base 3 1 (.slice A n cap) n ((srtI zs).map (Value.int .i64)) ∧ (base ≤ w.heap.size → Below base w w') := by
  have hR := hr
  rcases hr.2 with ⟨hnil, h0⟩ | ⟨g', cap', cur, hv, hbase, hblk, h1, h2, h3, h4⟩
  · subst h0
    refine (Any.slices_Sort_int_none Tryz.lays189 A cap w).mono ?_
    rintro e w' ⟨rfl, rfl⟩
    obtain rfl := List.length_eq_zero_iff.1 hn
    exact ⟨rfl, by simpa [srtI] using hR, fun _ => Below.refl _ _⟩
  injection hv with hv hv2 hv3
  subst hv
  subst hv3
  have hglt : g' < w.heap.size := (Array.getElem?_eq_some_iff.1 hblk).1
  have hH : Holds (Value.int .i64) w g' 0 zs.toArray := holds_of_blockI hblk (by rw [hn]; simpa using h4)
  have hcon := Any.slices_Sort_int Tryz.lays189 g' 0 cap zs w hH hglt (by omega)
  rw [hn] at hcon
  refine hcon.mono ?_
  rintro e w' ⟨rfl, m, os, rfl⟩
  have hown := ownsRow_sortedI (n := m) (os := os) (ss := zs) (ts := srtI zs) ((srtI_perm zs).length_eq) hbase hblk (by rw [hn]; exact h1) h2 h3
  rw [hn] at hown
  refine ⟨rfl, hown, fun hb => (Below.refl _ _).grown (grownBy_sortedI _) hb (fun k hk => by injection hk with hk; omega)⟩
set_option maxHeartbeats 1000000 in
theorem mean_walk (A : Option Addr) (n cap : Nat) (l : List Int) (w : World) (hn : l.length = n) (hn2 : n ≤ 1000) (hn1 : 1 ≤ n) (hI : IL w A l) :
    Calls Tryz.prog 46 #[.slice A n cap] w fun e w' => e = .returned (.agg #[.int .i64 (lowZ (sumI l) n).1, .int .i64 (lowZ (sumI l) n).2]) ∧ Below w.heap.size w w' := by
  have HS := Lib.hid (fun W (h : Below w.heap.size w W) => sum_walk A n cap l W hn hn2 (hI.below h))
  have hb := sumI_bd l hI.1
  rw [hn] at hb
  obtain ⟨t, ht⟩ : ∃ t, sumI l = t := ⟨_, rfl⟩
  rw [ht] at hb HS ⊢
  obtain ⟨hb0, hb1⟩ := hb
  have hb2 : t ≤ 10000 := by omega
  clear hn hI ht hb1
  go_enter Tryz.func46, Tryz.ntmps46
  go_wp2_with fail
  refine (HS.out _ ((Below.refl _ _).alloc (Nat.le_refl _) _)).mono ?_; rintro e w1 ⟨rfl, rfl⟩
  go_wp2_with fail
  refine (lowZ_any t n _ (by omega) (by omega) (by omega) (by omega)).mono ?_; rintro e w2 ⟨rfl, hb⟩
  have RB := Lib.hid ((Blk.new w 71 #[.int .i64 0, .int .i64 0]).below hb (by simp))
  have HB := Lib.hid (((Below.refl _ _).alloc (Nat.le_refl _) (.cells #[.int .i64 0, .int .i64 0] 71)).trans (hb.mono (by simp)) : Below w.heap.size w w2)
  have f0 := RB.out.frozen 0
  have f1 := RB.out.frozen 1
  have q0 := RB.out.cell 0 _ rfl
  have q1 := RB.out.cell 1 _ rfl
  obtain ⟨u, hu⟩ : ∃ u, lowZ t n = u := ⟨_, rfl⟩
  rw [hu]
  have HU := Lib.hid hu
  clear hb hu HS
  go_wp2_with fail
  refine bodyPost_ret (v := .agg #[.int .i64 u.1, .int .i64 u.2]) (by simp only [results, Tryz.results46]; go_simp) rfl ⟨by rw [HU.out], (HB.out.setCell (p := ⟨w.heap.size, 0, none⟩) (Nat.le_refl _) _).setCell (p := ⟨w.heap.size, 1, none⟩) (Nat.le_refl _) _⟩
/-! ### The scores of a paper in the list -/
def scB (l : List Mk) (p : ByteArray) : List Int := (l.filter fun x => eqB x.p p).map (·.s)
theorem scB_next {l : List Mk} {p : ByteArray} {k : Nat} (h : k < l.length) : scB (l.take (k + 1)) p = scB (l.take k) p ++ (if eqB l[k].p p then [l[k].s] else []) := by
  unfold scB
  rw [take_next l k h, List.filter_append, List.map_append]
  cases he : eqB l[k].p p <;> simp [he]
theorem scB_len (l : List Mk) (p : ByteArray) : (scB l p).length ≤ l.length := by unfold scB; rw [List.length_map]; exact List.length_filter_le _ _
theorem scB_mem {l : List Mk} (h : ∀ x ∈ l, 0 ≤ x.s ∧ x.s ≤ 10) (p : ByteArray) : ∀ y ∈ scB l p, 0 ≤ y ∧ y ≤ 10 := by
  intro y hy
  obtain ⟨x, hx, rfl⟩ := List.mem_map.1 hy
  exact h x (List.mem_filter.1 hx).1
theorem sortsI_grown (base n cap : Nat) (A : Option Addr) (zs : List Int) (w : World) (hn : zs.length = n) (h12 : n ≤ 1000000) (hr : w.ownsRow base 3 1 (.slice A n cap) n (zs.map (Value.int .i64))) :
    Calls Tryz.prog 40 #[.slice A n cap] w fun e w' => e = .returned (.tuple #[]) ∧ w'.ownsRow base 3 1 (.slice A n cap) n ((srtI zs).map (Value.int .i64)) ∧ w.grownBy w' (Value.slice A n cap).ownBlock := by
  have hR := hr
  rcases hr.2 with ⟨hnil, h0⟩ | ⟨g', cap', cur, hv, hbase, hblk, h1, h2, h3, h4⟩
  · subst h0
    refine (Any.slices_Sort_int_none Tryz.lays189 A cap w).mono ?_
    rintro e w' ⟨rfl, rfl⟩
    obtain rfl := List.length_eq_zero_iff.1 hn
    exact ⟨rfl, by simpa [srtI] using hR, ⟨rfl, rfl, rfl, Nat.le_refl _, fun _ _ _ => rfl⟩⟩
  injection hv with hv hv2 hv3
  subst hv
  subst hv3
  have hglt : g' < w.heap.size := (Array.getElem?_eq_some_iff.1 hblk).1
  have hH : Holds (Value.int .i64) w g' 0 zs.toArray := holds_of_blockI hblk (by rw [hn]; simpa using h4)
  have hcon := Any.slices_Sort_int Tryz.lays189 g' 0 cap zs w hH hglt (by omega)
  rw [hn] at hcon
  refine hcon.mono ?_
  rintro e w' ⟨rfl, m, os, rfl⟩
  have hown := ownsRow_sortedI (n := m) (os := os) (ss := zs) (ts := srtI zs) ((srtI_perm zs).length_eq) hbase hblk (by rw [hn]; exact h1) h2 h3
  rw [hn] at hown
  exact ⟨rfl, hown, grownBy_sortedI _⟩
end Go.Proofs.YtmihbfmlnfhgcadGreatDoor.Cal
