/-
  PAIRS IN MEMORY: rows of pairs (paper, person); slices.SortFunc at them, under the reference's PairOrder.
-/
import Derived.Test.YtmihbfmlnfhgcadGreatDoorCmpS
import Derived.Test.YtmihbfmlnfhgcadGreatDoorShelf
import Derived.Shelf.SlSortCmp.WholeK
import Derived.Sort.OwnSorted
namespace Go.Proofs.YtmihbfmlnfhgcadGreatDoor.Cal
open Go.Shelf Go.Lib Go.Sort
open Go.ChangeShapes Go.WideShapes Go.ChangeAt Go.RowKit Stm Key
set_option linter.unusedVariables false

/-- A pair: paper, person. -/
structure Pr where
  p : ByteArray
  h : ByteArray
instance : Inhabited Pr := ⟨⟨⟨#[]⟩, ⟨#[]⟩⟩⟩
def encP (x : Pr) : List Value := [.string x.p, .string x.h]
def flatP (l : List Pr) : List Value := l.flatMap encP
theorem flatP_cons (x : Pr) (t : List Pr) : flatP (x :: t) = .string x.p :: .string x.h :: flatP t := rfl
theorem flatP_snoc (l : List Pr) (x : Pr) : flatP (l ++ [x]) = flatP l ++ encP x := by simp [flatP]
theorem flatP_length : ∀ l : List Pr, (flatP l).length = l.length * 2
  | [] => rfl
  | x :: t => by rw [flatP_cons]; simp only [List.length_cons]; rw [flatP_length t]; omega
theorem flatP_get : ∀ (l : List Pr) (i : Nat) (h : i < l.length), (flatP l)[i * 2]? = some (.string l[i].p) ∧ (flatP l)[i * 2 + 1]? = some (.string l[i].h)
  | [], i, h => by simp at h
  | x :: t, 0, _ => ⟨rfl, rfl⟩
  | x :: t, i + 1, h => by
    have := flatP_get t i (by simpa using h)
    have e1 : (i + 1) * 2 = i * 2 + 1 + 1 := by omega
    rw [e1, flatP_cons]
    simpa using this
theorem flatK_flatP (d : Array Pr) : (flatK encP 2 d).toList = flatP d.toList := by
  apply List.ext_getElem?
  intro t
  by_cases ht : t < d.size * 2
  · have h1 := get_flatK encP 2 d t ht
    have hs : t < (flatK encP 2 d).size := by rw [size_flatK]; exact ht
    rw [Array.getElem?_toList, Array.getElem?_eq_getElem hs]
    have h2 : (flatK encP 2 d)[t]! = (flatK encP 2 d)[t] := getElem!_pos (flatK encP 2 d) t hs
    rw [← h2, h1]
    have hti : t / 2 < d.toList.length := by simp; omega
    have hti2 : t / 2 < d.size := by omega
    have hg := flatP_get d.toList (t / 2) hti
    have e0 : d[t / 2]! = d.toList[t / 2] := by simp [hti2]
    rw [e0]
    rcases (by omega : t = t / 2 * 2 ∨ t = t / 2 * 2 + 1) with h | h
    · have hm : t % 2 = 0 := by omega
      rw [hm]; conv => rhs; rw [h]
      rw [hg.1]; rfl
    · have hm : t % 2 = 1 := by omega
      rw [hm]; conv => rhs; rw [h]
      rw [hg.2]; rfl
  · rw [List.getElem?_eq_none (by simp; omega), List.getElem?_eq_none (by rw [flatP_length]; simp; omega)]
def cfP (x y : Pr) : Int := ordP x.p x.h y.p y.h
/-- The order of pairs, as a question. -/
theorem bl_tri (a b : BL) : a < b ∨ a = b ∨ b < a := by
  rcases cmpB_bd a b with ⟨_, h⟩ | ⟨_, h⟩ | ⟨_, h⟩
  · exact Or.inl h
  · exact Or.inr (Or.inl h)
  · exact Or.inr (Or.inr h)
def ltP (x y : Pr) : Prop := x.p.data.toList < y.p.data.toList ∨ (x.p.data.toList = y.p.data.toList ∧ x.h.data.toList < y.h.data.toList)
theorem lt_cfP (x y : Pr) : ltOf cfP x y = true ↔ ltP x y := by
  unfold ltOf cfP ordP ltP
  rw [decide_eq_true_iff]
  rcases cmpB_bd x.p.data.toList y.p.data.toList with ⟨h1, k⟩ | ⟨h1, k⟩ | ⟨h1, k⟩
  · rw [h1]; simp [k]
  · rw [h1, k]
    simp only [ne_eq, not_true_eq_false, if_false, bl_irrefl, false_or, true_and]
    rcases cmpB_bd x.h.data.toList y.h.data.toList with ⟨h2, k2⟩ | ⟨h2, k2⟩ | ⟨h2, k2⟩
    · rw [h2]; simp [k2]
    · rw [h2, k2]; simp
    · rw [h2]
      simp only [show ¬ (1 : Int) < 0 by decide, false_iff]
      exact fun h => bl_irrefl _ (bl_trans h k2)
  · rw [h1]
    simp only [ne_eq, show ¬ (1 : Int) = 0 by decide, not_false_eq_true, if_true, show ¬ (1 : Int) < 0 by decide, false_iff, not_or, not_and]
    exact ⟨fun h => bl_irrefl _ (bl_trans h k), fun h => by rw [h] at k; exact absurd k (bl_irrefl _)⟩
theorem lt_cfP_f (x y : Pr) : ltOf cfP x y = false ↔ ¬ ltP x y := by
  rw [← lt_cfP]; simp
theorem swoP : SWO (ltOf cfP) where
  irrefl x := by rw [lt_cfP_f]; rintro (h | ⟨_, h⟩) <;> exact bl_irrefl _ h
  trans x y z h1 h2 := by
    rw [lt_cfP] at *
    rcases h1 with h1 | ⟨e1, h1⟩ <;> rcases h2 with h2 | ⟨e2, h2⟩
    · exact Or.inl (bl_trans h1 h2)
    · exact Or.inl (e2 ▸ h1)
    · exact Or.inl (e1 ▸ h2)
    · exact Or.inr ⟨e1.trans e2, bl_trans h1 h2⟩
  ntrans x y z h1 h2 := by
    rw [lt_cfP_f] at *
    rintro (h | ⟨e, h⟩)
    · rcases bl_tri y.p.data.toList z.p.data.toList with k | k | k
      · exact h2 (Or.inl k)
      · exact h1 (Or.inl (k ▸ h))
      · exact h1 (Or.inl (bl_trans h k))
    · rcases bl_tri y.p.data.toList z.p.data.toList with k | k | k
      · exact h2 (Or.inl k)
      · rcases bl_tri y.h.data.toList z.h.data.toList with g | g | g
        · exact h2 (Or.inr ⟨k, g⟩)
        · exact h1 (Or.inr ⟨e.trans k.symm, g ▸ h⟩)
        · exact h1 (Or.inr ⟨e.trans k.symm, bl_trans h g⟩)
      · exact h1 (Or.inl (e ▸ k))
theorem pordG_any (a b c d : ByteArray) (r : Int) (hr : Hid (ordP a b c d = r)) (w : World) :
    Calls Tryz.prog 30 #[.agg #[.string a, .string b], .agg #[.string c, .string d]] w fun e w' => e = .returned (.int .i64 r) ∧ ∃ q os', w' = grow (w.drewN q) os' := by
  go_enter Tryz.func30, Tryz.ntmps30
  go_wp2_with fail
  have b1 := Blk.new ((w.alloc (.cells #[.string a, .string b] 49)).alloc (.cells #[.string c, .string d] 49)) 9 #[.string a, .string b]
  have b2 := Blk.new (((w.alloc (.cells #[.string a, .string b] 49)).alloc (.cells #[.string c, .string d] 49)).alloc (.cells #[.string a, .string b] 9)) 9 #[.string c, .string d]
  rw [World.size_alloc, World.size_alloc] at b1
  rw [World.size_alloc, World.size_alloc, World.size_alloc] at b2
  have b3 := b1.alloc (.cells #[.string c, .string d] 9)
  refine (scmp_two (w.heap.size + 1 + 1) (w.heap.size + 1 + 1 + 1) a b c d r hr ((((w.alloc (.cells #[.string a, .string b] 49)).alloc (.cells #[.string c, .string d] 49)).alloc (.cells #[.string a, .string b] 9)).alloc (.cells #[.string c, .string d] 9)) (b3.cell 0 _ rfl) (b3.cell 1 _ rfl) (b2.cell 0 _ rfl) (b2.cell 1 _ rfl)).mono ?_
  rintro e w1 ⟨rfl, rfl⟩
  go_wp2_with fail
  go_ret
  exact ⟨rfl, 0, _, by rw [alloc_eq_grow, alloc_eq_grow, alloc_eq_grow, alloc_eq_grow, grow_grow, grow_grow, grow_grow]; rfl⟩
theorem aggP (w : World) : (isAgg 49).run Tryz.prog w = .ok true w := by kernel_rfl
theorem sizeP (w : World) : (sizeOf 49).run Tryz.prog w = .ok 2 w := by kernel_rfl
theorem grown_sortP {w : World} {g n : Nat} {os : Array Obj} (d : Array Pr) : w.grownBy (sortWorldK encP 2 w g 0 n d os) (some g) := by
  unfold sortWorldK
  refine ⟨rfl, rfl, rfl, by simp [putRowK], fun k hk hne => ?_⟩
  rw [heap_grow_old _ _ (by simpa [putRowK] using hk)]
  have : g ≠ k := fun e => hne (by rw [e])
  simp [putRowK, putRow, mapBlock, Sort.ahead, Array.getElem?_modify, this]
theorem ownsRow_sortP {w : World} {base g cap n m : Nat} {e : TypeId} {os : Array Obj} {cur : Array Value} {d : Array Pr} (hl : d.size = n) (hbase : base ≤ g) (hb : w.heap[g]? = some (.cells cur e (0, 0)))
    (h1 : n ≤ cap) (h2 : cap ≤ maxLen) (h3 : cur.size = cap * 2) :
    (sortWorldK encP 2 w g 0 m d os).ownsRow base e 2 (.slice (some ⟨g, 0, none⟩) n cap) n (flatP d.toList) := by
  have hg : g < w.heap.size := (Array.getElem?_eq_some_iff.1 hb).1
  refine ⟨by rw [flatP_length]; simp [hl], .inr ⟨g, cap, putCells id 0 (flatK encP 2 d) cur, rfl, hbase, ?_, h1, h2, by simp [putCells, h3], ?_⟩⟩
  · unfold sortWorldK putRowK
    rw [heap_grow_old _ _ (by simpa [putRow, mapBlock, Sort.ahead] using hg)]
    simp [putRow, mapBlock, Sort.ahead, Array.getElem?_modify, hb, onCells]
  · rw [← flatK_flatP]
    have hsz : (flatK encP 2 d).size = n * 2 := by rw [size_flatK, hl]
    apply List.ext_getElem?
    intro j
    by_cases hj : j < n * 2
    · rw [List.getElem?_take_of_lt hj, Array.getElem?_toList, Array.getElem?_toList]
      have hjs : j < (flatK encP 2 d).size := by omega
      have hjc : j < cur.size := by omega
      simp only [putCells, Array.getElem?_mapIdx, Array.getElem?_eq_getElem hjc, Option.map_some, Nat.zero_le, true_and, Nat.zero_add, Nat.sub_zero, id_eq]
      rw [if_pos hjs, getElem!_pos (flatK encP 2 d) j hjs, Array.getElem?_eq_getElem hjs]
    · rw [List.getElem?_take_eq_none (by omega), List.getElem?_eq_none (by simp [hl]; omega)]
set_option maxHeartbeats 1000000 in
theorem sortP_any (base g n cap : Nat) (s : List Pr) (w : World) (hn : s.length = n) (hn2 : n ≤ 1000000) (hr : w.ownsRow base 49 2 (.slice (some ⟨g, 0, none⟩) n cap) n (flatP s)) :
    Calls Tryz.prog 36 #[.slice (some ⟨g, 0, none⟩) n cap, .func (.func 30) #[] #[]] w fun e w' => e = .returned (.tuple #[]) ∧ ∃ s2 : List Pr, s2.Perm s ∧ w'.ownsRow base 49 2 (.slice (some ⟨g, 0, none⟩) n cap) n (flatP s2) ∧ w.grownBy w' (some g) := by
  rcases hr.2 with ⟨hnil, _⟩ | ⟨g', cap', cur, hv, hbase, hblk, h1, h2, h3, h4⟩
  · injection hnil with hnil; cases hnil
  injection hv with hv hv2 hv3
  injection hv with hv
  injection hv with hv
  subst hv
  subst hv3
  have hglt : g < w.heap.size := (Array.getElem?_eq_some_iff.1 hblk).1
  have hH : HoldsK encP 2 w g 0 s.toArray := by
    intro t ht
    rw [size_flatK] at ht
    have ht' : t < s.length * 2 := by simpa using ht
    refine ⟨?_, by simp [World.frozen?, hblk]⟩
    have hcell : cur[t]? = (flatP s)[t]? := by
      have : (cur.toList.take (n * 2))[t]? = (flatP s)[t]? := congrArg (fun L : List Value => L[t]?) h4
      rw [List.getElem?_take_of_lt (by omega), Array.getElem?_toList] at this
      exact this
    have hfl : (flatK encP 2 s.toArray)[t]? = (flatP s)[t]? := by
      rw [← Array.getElem?_toList, flatK_flatP]
    have hts : t < (flatK encP 2 s.toArray).size := by rw [size_flatK]; simpa using ht
    simp only [World.cell?, hblk, Nat.zero_add]
    simp only [Option.isSome_none, Bool.false_eq_true, if_false]
    rw [hcell, ← hfl, Array.getElem?_eq_getElem hts]
    show some _ = some _
    rw [id_eq, getElem!_pos (flatK encP 2 s.toArray) t hts]
  have eg : ∀ args w, (callFunc 30 args).run Tryz.prog w = .ok (.enter 30 args) w := enters_of Tryz.func30 (by kernel_rfl) rfl
  have hcon := AnyQ.slices_SortFunc Tryz.sortK 2 aggP sizeP encP (fun _ => rfl) (fun x v hv => by simp [encP] at hv; rcases hv with rfl | rfl <;> rfl) cfP swoP 30 #[] g 0 cap s.toArray w eg (fun _ _ _ _ x y => pordG_any x.p x.h y.p y.h _ (Lib.hid rfl) _) hH hglt (by simp; omega)
  have hsz1 : s.toArray.size = n := by simpa using hn
  rw [hsz1] at hcon
  refine hcon.mono ?_
  rintro e w' ⟨rfl, d', m, os, hp, hso, rfl⟩
  have hperm : d'.toList.Perm s := by
    have := hp.2.2
    rw [Array.extract_eq_self_of_le (by rw [hp.1]; omega), Array.extract_eq_self_of_le (by omega)] at this
    simpa using this
  exact ⟨rfl, d'.toList, hperm, ownsRow_sortP (by rw [hp.1, hsz1]) hbase hblk h1 h2 h3, grown_sortP d'⟩
end Go.Proofs.YtmihbfmlnfhgcadGreatDoor.Cal
