/-
  THE LIBRARY's SORTS AT THE LAW's OWN CLOSURE: slices.SortFunc at skills, slices.Sort at strings, over rows that the call has built; slices.Clone at skills.
-/
import Derived.Test.YtebfndiaiaegmaaGreatDoorGrowM
import Derived.Test.YtebfndiaiaegmaaGreatDoorShelf
import Derived.Shelf.SlSortCmp.SmallK
import Derived.Shelf.Sort.Plain
import Derived.Sort.OwnSorted
import Derived.Shelf.SlicesE.Clone
import Derived.Shelf.Small.Bits
namespace Go.Proofs.YtebfndiaiaegmaaGreatDoor.For
open Go.Shelf Go.Lib Go.Sort
open Go.ChangeShapes Go.WideShapes Go.ChangeAt Go.RowKit Stm Key
set_option linter.unusedVariables false

instance : Inhabited Sk := ⟨⟨⟨#[]⟩, 0⟩⟩
def encSk (x : Sk) : List Value := [.string x.t, .int .i64 x.n]
def cfSk (x y : Sk) : Int := if Op.bytesLess x.t.toList y.t.toList = true then -1 else 1
theorem lt_cfSk (x y : Sk) : ltOf cfSk x y = decide (x.t.data.toList < y.t.data.toList) := by
  unfold ltOf cfSk
  rw [bytesLess_eq, Lib.toList_data, Lib.toList_data]
  by_cases h : x.t.data.toList < y.t.data.toList
  · simp [h]
  · simp [h]
theorem swoSk : SWO (ltOf cfSk) where
  irrefl x := by rw [lt_cfSk]; simp
  trans x y z h1 h2 := by rw [lt_cfSk] at *; simp at *; exact List.lt_trans h1 h2
  ntrans x y z h1 h2 := by
    rw [lt_cfSk] at *
    simp only [decide_eq_false_iff_not, List.not_lt] at *
    exact List.le_trans h2 h1
theorem cmpfn_walk (x y : Sk) (W : World) : Calls Tryz.prog 18 #[.agg #[.string x.t, .int .i64 x.n], .agg #[.string y.t, .int .i64 y.n]] W fun e w' => e = .returned (.int .i64 (cfSk x y)) ∧ ∃ q os', w' = grow (W.drewN q) os' := by
  obtain ⟨b, hb⟩ : ∃ b, Op.bytesLess x.t.toList y.t.toList = b := ⟨_, rfl⟩
  have hc : cfSk x y = if b = true then -1 else 1 := by unfold cfSk; rw [hb]
  rw [hc]
  go_enter Tryz.func18, Tryz.ntmps18
  cases b
  all_goals
    go_wp2_with fail
    go_ret
    exact ⟨rfl, 0, _, by rw [alloc_eq_grow, alloc_eq_grow, grow_grow]; rfl⟩
theorem flatS_length (s : List Sk) : (flatS s).length = s.length * 2 := by
  induction s with
  | nil => rfl
  | cons x t ih => unfold flatS at *; simp [ih]; omega
theorem hlenS (n : Nat) (W : World) (h : n ≤ 12) : Calls Tryz.prog 37 #[.int .u64 n] W fun e w' => (∃ l : Int, e = .returned (.int .i64 l)) ∧ w' = W :=
  (Any.bits_Len Tryz.lays125 n W (by omega) (by omega)).mono fun _ _ ⟨he, hw⟩ => ⟨⟨_, he⟩, hw⟩
theorem aggK (w : World) : (isAgg 50).run Tryz.prog w = .ok true w := by kernel_rfl
theorem sizeK (w : World) : (sizeOf 50).run Tryz.prog w = .ok 2 w := by kernel_rfl
theorem grown_sortK {w : World} {g n : Nat} {os : Array Obj} (d : Array Sk) : w.grownBy (sortWorldK encSk 2 w g 0 n d os) (some g) := by
  unfold sortWorldK
  refine ⟨rfl, rfl, rfl, by simp [putRowK], fun k hk hne => ?_⟩
  rw [heap_grow_old _ _ (by simpa [putRowK] using hk)]
  have : g ≠ k := fun e => hne (by rw [e])
  simp [putRowK, putRow, mapBlock, Sort.ahead, Array.getElem?_modify, this]

theorem clones_any (A : Option Addr) (n cap : Nat) (ss : List ByteArray) (w : World) (hS : SL w A ss) (hn : ss.length = n) (hn2 : n ≤ 1000) (hA : (A = none ∧ n = 0) ∨ ∃ g, A = some ⟨g, 0, none⟩) :
    Calls Tryz.prog 19 #[.slice A n cap] w fun e w' => ∃ (A' : Option Addr) (c' : Nat), e = .returned (.slice A' n c') ∧ ((A' = none ∧ n = 0) ∨ ∃ g, A' = some ⟨g, 0, none⟩) ∧
      w'.ownsRow w.heap.size 9 1 (.slice A' n c') n (ss.map Value.string) ∧ Below w.heap.size w w' := by
  rcases hA with ⟨rfl, rfl⟩ | ⟨g, rfl⟩
  · refine (AnyE.slices_Clone_nil Tryz.laysSlE041_f19 0 cap w).mono ?_
    rintro e w' ⟨rfl, rfl⟩
    have : ss = [] := List.length_eq_zero_iff.1 hn
    subst this
    exact ⟨none, 0, rfl, Or.inl ⟨rfl, rfl⟩, World.ownsRow_nil _ _ _ _, Below.refl _ _⟩
  · obtain ⟨i0, hi0, hz0, hz1, hz2⟩ := info_parts infoS
    refine (AnyE.slices_Clone Tryz.laysSlE041_f19 i0 _ 1 16 hi0 hz0 hz1 hz2 rfl (by omega) Tryz.sizeOf9 g 0 n cap (ss.map Value.string) w (by simp [hn]) (by unfold maxLen; omega) (by omega) ?_ ?_).mono ?_
    · intro j u hj
      rw [Nat.zero_add]
      rw [List.getElem?_map] at hj
      have hjl : j < ss.length := by
        rcases Nat.lt_or_ge j ss.length with h | h
        · exact h
        · rw [List.getElem?_eq_none h] at hj; simp at hj
      rw [List.getElem?_eq_getElem hjl] at hj
      simp at hj
      subst hj
      obtain ⟨b, hb, _, hc⟩ := hS.2 (by omega)
      have : g = b := congrArg Addr.block (Option.some.inj hb)
      subst this
      exact hc j hjl
    · intro u hu
      obtain ⟨x, _, rfl⟩ := List.mem_map.1 hu
      rfl
    · rintro e w' ⟨v', rfl, ho, hne, hb⟩
      rcases ho.2 with ⟨e, e2⟩ | ⟨g', cap', cur, e, _⟩
      · exact absurd e hne
      · subst e
        exact ⟨some ⟨g', 0, none⟩, cap', rfl, Or.inr ⟨g', rfl⟩, ho, hb⟩
theorem clonek_any (A : Option Addr) (n cap : Nat) (l : List Sk) (w : World) (hS : KL w A l) (hn : l.length = n) (hn2 : n ≤ 1000) (hA : (A = none ∧ n = 0) ∨ ∃ g, A = some ⟨g, 0, none⟩) :
    Calls Tryz.prog 16 #[.slice A n cap] w fun e w' => ∃ (A' : Option Addr) (c' : Nat), e = .returned (.slice A' n c') ∧
      w'.ownsRow w.heap.size 50 2 (.slice A' n c') n (flatS l) ∧ Below w.heap.size w w' := by
  rcases hA with ⟨rfl, rfl⟩ | ⟨g, rfl⟩
  · refine (AnyE.slices_Clone_nil Tryz.laysSlE041_f16 0 cap w).mono ?_
    rintro e w' ⟨rfl, rfl⟩
    have : l = [] := List.length_eq_zero_iff.1 hn
    subst this
    exact ⟨none, 0, rfl, World.ownsRow_nil _ _ _ _, Below.refl _ _⟩
  · obtain ⟨i0, hi0, hz0, hz1, hz2⟩ := info_parts infoK
    refine (AnyE.slices_Clone Tryz.laysSlE041_f16 i0 _ 2 24 hi0 hz0 hz1 hz2 rfl (by omega) sizeK g 0 n cap (flatS l) w (by rw [flatS_length, hn]) (by unfold maxLen; omega) (by omega) ?_ ?_).mono ?_
    · intro j u hj
      rw [Nat.zero_add]
      have hjl : j < l.length * 2 := by
        rcases Nat.lt_or_ge j (l.length * 2) with h | h
        · exact h
        · rw [List.getElem?_eq_none (by rw [flatS_length]; exact h)] at hj; cases hj
      obtain ⟨b, hb, _, hc⟩ := hS.2 (by omega)
      have : g = b := congrArg Addr.block (Option.some.inj hb)
      subst this
      have hi : j / 2 < l.length := by omega
      have h2 := flatS_get l (j / 2) hi
      rcases (by omega : j = j / 2 * 2 ∨ j = j / 2 * 2 + 1) with h | h
      · rw [h] at hj ⊢; rw [h2.1] at hj; have h5 := Option.some.inj hj; subst h5; exact (hc (j / 2) hi).1
      · rw [h] at hj ⊢; rw [h2.2] at hj; have h5 := Option.some.inj hj; subst h5; exact (hc (j / 2) hi).2
    · intro u hu
      obtain ⟨x, _, hx⟩ := List.mem_flatMap.1 hu
      simp at hx
      rcases hx with rfl | rfl <;> rfl
    · rintro e w' ⟨v', rfl, ho, hne, hb⟩
      rcases ho.2 with ⟨e, e2⟩ | ⟨g', cap', cur, e, _⟩
      · exact absurd e hne
      · subst e
        exact ⟨some ⟨g', 0, none⟩, cap', rfl, ho, hb⟩

/-- Skills, sorted by their topics. -/
def SrtK (s s2 : List Sk) : Prop := s2.Perm s ∧ s2.Pairwise fun a b => ¬ b.t.data.toList < a.t.data.toList
set_option maxHeartbeats 1000000 in
theorem sortk_any (base g n cap : Nat) (s : List Sk) (w : World) (hn : s.length = n) (h12 : n ≤ 12) (hsz : ∀ x ∈ s, x.t.size ≤ 1000 ∧ 0 ≤ x.n ∧ x.n ≤ 101) (hr : w.ownsRow base 50 2 (.slice (some ⟨g, 0, none⟩) n cap) n (flatS s)) (hb : base ≤ g) :
    Calls Tryz.prog 17 #[.slice (some ⟨g, 0, none⟩) n cap, .func (.func 18) #[] #[]] w fun e w' => e = .returned (.tuple #[]) ∧ ∃ s2, SrtK s s2 ∧ KL w' (some ⟨g, 0, none⟩) s2 ∧ Below base w w' := by
  rcases hr.2 with ⟨hnil, _⟩ | ⟨g', cap', cur, hv, hbase, hblk, h1, h2, h3, h4⟩
  · injection hnil with hnil; cases hnil
  injection hv with hv hv2 hv3
  injection hv with hv
  injection hv with hv
  subst hv
  subst hv3
  have hglt : g < w.heap.size := (Array.getElem?_eq_some_iff.1 hblk).1
  have hH : HoldsK encSk 2 w g 0 s.toArray := by
    intro t ht
    rw [size_flatK] at ht
    have ht' : t < s.length * 2 := by simpa using ht
    refine ⟨?_, by simp [World.frozen?, hblk]⟩
    rw [get_flatK _ _ _ t ht]
    have hti : t / 2 < s.length := by omega
    have hcell : cur[t]? = (flatS s)[t]? := by
      have : (cur.toList.take (n * 2))[t]? = (flatS s)[t]? := congrArg (fun L : List Value => L[t]?) h4
      rw [List.getElem?_take_of_lt (by omega), Array.getElem?_toList] at this
      exact this
    have hg := flatS_get s (t / 2) hti
    simp only [World.cell?, hblk, Nat.zero_add]
    simp only [Option.isSome_none, Bool.false_eq_true, if_false]
    rw [hcell]
    have e0 : (s.toArray)[t / 2]! = s[t / 2] := by simp [hti]
    rw [e0]
    rcases (by omega : t = t / 2 * 2 ∨ t = t / 2 * 2 + 1) with h | h
    · have hm : t % 2 = 0 := by omega
      rw [hm]; conv => lhs; rw [h]
      rw [hg.1]; rfl
    · have hm : t % 2 = 1 := by omega
      rw [hm]; conv => lhs; rw [h]
      rw [hg.2]; rfl
  have eg : ∀ args w, (callFunc 18 args).run Tryz.prog w = .ok (.enter 18 args) w := enters_of Tryz.func18 (by kernel_rfl) rfl
  have hcon := AnyQ.slices_SortFunc_small_sorted Tryz.sortK 2 aggK sizeK encSk (fun _ => rfl) (fun x v hv => by simp [encSk] at hv; rcases hv with rfl | rfl <;> rfl) cfSk 18 #[] swoSk g 0 cap s.toArray w eg (fun _ _ _ _ x y => cmpfn_walk x y _) hH hglt (by simp; omega) hlenS
  have hsz1 : s.toArray.size = n := by simpa using hn
  rw [hsz1] at hcon
  refine hcon.mono ?_
  rintro e w' ⟨rfl, d', m, os, hp, hso, rfl⟩
  refine ⟨rfl, d'.toList, ?_, ?_, ?_⟩
  · constructor
    · have := hp.2.2
      rw [Array.extract_eq_self_of_le (by rw [hp.1]; omega), Array.extract_eq_self_of_le (by omega)] at this
      simpa using this
    · rw [List.pairwise_iff_getElem]
      intro i j hi hj hij
      have hj' : j < n := by rw [← hsz1, ← hp.1]; simpa using hj
      have := hso i j (Nat.zero_le _) hij hj'
      rw [lt_cfSk] at this
      have hi2 : i < d'.size := by simpa using hi
      have hj2 : j < d'.size := by simpa using hj
      simpa [hi2, hj2] using this
  · have hds : d'.size = s.toArray.size := hp.1
    have hK := holdsK_sortWorldK_c encSk 2 w g 0 s.toArray d' m os hH hglt hds
    have hperm : d'.toList.Perm s := by
      have := hp.2.2
      rw [Array.extract_eq_self_of_le (by rw [hp.1]; omega), Array.extract_eq_self_of_le (by omega)] at this
      simpa using this
    refine ⟨fun x hx => hsz x (hperm.mem_iff.1 hx), fun h0 => ⟨g, rfl, Nat.lt_of_lt_of_le hglt (size_sortWorldK_c encSk 2 w g 0 m d' os), fun i hi => ?_⟩⟩
    have hi2 : i < d'.size := by simpa using hi
    have c0 := (hK (i * 2) (by rw [size_flatK]; omega)).1
    have c1 := (hK (i * 2 + 1) (by rw [size_flatK]; omega)).1
    rw [get_flatK _ _ _ _ (by omega), Nat.zero_add] at c0 c1
    rw [show i * 2 / 2 = i by omega, show i * 2 % 2 = 0 by omega] at c0
    rw [show (i * 2 + 1) / 2 = i by omega, show (i * 2 + 1) % 2 = 1 by omega] at c1
    have e0 : d'[i]! = d'.toList[i] := by simp [hi2]
    rw [e0] at c0 c1
    exact ⟨c0, c1⟩
  · exact (Below.refl _ _).grown (grown_sortK d') (by have := hr.lt g rfl; omega) (fun k hk => by injection hk with hk; omega)
/-- Topics, sorted. -/
def SrtS (s s2 : List ByteArray) : Prop := s2.Perm s ∧ s2.Pairwise fun a b => ¬ b.data.toList < a.data.toList
theorem sorts_any (base g n cap : Nat) (ss : List ByteArray) (w : World) (hn : ss.length = n) (h12 : n ≤ 12) (hsz : ∀ x ∈ ss, x.size ≤ 1000) (hr : w.ownsRow base 9 1 (.slice (some ⟨g, 0, none⟩) n cap) n (ss.map Value.string)) (hb : base ≤ g) :
    Calls Tryz.prog 20 #[.slice (some ⟨g, 0, none⟩) n cap] w fun e w' => e = .returned (.tuple #[]) ∧ ∃ s2, SrtS ss s2 ∧ SL w' (some ⟨g, 0, none⟩) s2 ∧ Below base w w' := by
  rcases hr.2 with ⟨hnil, _⟩ | ⟨g', cap', cur, hv, hbase, hblk, h1, h2, h3, h4⟩
  · injection hnil with hnil; cases hnil
  injection hv with hv hv2 hv3
  injection hv with hv
  injection hv with hv
  subst hv
  subst hv3
  have hglt : g < w.heap.size := (Array.getElem?_eq_some_iff.1 hblk).1
  obtain ⟨L, hL⟩ : ∃ L, L = ss.map fun x => x.data.toList := ⟨_, rfl⟩
  have hLl : L.length = n := by rw [hL]; simpa using hn
  have hmap : ss.map Value.string = L.map encStr := by
    rw [hL, List.map_map]
    apply List.map_congr_left
    intro x _
    rfl
  rw [hmap] at h4
  have hH : Holds encStr w g 0 L.toArray := holds_of_block hblk (by rw [hLl]; simpa using h4)
  have hcon := Any.slices_Sort_string Tryz.lays190 g 0 cap L w hH hglt (by omega)
  rw [hLl] at hcon
  refine hcon.mono ?_
  rintro e w' ⟨rfl, m, os, rfl⟩
  obtain ⟨ts, hts⟩ : ∃ ts, L.mergeSort (fun x y => decide (x ≤ y)) = ts := ⟨_, rfl⟩
  have hp : ts.Perm L := by rw [← hts]; exact List.mergeSort_perm _ _
  have hpw : ts.Pairwise fun x y => x ≤ y := by
    rw [← hts]
    have := List.pairwise_mergeSort (le := fun x y : List UInt8 => decide (x ≤ y)) (fun a b c h1 h2 => by simp at *; exact List.le_trans h1 h2) (fun a b => by simp; exact List.le_total a b) L
    simpa using this
  rw [hts]
  have hown := ownsRow_sorted (n := m) (os := os) (ss := L) (ts := ts) (hp.length_eq) hbase hblk (by rw [hLl]; exact h1) h2 h3
  rw [hLl] at hown
  obtain ⟨s2, hs2⟩ : ∃ s2, s2 = ts.map fun x => (⟨x.toArray⟩ : ByteArray) := ⟨_, rfl⟩
  have hm2 : ts.map encStr = s2.map Value.string := by rw [hs2, List.map_map]; rfl
  rw [hm2] at hown
  have hss : (L.map fun x => (⟨x.toArray⟩ : ByteArray)) = ss := by
    rw [hL, List.map_map]
    conv => rhs; rw [← List.map_id ss]
    rfl
  have hperm : s2.Perm ss := by
    have := hp.map (fun x => (⟨x.toArray⟩ : ByteArray))
    rw [hss] at this
    rw [hs2]; exact this
  refine ⟨rfl, s2, ⟨hperm, ?_⟩, row_sl hown (by rw [hperm.length_eq]; exact hn) (fun x hx => hsz x (hperm.mem_iff.1 hx)), (Below.refl _ _).grown (grownBy_sorted ts.toArray) (by have := hr.lt g rfl; omega) (fun k hk => by injection hk with hk; omega)⟩
  rw [hs2, List.pairwise_map]
  exact hpw.imp fun h => List.not_lt.2 h
end Go.Proofs.YtebfndiaiaegmaaGreatDoor.For
