/-
  MARKS: the reference's part at any sign, scoresOf, total, MeanOf, MedianOf, SpreadOfScores.
-/
import Derived.Test.YthhiefpickpiaaaGreatDoorCalV
import Derived.Handy
import Derived.RegionTactic
import Derived.Shelf.Sort.Plain
import Derived.Shelf.Slices.In.SortNone
import Derived.Sort.OwnSortedInts
import Derived.StillTailTactics
import Derived.IntWalk
namespace Go.Proofs.YthhiefpickpiaaaGreatDoor.Cal
open Go.Shelf Go.Lib Go.Sort
open Go.ChangeShapes Go.WideShapes Go.ChangeAt Go.RowKit Stm Key
set_option linter.unusedVariables false

theorem gcd_stepN (x y : Nat) (h : y ≠ 0) : Nat.gcd y (x % y) = Nat.gcd x y := by
  rw [Nat.gcd_comm x y, Nat.gcd_rec y x, Nat.gcd_comm]
set_option maxHeartbeats 2000000 in
theorem partZ_any (n : Int) (d : Nat) (w : World) (hn : -4611686018427387904 ≤ n) (hn2 : n ≤ 4611686018427387904) (hd : 1 ≤ d) (hd2 : d ≤ 4611686018427387904) :
    Calls Tryz.prog 26 #[.int .i64 n, .int .i64 (d : Int)] w fun e w' => e = .returned (.agg #[.int .i64 (lowZ n d).1, .int .i64 (lowZ n d).2]) ∧ Below w.heap.size w w' := by
  have hdz : ((d : Int) == 0) = false := by simp; omega
  obtain ⟨a, ha⟩ : ∃ a, n.natAbs = a := ⟨_, rfl⟩
  have hmax : max n (-n) = (a : Int) := by omega
  have hab : a ≤ 4611686018427387904 := by omega
  have HG0 := Lib.hid (show Nat.gcd a d = Int.gcd n d by rw [← ha]; rfl)
  have HL := Lib.hid (tdiv_gcd_l n d)
  have HR := Lib.hid (tdiv_gcd_r n d)
  have HE := Lib.hid (show lowZ n d = (n / (Int.gcd n d : Int), (d : Int) / (Int.gcd n d : Int)) from rfl)
  have hg0 : 0 < Int.gcd n d := Int.gcd_pos_of_ne_zero_right n (by omega)
  obtain ⟨g, hg⟩ : ∃ g, Int.gcd n d = g := ⟨_, rfl⟩
  rw [hg] at HG0 HL HR HE hg0
  have bd : ∀ z : Int, -4611686018427387904 ≤ z → z ≤ 4611686018427387904 → IntKind.i64.wrap (z.tdiv (g : Int)) = z.tdiv (g : Int) := fun z h1 h2 => by
    apply IntWalk.i64_in
    have h3 : (z.tdiv (g : Int)).natAbs ≤ z.natAbs := by rw [Int.natAbs_tdiv]; exact Nat.div_le_self _ _
    have h4 : z.natAbs < 4611686018427387905 := by omega
    generalize z.tdiv (g : Int) = q at *
    omega
  have W1 := Lib.hid (bd n hn hn2)
  have W2 := Lib.hid (bd d (by omega) (by omega))
  have W3 := Lib.hid (show wrap64 ((d : Int).tdiv (g : Int)) = (d : Int).tdiv (g : Int) from by
    apply IntWalk.wrap64_in
    have h3 : ((d : Int).tdiv (g : Int)).natAbs ≤ (d : Int).natAbs := by rw [Int.natAbs_tdiv]; exact Nat.div_le_self _ _
    generalize (d : Int).tdiv (g : Int) = q at *
    omega)
  clear bd ha hg
  go_enter Tryz.func26, Tryz.ntmps26
  go_wp2
  clear hmax
  go_loopw [5, 6] (fun a b wr => ∃ x y m : Nat, a = .int .i64 x ∧ b = .int .i64 y ∧ Hid (wr = (w.alloc (.cells #[.int .i64 0, .int .i64 0] 30)).drewN m) ∧ Hid (Nat.gcd x y = g) ∧ x ≤ 4611686018427387904 ∧ y ≤ 4611686018427387904) (fun _ b _ => (intOf b).toNat)
  case atStart => exact ⟨a, d, 0, rfl, rfl, Lib.hid rfl, HG0, hab, hd2⟩
  case round =>
    obtain ⟨x, y, m, rfl, rfl, HW, HG, hx, hy⟩ := hrel
    obtain rfl := HW.out
    by_cases hy0 : y = 0
    · subst hy0
      obtain rfl : x = g := by have := HG.out; rwa [Nat.gcd_zero_right] at this
      have hgp : (1 : Int) ≤ (x : Int) := by omega
      have hgz : ((x : Int) == 0) = false := by simp; omega
      have hgn : x ≠ 0 := by omega
      go_wp2
      have ww1 := W1.out
      have ww2 := W2.out
      go_region
      clear ww1 ww2
      go_wp2
      go_returns
      refine ⟨by rw [HE.out, ← HL.out, ← HR.out]; first | rfl | (rw [W3.out]), ?_⟩
      repeat' (first | (with_reducible exact Below.refl _ _) | (with_reducible refine Below.setCell ?_ ?_ _) | (with_reducible refine Stm.Below.drewN ?_ _) | (with_reducible refine Below.drew ?_) | (with_reducible refine Below.alloc ?_ ?_ _) | go_size)
    · have hyb : ((y : Int) != 0) = true := by simp; omega
      have hyp : (1 : Int) ≤ y := by omega
      have hm1 : x % y < y := Nat.mod_lt _ (by omega)
      have HG2 : Hid (Nat.gcd y (x % y) = g) := Lib.hid (by rw [gcd_stepN x y hy0]; exact HG.out)
      go_wp2
      go_quiet (fail)
      go_wp2
      go_roundw
      case rel => exact ⟨y, x % y, _, rfl, by go_num, Lib.hid (by rw [World.drewN_drewN]), HG2, hy, by omega⟩
      case measure => simp [intOf]; omega
/-! ### The scores of a paper in the list -/
def scB (l : List Mk) (p : ByteArray) : List Int := (l.filter fun x => eqB x.p p).map (·.s)
theorem scB_eq {l : List Mk} {p : ByteArray} (h : p ∈ papersL l) : scP l (idx (papersL l) p) = scB l p := by
  rw [scP_eq]
  unfold scB
  congr 1
  apply List.filter_congr
  intro x hx
  have hm : x.p ∈ papersL l := (dedB_mem _ _).2 (List.mem_map.2 ⟨x, hx, rfl⟩)
  cases he : eqB x.p p with
  | true => rw [(eqB_iff _ _).1 he]; simp
  | false =>
    simp only [beq_eq_false_iff_ne]
    intro h2
    rw [idx_inj hm h h2, eqB_self] at he; cases he
theorem scB_next {l : List Mk} {p : ByteArray} {k : Nat} (h : k < l.length) : scB (l.take (k + 1)) p = scB (l.take k) p ++ (if eqB l[k].p p then [l[k].s] else []) := by
  unfold scB
  rw [take_next l k h, List.filter_append, List.map_append]
  cases he : eqB l[k].p p <;> simp [he]
theorem scB_len (l : List Mk) (p : ByteArray) : (scB l p).length ≤ l.length := by unfold scB; rw [List.length_map]; exact List.length_filter_le _ _
theorem scB_mem {l : List Mk} (h : ∀ x ∈ l, 0 ≤ x.s ∧ x.s ≤ 10) (p : ByteArray) : ∀ y ∈ scB l p, 0 ≤ y ∧ y ≤ 10 := by
  intro y hy
  obtain ⟨x, hx, rfl⟩ := List.mem_map.1 hy
  exact h x (List.mem_filter.1 hx).1
/-- In order. -/
def srtI (zs : List Int) : List Int := zs.mergeSort fun x y => decide (x ≤ y)
theorem srtI_perm (zs : List Int) : (srtI zs).Perm zs := List.mergeSort_perm _ _
theorem perm_sum {a b : List Int} (h : a.Perm b) : a.sum = b.sum := by
  induction h with
  | nil => rfl
  | cons x _ ih => rw [List.sum_cons, List.sum_cons, ih]
  | swap x y l => rw [List.sum_cons, List.sum_cons, List.sum_cons, List.sum_cons]; omega
  | trans _ _ ih1 ih2 => rw [ih1, ih2]
theorem srtI_sum (zs : List Int) : sumI (srtI zs) = sumI zs := perm_sum (srtI_perm zs)
theorem srtI_sq (zs : List Int) : sqI (srtI zs) = sqI zs := perm_sum ((srtI_perm zs).map _)
theorem srtI_dif (zs : List Int) : difI (srtI zs) = difI zs := by unfold difI; rw [srtI_sum, srtI_sq, (srtI_perm zs).length_eq]
theorem sortsI_own (base n cap : Nat) (A : Option Addr) (zs : List Int) (w : World) (hn : zs.length = n) (h12 : n ≤ 1000000) (hr : w.ownsRow base 3 1 (.slice A n cap) n (zs.map (Value.int .i64))) :
    Calls Tryz.prog 46 #[.slice A n cap] w fun e w' => e = .returned (.tuple #[]) ∧ w'.ownsRow base 3 1 (.slice A n cap) n ((srtI zs).map (Value.int .i64)) ∧ (base ≤ w.heap.size → Below base w w') := by
  have hR := hr
  rcases hr.2 with ⟨hnil, h0⟩ | ⟨g', cap', cur, hv, hbase, hblk, h1, h2, h3, h4⟩
  · subst h0
    refine (Any.slices_Sort_int_none Tryz.lays189 A cap w).mono ?_
    rintro e w' ⟨rfl, rfl⟩
    obtain rfl := List.length_eq_zero_iff.1 hn
    exact ⟨rfl, by simpa [srtI] using hR, fun _ => Below.refl _ _⟩
  injection hv with hv hv2 hv3
  subst hv
  subst hv3
  have hglt : g' < w.heap.size := (Array.getElem?_eq_some_iff.1 hblk).1
  have hH : Holds (Value.int .i64) w g' 0 zs.toArray := holds_of_blockI hblk (by rw [hn]; simpa using h4)
  have hcon := Any.slices_Sort_int Tryz.lays189 g' 0 cap zs w hH hglt (by omega)
  rw [hn] at hcon
  refine hcon.mono ?_
  rintro e w' ⟨rfl, m, os, rfl⟩
  have hown := ownsRow_sortedI (n := m) (os := os) (ss := zs) (ts := srtI zs) ((srtI_perm zs).length_eq) hbase hblk (by rw [hn]; exact h1) h2 h3
  rw [hn] at hown
  refine ⟨rfl, hown, fun hb => (Below.refl _ _).grown (grownBy_sortedI _) hb (fun k hk => by injection hk with hk; omega)⟩
/-- A list of numbers handed back, in new memory. -/
def ZNew (zs : List Int) (w : World) (e : Ending) (w' : World) : Prop := ∃ (A : Option Addr) (c : Nat), e = .returned (.slice A zs.length c) ∧ IL w' A zs ∧ Below w.heap.size w w' ∧ zs.length ≤ c ∧ (0 < zs.length → ∃ g, A = some ⟨g, 0, none⟩ ∧ w.heap.size ≤ g)
/-- A list of numbers handed back. -/
def ZRet (zs : List Int) (w : World) (e : Ending) (w' : World) : Prop := ∃ (A : Option Addr) (c : Nat), e = .returned (.slice A zs.length c) ∧ IL w' A zs ∧ Below w.heap.size w w'
set_option maxRecDepth 100000 in
set_option maxHeartbeats 4000000 in
theorem scoresof_new (A : Option Addr) (n cap : Nat) (l : List Mk) (p : ByteArray) (w : World) (hn : l.length = n) (hn2 : n ≤ 1000) (hM : ML w A l) (hs : ∀ x ∈ l, 0 ≤ x.s ∧ x.s ≤ 10) :
    Calls Tryz.prog 27 #[.slice A n cap, .string p] w (ZNew (srtI (scB l p)) w) := by
  have HN := Lib.hid hn
  have HM := Lib.hid hM
  have HSM := Lib.hid (scB_mem hs p)
  obtain ⟨i0, hi0, hz0, hz1', hz2'⟩ := info_parts infoI1
  have HI := Lib.hid hi0
  have Z0 := Lib.hid hz0
  have Z1 := Lib.hid hz1'
  have Z2 := Lib.hid hz2'
  clear hn hM hs hi0 hz0 hz1' hz2'
  go_enter Tryz.func27, Tryz.ntmps27
  go_wp2_with fail
  go_loopw [5, 10] (fun o i wr => ∃ (k m : Nat) (Ao : Option Addr) (c : Nat), k ≤ n ∧ i = .int .i64 k ∧ o = .slice Ao m c ∧ m ≤ k ∧ Hid ((scB (l.take k) p).length = m) ∧ Hid (wr.ownsRow w.heap.size 3 1 (.slice Ao m c) m ((scB (l.take k) p).map (Value.int .i64))) ∧ Hid (Below w.heap.size w wr)) (fun _ i _ => n - (intOf i).toNat)
  case atStart => exact ⟨0, 0, none, 0, Nat.zero_le _, rfl, rfl, Nat.le_refl _, Lib.hid rfl, Lib.hid (World.ownsRow_nil _ _ _ _), Lib.hid (Below.refl _ _)⟩
  case round =>
    obtain ⟨k, m, Ao, c, hk, rfl, rfl, hmk, HMl, HO, HB⟩ := hrel
    have hzr := HB.out.size
    by_cases hlt : k < n
    · have hkl : k < l.length := by rw [HN.out]; exact hlt
      obtain ⟨g, hA, hgW, hcl⟩ := HM.out.2 (by omega)
      subst hA
      obtain ⟨d0, d1, d2⟩ := hcl k hkl
      have c0 := (HB.out.cell (p := ⟨g, k * 3, none⟩) hgW).trans d0
      have c1 := (HB.out.cell (p := ⟨g, k * 3 + 1, none⟩) hgW).trans d1
      have c2 := (HB.out.cell (p := ⟨g, k * 3 + 2, none⟩) hgW).trans d2
      have HNX := Lib.hid (scB_next (p := p) hkl)
      clear hcl d0 d1 d2
      generalize l[k] = x at *
      obtain ⟨xp, xh, xs⟩ := x
      simp only at c0 c1 c2
      have a0 : (0 : Int) ≤ (k : Int) := by omega
      have a1 : (k : Int) < (n : Int) := by omega
      have B1 := Lib.hid (HB.out.alloc hzr (.cells #[.string xp, .string xh, .int .i64 xs] 59))
      have O1 := Lib.hid (own_below HO.out ((Below.refl _ _).alloc (Nat.le_refl _) (.cells #[.string xp, .string xh, .int .i64 xs] 59)))
      obtain ⟨b, hb⟩ : ∃ b, eqB xp p = b := ⟨_, rfl⟩
      have HNX2 := Lib.hid (show scB (l.take (k + 1)) p = scB (l.take k) p ++ (if b = true then [xs] else []) by rw [HNX.out, hb])
      clear HO HB HNX
      cases b
      · have HNE := Lib.hid (show scB (l.take (k + 1)) p = scB (l.take k) p by rw [HNX2.out]; simp)
        have e1 : (xp.toList == p.toList) = false := hb
        have e2 : ¬ xp.toList = p.toList := by simpa using e1
        have e3 : ¬ p.toList = xp.toList := fun e => e2 e.symm
        clear hb HNX2
        go_wp2_with fail
        go_roundw
        case rel => exact ⟨k + 1, m, Ao, c, by omega, by go_num, rfl, by omega, Lib.hid (by rw [HNE.out]; exact HMl.out), Lib.hid (by rw [HNE.out]; exact O1.out), B1⟩
        case measure => simp [intOf]; omega
      · obtain rfl := (eqB_iff _ _).1 hb
        have HNE := Lib.hid (show scB (l.take (k + 1)) xp = scB (l.take k) xp ++ [xs] by rw [HNX2.out]; simp)
        have HMP := Lib.hid (show (scB (l.take (k + 1)) xp).map (Value.int .i64) = (scB (l.take k) xp).map (Value.int .i64) ++ [.int .i64 xs] by rw [HNE.out, List.map_append]; rfl)
        clear hb HNX2
        go_wp2_with (at_builtin; (refine wpList_append_lies _ rfl _ _ _ rfl w.heap.size 3 i0 _ 1 8 Tryz.underlying22 HI.out Z0.out Z1.out Z2.out rfl (by omega) (.slice Ao m c) m ((scB (l.take k) xp).map (Value.int .i64)) rfl (O1.out.alloc _) ⟨wr.heap.size + 1, 0, none⟩ 1 1 [.int .i64 xs] rfl rfl (World.news_of_block (cs := #[.int .i64 xs]) (t := 3) (fr := (0, 0)) (new_at (by simp))) (by simp [Value.oneCell']) (by omega) (by unfold maxLen; omega) (by omega) (by simp; omega) (wr.heap.size + 1 + 1) (by simp) ?_); intro gg cap' w5 hown hgrow hat hgl; (have O5 := Lib.hid (show w5.ownsRow w.heap.size 3 1 (.slice (some ⟨gg, 0, none⟩) (m + 1) cap') (m + 1) ((scB (l.take (k + 1)) xp).map (Value.int .i64)) by rw [HMP.out]; exact hown)); (have B5 := Lib.hid ((B1.out.alloc B1.out.size (.cells #[.int .i64 xs] 3)).trans (grownB hgrow (fun g e => (O1.out.lt g e).1) (by simp; omega)))); clear hown hgrow hat)
        go_roundw
        case rel => exact ⟨k + 1, m + 1, _, _, by omega, by go_num, rfl, by omega, Lib.hid (by rw [HNE.out, List.length_append, HMl.out]; rfl), O5, B5⟩
        case measure => simp [intOf]; omega
    · have hkn : k = n := by omega
      subst hkn
      have hO := HO.out
      have hL := HMl.out
      rw [List.take_of_length_le (by rw [HN.out]; exact Nat.le_refl _)] at hO hL
      obtain ⟨zs, hzs⟩ : ∃ zs, scB l p = zs := ⟨_, rfl⟩
      rw [hzs] at hO hL HSM
      have HZS := Lib.hid hzs
      have HSO := Lib.hid (sortsI_own w.heap.size m c Ao zs wr hL (by omega) hO)
      have HL := Lib.hid hL
      clear hO hL hzs HO HMl
      go_wp2_with fail
      refine (HSO.out).mono ?_; rintro e w1 ⟨rfl, ho1, hb1⟩
      have hsl : (srtI zs).length = m := by rw [(srtI_perm zs).length_eq]; exact HL.out
      have HRES := Lib.hid (show ZNew (srtI zs) w (.returned (.slice Ao m c)) w1 from ⟨Ao, c, by rw [hsl], row_il ho1 hsl (fun x hx => HSM.out x ((srtI_perm zs).mem_iff.1 hx)), HB.out.trans (hb1 hzr |>.mono (Nat.le_refl _)), by rw [hsl]; exact row_cap ho1, fun h0 => by
        rcases ho1.2 with ⟨e, e0⟩ | ⟨g, cap', cur, e, hb, _⟩
        · omega
        · injection e with e1; exact ⟨g, e1, hb⟩⟩)
      clear ho1 hb1 hsl
      go_wp2_with fail
      go_ret
      rw [HZS.out]; exact HRES.out
theorem scoresof_walk (A : Option Addr) (n cap : Nat) (l : List Mk) (p : ByteArray) (w : World) (hn : l.length = n) (hn2 : n ≤ 1000) (hM : ML w A l) (hs : ∀ x ∈ l, 0 ≤ x.s ∧ x.s ≤ 10) :
    Calls Tryz.prog 27 #[.slice A n cap, .string p] w (ZRet (srtI (scB l p)) w) :=
  (scoresof_new A n cap l p w hn hn2 hM hs).mono fun e w' ⟨A1, c1, he, hi, hb, _⟩ => ⟨A1, c1, he, hi, hb⟩
end Go.Proofs.YthhiefpickpiaaaGreatDoor.Cal
