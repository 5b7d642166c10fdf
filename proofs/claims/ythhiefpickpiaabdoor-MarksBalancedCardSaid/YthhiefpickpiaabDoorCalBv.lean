/-
  MARKS: keys with a level for each one (api.Level): calibrate.leveled; slices.Equal of two equal lists of them.
-/
import Derived.Test.YthhiefpickpiaabDoorCalBr
namespace Go.Proofs.YthhiefpickpiaabDoor.Cal
open Go.ChangeShapes Go.WideShapes Go.ChangeAt Go.RowKit Stm Key
set_option linter.unusedVariables false

/-- Keys with the values of a function of their numbers. -/
def lvs (ks : List ByteArray) (f : Nat → Int) : List (ByteArray × Int) := ks.mapIdx fun i s => (s, f i)
theorem lvs_len (ks : List ByteArray) (f : Nat → Int) : (lvs ks f).length = ks.length := by unfold lvs; rw [List.length_mapIdx]
theorem lvs_get (ks : List ByteArray) (f : Nat → Int) (i : Nat) (h : i < ks.length) : (lvs ks f)[i]'(by rw [lvs_len]; exact h) = (ks[i], f i) := by
  unfold lvs; rw [List.getElem_mapIdx]
def flatV (l : List (ByteArray × Int)) : List Value := l.flatMap fun y => [.string y.1, .int .i64 y.2]
theorem flatV_cons (x : ByteArray × Int) (t : List (ByteArray × Int)) : flatV (x :: t) = .string x.1 :: .int .i64 x.2 :: flatV t := rfl
theorem flatV_get : ∀ (l : List (ByteArray × Int)) (i : Nat) (h : i < l.length), (flatV l)[i * 2]? = some (.string l[i].1) ∧ (flatV l)[i * 2 + 1]? = some (.int .i64 l[i].2)
  | [], i, h => by simp at h
  | x :: t, 0, _ => ⟨rfl, rfl⟩
  | x :: t, i + 1, h => by
    have := flatV_get t i (by simpa using h)
    have e1 : (i + 1) * 2 = i * 2 + 1 + 1 := by omega
    rw [e1, flatV_cons]
    simpa using this
theorem flatV_next {ks : List ByteArray} {f : Nat → Int} {k : Nat} (h : k < ks.length) : flatV ((lvs ks f).take (k + 1)) = flatV ((lvs ks f).take k) ++ [.string ks[k], .int .i64 (f k)] := by
  rw [take_next _ k (by rw [lvs_len]; exact h), lvs_get ks f k h]
  simp [flatV]
/-- A slice's cells are these levels. -/
def LvL (w : World) (A : Option Addr) (l : List (ByteArray × Int)) : Prop :=
  0 < l.length → ∃ b, A = some ⟨b, 0, none⟩ ∧ b < w.heap.size ∧ ∀ (i : Nat) (h : i < l.length), w.cell? ⟨b, i * 2, none⟩ = some (.string l[i].1) ∧ w.cell? ⟨b, i * 2 + 1, none⟩ = some (.int .i64 l[i].2)
theorem LvL.below {w w' : World} {A : Option Addr} {l : List (ByteArray × Int)} (h : LvL w A l) (hb : Below w.heap.size w w') : LvL w' A l := fun h0 => by
  obtain ⟨b, hA, hlt, hc⟩ := h h0
  exact ⟨b, hA, Nat.lt_of_lt_of_le hlt hb.size, fun i hi => ⟨(hb.cell (p := ⟨b, i * 2, none⟩) hlt).trans (hc i hi).1, (hb.cell (p := ⟨b, i * 2 + 1, none⟩) hlt).trans (hc i hi).2⟩⟩
theorem row_lv {w : World} {base n cap : Nat} {A : Option Addr} {l : List (ByteArray × Int)} (h : w.ownsRow base 39 2 (.slice A n cap) n (flatV l)) (hL : l.length = n) : LvL w A l := fun h0 => by
  rcases h.2 with ⟨e, e0⟩ | ⟨g, cap', cur, e, hb, hh, _⟩
  · omega
  · injection e with e1
    subst e1
    refine ⟨g, rfl, lt_of_block hh, fun i hi => ?_⟩
    have hc := h.cells (g := g) rfl
    obtain ⟨f0, f1⟩ := flatV_get l i hi
    have e0 := hc _ _ f0; have e1 := hc _ _ f1
    rw [row_add'] at e0 e1
    exact ⟨e0, e1⟩
/-- A list of levels handed back. -/
def LvRet (l : List (ByteArray × Int)) (w : World) (e : Ending) (w' : World) : Prop := ∃ (A : Option Addr) (c : Nat), e = .returned (.slice A l.length c) ∧ LvL w' A l ∧ Below w.heap.size w w'
theorem infoLv : (Tryd.prog.info? 39).map (fun i => (i.zero, i.size, i.bytes)) = some (some (.agg #[.string ⟨#[]⟩, .int .i64 0]), 2, 24) := by kernel_rfl
set_option maxRecDepth 100000 in
set_option maxHeartbeats 4000000 in
theorem leveled_walk (A : Option Addr) (n cap : Nat) (ks : List ByteArray) (b nb : Nat) (f : Nat → Int) (w : World) (hn : ks.length = n) (hn2 : n ≤ 1000) (hS : SL w A ks) (hO : w.rowIs b 3 n (fun i => .int .i64 (f i))) :
    Calls Tryd.prog 15 #[.slice A n cap, .slice (some ⟨b, 0, none⟩) n nb] w (LvRet (lvs ks f) w) := by
  have HN := Lib.hid hn
  have HS := Lib.hid hS
  have HO' := Lib.hid hO
  have hbl := hO.lt
  obtain ⟨i0, hi0, hz0, hz1', hz2'⟩ := info_parts infoLv
  have HI := Lib.hid hi0
  have Z0 := Lib.hid hz0
  have Z1 := Lib.hid hz1'
  have Z2 := Lib.hid hz2'
  clear hn hS hO hi0 hz0 hz1' hz2'
  go_enter Tryd.func15, Tryd.ntmps15
  go_wp2_with fail
  go_loopw [5, 10] (fun o i wr => ∃ (k : Nat) (Ao : Option Addr) (c2 : Nat), k ≤ n ∧ i = .int .i64 k ∧ o = .slice Ao k c2 ∧ Hid (wr.ownsRow w.heap.size 39 2 (.slice Ao k c2) k (flatV ((lvs ks f).take k))) ∧ Hid (Below w.heap.size w wr)) (fun _ i _ => n - (intOf i).toNat)
  case atStart => exact ⟨0, none, 0, Nat.zero_le _, rfl, rfl, Lib.hid (World.ownsRow_nil _ _ _ _), Lib.hid (Below.refl _ _)⟩
  case round =>
    obtain ⟨k, Ao, c2, hk, rfl, rfl, HO, HB⟩ := hrel
    have hzr := HB.out.size
    by_cases hlt : k < n
    · have hkl : k < ks.length := by rw [HN.out]; exact hlt
      obtain ⟨g, hA, hgW, hcl⟩ := HS.out.2 (by omega)
      subst hA
      have c0 := (HB.out.cell (p := ⟨g, k, none⟩) hgW).trans (hcl k hkl)
      have c1 := (HB.out.cell (p := ⟨b, k, none⟩) hbl).trans (HO'.out.cell hlt)
      have HNX := Lib.hid (flatV_next (f := f) hkl)
      clear hcl
      generalize ks[k] = s at *
      obtain ⟨y, he⟩ : ∃ y, f k = y := ⟨_, rfl⟩
      rw [he] at c1 HNX
      clear he
      have b0 : (0 : Int) ≤ (k : Int) := by omega
      have b1 : (k : Int) < (n : Int) := by omega
      have B1 := HB
      have O1 := HO
      clear HO HB
      go_wp2_with (at_builtin; (refine wpList_append_lies _ rfl _ _ _ rfl w.heap.size 39 i0 _ 2 24 Tryd.underlying29 HI.out Z0.out Z1.out Z2.out rfl (by omega) (.slice Ao k c2) k (flatV ((lvs ks f).take k)) rfl (O1.out.alloc _) ⟨wr.heap.size, 0, none⟩ 1 1 [.string s, .int .i64 y] rfl rfl (World.news_of_block (cs := #[.string s, .int .i64 y]) (t := 39) (fr := (0, 0)) (new_at (by simp))) (by simp [Value.oneCell']) (by omega) (by unfold maxLen; omega) (by omega) (by simp; omega) (wr.heap.size + 1) (by simp) ?_); intro gg cap' w5 hown hgrow hat hgl; (have O5 := Lib.hid (show w5.ownsRow w.heap.size 39 2 (.slice (some ⟨gg, 0, none⟩) (k + 1) cap') (k + 1) (flatV ((lvs ks f).take (k + 1))) by rw [HNX.out]; exact hown)); (have B5 := Lib.hid ((B1.out.alloc B1.out.size (.cells #[.string s, .int .i64 y] 39)).trans (grownB hgrow (fun g e => (O1.out.lt g e).1) (by simp; omega)))); clear hown hgrow hat)
      go_roundw
      case rel => exact ⟨k + 1, _, _, by omega, by go_num, rfl, O5, B5⟩
      case measure => simp [intOf]; omega
    · have hkn : k = n := by omega
      subst hkn
      have hO := HO.out
      rw [List.take_of_length_le (by rw [lvs_len, HN.out]; exact Nat.le_refl _)] at hO
      have hlen : (lvs ks f).length = k := by rw [lvs_len, HN.out]
      have FIN := Lib.hid (show LvRet (lvs ks f) w (.returned (.slice Ao k c2)) wr from ⟨Ao, c2, by rw [hlen], row_lv hO hlen, HB.out⟩)
      clear hO hlen HO
      go_wp2_with fail
      go_ret
      exact FIN.out
set_option maxRecDepth 100000 in
set_option maxHeartbeats 4000000 in
theorem equalv_any (A A2 : Option Addr) (c c2 : Nat) (l : List (ByteArray × Int)) (w : World) (n : Nat) (hn : l.length = n) (hn2 : n ≤ 1000) (h1 : LvL w A l) (h2 : LvL w A2 l) :
    Calls Tryd.prog 10 #[.slice A n c, .slice A2 n c2] w fun e w' => e = .returned (.bool true) ∧ Below w.heap.size w w' := by
  have H1 := Lib.hid h1
  have H2 := Lib.hid h2
  have HL := Lib.hid hn
  have e0 : ((n : Int) != n) = false := by simp
  clear h1 h2 hn
  go_enter Tryd.func10, Tryd.ntmps10
  go_wp2_with fail
  go_loopw [13] (fun i wr => ∃ j m : Nat, j ≤ n ∧ i = .int .i64 j ∧ Hid (wr = w.drewN m)) (fun i _ => n - (intOf i).toNat)
  case atStart => exact ⟨0, 0, by omega, rfl, Lib.hid rfl⟩
  case round =>
    obtain ⟨j, m, hj, rfl, HW⟩ := hrel
    obtain rfl := HW.out
    by_cases hlt : j < n
    · have hjl : j < l.length := by rw [HL.out]; exact hlt
      obtain ⟨b, hA, hbl, hc⟩ := H1.out (by omega)
      obtain ⟨b2, hA2, hbl2, hc2⟩ := H2.out (by omega)
      subst hA
      subst hA2
      obtain ⟨x0, x1⟩ := hc j hjl
      obtain ⟨y0, y1⟩ := hc2 j hjl
      generalize l[j] = x at *
      have ex : (x.1.toList == x.1.toList) = true := by simp
      have ep : (x.2 == x.2) = true := by simp
      have a0 : (0 : Int) ≤ (j : Int) := by omega
      have a1 : (j : Int) < (n : Int) := by omega
      clear hc hc2
      go_wp2_with fail
      go_region
      all_goals
        go_wp2_with fail
        go_roundw
        case rel => exact ⟨j + 1, _, by omega, by go_num, Lib.hid (by first | rw [World.drewN_drewN] | rfl)⟩
        case measure => simp [intOf]; omega
    · have hjn : j = n := by omega
      subst hjn
      go_wp2_with fail
      go_ret
      exact ⟨rfl, Stm.Below.drewN (Below.refl _ _) _⟩
end Go.Proofs.YthhiefpickpiaabDoor.Cal
