/-
  MARKS: calibrate.scoresBy, the reference's scoreOf.
-/
import Derived.Test.YthhiefpickpiaaaGreatDoorKapM
namespace Go.Proofs.YthhiefpickpiaaaGreatDoor.Cal
open Go.ChangeShapes Go.WideShapes Go.ChangeAt Go.RowKit Stm Key
open Go.Maps (Keyed string_keyed)
set_option linter.unusedVariables false

set_option maxRecDepth 100000 in
set_option maxHeartbeats 4000000 in
theorem scoresby_walk (A : Option Addr) (n cap : Nat) (l : List Mk) (sa : ByteArray) (w : World) (hn : l.length = n) (hn2 : n ≤ 1000) (hM : ML w A l) :
    Calls Tryz.prog 20 #[.slice A n cap, .string sa] w fun e w' => ∃ M c : Nat, e = .returned (.map (some M)) ∧ w.heap.size ≤ M ∧ c ≤ n ∧ MO w' M c (byF l sa) ∧ Below w.heap.size w w' := by
  have HN := Lib.hid hn
  have HM := Lib.hid hM
  clear hn hM
  go_enter Tryz.func20, Tryz.ntmps20
  have F0 := Lib.hid (mo_new w)
  have B0 := Lib.hid (show Below w.heap.size w (w.alloc (.map #[] 0)) from (Below.refl _ _).alloc (Nat.le_refl _) _)
  have hmm : ∀ W : World, (Instr.makeMap 46 none).run Tryz.prog W = .ok (.map (some W.heap.size)) (W.alloc (.map #[] 0)) := fun W => by
    simp [Instr.makeMap, Result.andThen]
  go_wp2_with fail
  clear hmm
  go_loopw [11] (fun i wr => ∃ k c : Nat, k ≤ n ∧ i = .int .i64 k ∧ c ≤ k ∧ Hid (MO wr w.heap.size c (byF (l.take k) sa)) ∧ Hid (Below w.heap.size w wr)) (fun i _ => n - (intOf i).toNat)
  case atStart => exact ⟨0, 0, Nat.zero_le _, rfl, Nat.le_refl _, F0, B0⟩
  case round =>
    clear F0 B0
    obtain ⟨k, c, hk, rfl, hc, HF, HB⟩ := hrel
    have hzr := HB.out.size
    have hml := HF.out.lt
    by_cases hlt : k < n
    · have hkl : k < l.length := by rw [HN.out]; exact hlt
      obtain ⟨g, hA, hgW, hcl⟩ := HM.out.2 (by omega)
      subst hA
      obtain ⟨d0, d1, d2⟩ := hcl k hkl
      have c0 := (HB.out.cell (p := ⟨g, k * 3, none⟩) hgW).trans d0
      have c1 := (HB.out.cell (p := ⟨g, k * 3 + 1, none⟩) hgW).trans d1
      have c2 := (HB.out.cell (p := ⟨g, k * 3 + 2, none⟩) hgW).trans d2
      have hx := HM.out.1 _ (List.getElem_mem hkl)
      have HBF := Lib.hid (show byF (l.take (k + 1)) sa = if eqB l[k].h sa = true then updO (byF (l.take k) sa) l[k].p l[k].s else byF (l.take k) sa by rw [take_next l k hkl, byF_snoc])
      clear hcl d0 d1 d2
      generalize l[k] = x at *
      obtain ⟨xp, xh, xs⟩ := x
      obtain ⟨hx0, hx1, hx2, hx3⟩ := hx
      simp only at c0 c1 c2 hx0 hx1 hx2 hx3 HBF
      have b0 : (0 : Int) ≤ (k : Int) := by omega
      have b1 : (k : Int) < (n : Int) := by omega
      have B1 := Lib.hid (HB.out.alloc hzr (.cells #[.string xp, .string xh, .int .i64 xs] 59))
      have F1 := HF.out.below ((Below.refl wr.heap.size wr).alloc (Nat.le_refl _) (.cells #[.string xp, .string xh, .int .i64 xs] 59))
      obtain ⟨b, hb⟩ : ∃ b, eqB xh sa = b := ⟨_, rfl⟩
      cases b
      · have F2 := Lib.hid (show MO _ w.heap.size c (byF (l.take (k + 1)) sa) by rw [HBF.out, hb, if_neg (by simp)]; exact F1)
        have e1 : (xh.toList == sa.toList) = false := hb
        have e2 : ¬ xh.toList = sa.toList := by simpa using e1
        have e3 : ¬ sa.toList = xh.toList := fun e => e2 e.symm
        clear hb HBF F1 HF HB
        go_wp2_with fail
        go_roundw
        case rel => exact ⟨k + 1, c, by omega, by go_num, by omega, F2, B1⟩
        case measure => simp [intOf]; omega
      · obtain ⟨D, hown, hat⟩ := F1
        have HO := Lib.hid hown
        have HPUT := Lib.hid (fun (w' : World) => mo_put (w' := w') (s := xp) (y := xs) hown hat)
        have HBF2 := Lib.hid (show byF (l.take (k + 1)) sa = updO (byF (l.take k) sa) xp xs by rw [HBF.out, hb, if_pos rfl])
        have HKEY := Lib.hid (show keyOf Tryz.prog 9 (.string xp) = some (.string xp.data.toList) from Go.WideMaps.keyOf_string_mk Tryz.underlying9 (by unfold maxLen; omega))
        obtain rfl := (eqB_iff _ _).1 hb
        clear hb HBF hown hat HF HB
        go_wp2_with (at_mapUpdate; refine wpList_mapUpdate_own _ rfl _ _ _ 46 rfl 9 3 keyLaw Tryz.underlying46 _ w.heap.size c _ rfl HO.out (by unfold maxLen; omega) _ _ _ rfl rfl HKEY.out _ [] (plainElem_int Tryz.underlying3 (WalkArith.wf_i64 (by omega))) ?_; intro w5 hown5 hgrow5; (have O5 := Lib.hid (show MO w5 w.heap.size (c + 1) (byF (l.take (k + 1)) xh) by rw [HBF2.out]; exact HPUT.out _ hown5)); (have B5 := Lib.hid (B1.out.grown hgrow5 B1.out.size (fun j hj => by cases hj; exact Nat.le_refl _))); clear hown5 hgrow5)
        go_roundw
        case rel => exact ⟨k + 1, c + 1, by omega, by go_num, by omega, O5, B5⟩
        case measure => simp [intOf]; omega
    · obtain rfl : n = k := by omega
      have HF2 := HF.out
      rw [List.take_of_length_le (by rw [HN.out]; exact Nat.le_refl _)] at HF2
      have HFF := Lib.hid HF2
      clear HF2 HF
      go_wp2_with fail
      go_ret
      exact ⟨_, c, rfl, Nat.le_refl _, hc, HFF.out, HB.out⟩
/-- What scoreOf hands back. -/
def SoRet (o : Option Int) (w : World) (e : Ending) (w' : World) : Prop := Below w.heap.size w w' ∧ ((o = none ∧ e = .returned (.tuple #[.int .i64 0, .bool false])) ∨ ∃ v, o = some v ∧ e = .returned (.tuple #[.int .i64 v, .bool true]))
theorem gv_cons (x : Mk) (t : List Mk) (p h : ByteArray) : gv (x :: t) p h = if (eqB x.p p && eqB x.h h) = true then some x.s else gv t p h := by
  unfold gv
  rw [List.find?_cons]
  cases (eqB x.p p && eqB x.h h) <;> rfl
set_option maxRecDepth 100000 in
set_option maxHeartbeats 4000000 in
theorem scoreof_walk (A : Option Addr) (n cap : Nat) (l : List Mk) (sp sh : ByteArray) (w : World) (hn : l.length = n) (hn2 : n ≤ 1000) (hM : ML w A l) :
    Calls Tryz.prog 25 #[.slice A n cap, .string sp, .string sh] w (SoRet (gv l sp sh) w) := by
  have HN := Lib.hid hn
  have HM := Lib.hid hM
  obtain ⟨o, ho⟩ : ∃ o, gv l sp sh = o := ⟨_, rfl⟩
  rw [ho]
  clear hn hM
  go_enter Tryz.func25, Tryz.ntmps25
  go_wp2_with fail
  go_loopw [12] (fun i wr => ∃ k : Nat, k ≤ n ∧ i = .int .i64 k ∧ Hid (gv (l.drop k) sp sh = o) ∧ Hid (Below w.heap.size w wr)) (fun i _ => n - (intOf i).toNat)
  case atStart => exact ⟨0, Nat.zero_le _, rfl, Lib.hid ho, Lib.hid (Below.refl _ _)⟩
  case round =>
    clear ho
    obtain ⟨k, hk, rfl, HG, HB⟩ := hrel
    have hzr := HB.out.size
    by_cases hlt : k < n
    · have hkl : k < l.length := by rw [HN.out]; exact hlt
      obtain ⟨g, hA, hgW, hcl⟩ := HM.out.2 (by omega)
      subst hA
      obtain ⟨d0, d1, d2⟩ := hcl k hkl
      have c0 := (HB.out.cell (p := ⟨g, k * 3, none⟩) hgW).trans d0
      have c1 := (HB.out.cell (p := ⟨g, k * 3 + 1, none⟩) hgW).trans d1
      have c2 := (HB.out.cell (p := ⟨g, k * 3 + 2, none⟩) hgW).trans d2
      have HG2 := HG.out
      rw [drop_step l k hkl, gv_cons] at HG2
      have HGN := Lib.hid HG2
      clear hcl d0 d1 d2 HG2 HG
      generalize l[k] = x at *
      obtain ⟨xp, xh, xs⟩ := x
      simp only at c0 c1 c2 HGN
      have b0 : (0 : Int) ≤ (k : Int) := by omega
      have b1 : (k : Int) < (n : Int) := by omega
      have B1 := Lib.hid (HB.out.alloc hzr (.cells #[.string xp, .string xh, .int .i64 xs] 59))
      obtain ⟨b, hb⟩ : ∃ b, eqB xp sp = b := ⟨_, rfl⟩
      obtain ⟨b2, hb2⟩ : ∃ b, eqB xh sh = b := ⟨_, rfl⟩
      cases b
      · have HG3 := Lib.hid (show gv (l.drop (k + 1)) sp sh = o by have := HGN.out; rw [hb] at this; simpa using this)
        have e1 : (xp.toList == sp.toList) = false := hb
        have e2 : ¬ xp.toList = sp.toList := by simpa using e1
        have e3 : ¬ sp.toList = xp.toList := fun e => e2 e.symm
        clear hb hb2 HGN HB
        go_wp2_with fail
        go_roundw
        case rel => exact ⟨k + 1, by omega, by go_num, HG3, B1⟩
        case measure => simp [intOf]; omega
      · cases b2
        · have HG3 := Lib.hid (show gv (l.drop (k + 1)) sp sh = o by have := HGN.out; rw [hb, hb2] at this; simpa using this)
          have e1 : (xh.toList == sh.toList) = false := hb2
          have e2 : ¬ xh.toList = sh.toList := by simpa using e1
          have e3 : ¬ sh.toList = xh.toList := fun e => e2 e.symm
          obtain rfl := (eqB_iff _ _).1 hb
          clear hb hb2 HGN HB
          go_wp2_with fail
          go_roundw
          case rel => exact ⟨k + 1, by omega, by go_num, HG3, B1⟩
          case measure => simp [intOf]; omega
        · have HE := Lib.hid (show some xs = o by have := HGN.out; rw [hb, hb2] at this; simpa using this)
          obtain rfl := (eqB_iff _ _).1 hb
          obtain rfl := (eqB_iff _ _).1 hb2
          have HRES := Lib.hid (fun (W : World) (h : Below w.heap.size w W) => show SoRet o w (.returned (.tuple #[.int .i64 xs, .bool true])) W from ⟨h, Or.inr ⟨xs, HE.out.symm, rfl⟩⟩)
          clear hb hb2 HGN HB HE
          go_wp2_with fail
          go_ret2
          exact HRES.out _ B1.out
    · obtain rfl : n = k := by omega
      have HE := Lib.hid (show none = o by rw [← HG.out, List.drop_eq_nil_of_le (by rw [HN.out]; exact Nat.le_refl _)]; rfl)
      have HRES := Lib.hid (fun (W : World) (h : Below w.heap.size w W) => show SoRet o w (.returned (.tuple #[.int .i64 0, .bool false])) W from ⟨h, Or.inl ⟨HE.out.symm, rfl⟩⟩)
      clear HG HE
      go_wp2_with fail
      go_ret2
      exact HRES.out _ HB.out
end Go.Proofs.YthhiefpickpiaaaGreatDoor.Cal
