/-
  THE LAW AgreeWholly.
-/
import Derived.Test.YtgajencgpceababGreatDoorMarksGen
import Derived.Test.YtgajencgpceababGreatDoorLaw
import Derived.Test.YtgajencgpceababGreatDoorCalA
import Derived.Test.YtgajencgpceababGreatDoorCalF
import Derived.Test.YtgajencgpceababGreatDoorCalH
import Derived.Test.YtgajencgpceababGreatDoorCalQ
import Derived.Test.YtgajencgpceababGreatDoorCalW
import Derived.Shelf.SlicesE.Clone
import Derived.Deep.RegionHeld3
namespace Go.Proofs.YtgajencgpceababGreatDoor.Cal
open Go.Shelf
open Go.ChangeShapes Go.WideShapes Go.ChangeAt Go.RowKit Stm Key
set_option linter.unusedVariables false

theorem sizeM (w : World) : (sizeOf 39).run Tryz.prog w = .ok 3 w := by kernel_rfl
theorem clonem_any (A : Option Addr) (n cap : Nat) (l : List Mk) (w : World) (hS : ML w A l) (hn : l.length = n) (hn2 : n ≤ 1000) (hA : (A = none ∧ n = 0) ∨ ∃ g, A = some ⟨g, 0, none⟩) :
    Calls Tryz.prog 8 #[.slice A n cap] w fun e w' => ∃ (A' : Option Addr) (c' : Nat), e = .returned (.slice A' n c') ∧
      w'.ownsRow w.heap.size 39 3 (.slice A' n c') n (flatM l) ∧ Below w.heap.size w w' := by
  rcases hA with ⟨rfl, rfl⟩ | ⟨g, rfl⟩
  · refine (AnyE.slices_Clone_nil Tryz.laysSlE041_f8 0 cap w).mono ?_
    rintro e w' ⟨rfl, rfl⟩
    have : l = [] := List.length_eq_zero_iff.1 hn
    subst this
    exact ⟨none, 0, rfl, World.ownsRow_nil _ _ _ _, Below.refl _ _⟩
  · obtain ⟨i0, hi0, hz0, hz1, hz2⟩ := info_parts infoM
    refine (AnyE.slices_Clone Tryz.laysSlE041_f8 i0 _ 3 40 hi0 hz0 hz1 hz2 rfl (by omega) sizeM g 0 n cap (flatM l) w (by rw [flatM_length, hn]) (by unfold maxLen; omega) (by omega) ?_ ?_).mono ?_
    · intro j u hj
      rw [Nat.zero_add]
      have hjl : j < l.length * 3 := by
        rcases Nat.lt_or_ge j (l.length * 3) with h | h
        · exact h
        · rw [List.getElem?_eq_none (by rw [flatM_length]; exact h)] at hj; cases hj
      obtain ⟨b, hb, _, hc⟩ := hS.2 (by omega)
      have : g = b := congrArg Addr.block (Option.some.inj hb)
      subst this
      have hi : j / 3 < l.length := by omega
      obtain ⟨e0, e1, e2⟩ := flatM_get l (j / 3) hi
      obtain ⟨k0, k1, k2⟩ := hc (j / 3) hi
      rcases (by omega : j = j / 3 * 3 ∨ j = j / 3 * 3 + 1 ∨ j = j / 3 * 3 + 2) with h | h | h
      · rw [h] at hj ⊢; rw [e0] at hj; have h5 := Option.some.inj hj; subst h5; exact k0
      · rw [h] at hj ⊢; rw [e1] at hj; have h5 := Option.some.inj hj; subst h5; exact k1
      · rw [h] at hj ⊢; rw [e2] at hj; have h5 := Option.some.inj hj; subst h5; exact k2
    · intro u hu
      obtain ⟨x, _, hx⟩ := List.mem_flatMap.1 hu
      simp [mv] at hx
      rcases hx with rfl | rfl | rfl <;> rfl
    · rintro e w' ⟨v', rfl, ho, hne, hb⟩
      rcases ho.2 with ⟨e, e2⟩ | ⟨g', cap', cur, e, _⟩
      · exact absurd e hne
      · subst e
        exact ⟨some ⟨g', 0, none⟩, cap', rfl, ho, hb⟩
/-- The map of the first scores of the papers of the first k marks. -/
structure MapOk (l : List Mk) (k : Nat) (D : DataW Unit) : Prop where
  map : Maps.IsMap D
  has : ∀ s : ByteArray, Maps.has D (.string s.data.toList) = true ↔ ∃ x ∈ l.take k, x.p = s
  at' : ∀ s : ByteArray, (∃ x ∈ l.take k, x.p = s) → D.atKey (.string s.data.toList) (.lit (.int .i64 0)) = .lit (.int .i64 (fstS l s))
theorem MapOk.old {l : List Mk} {k : Nat} {D : DataW Unit} (h : MapOk l k D) (hk : k < l.length) (hh : Maps.has D (.string l[k].p.data.toList) = true) : MapOk l (k + 1) D := by
  have key : ∀ s : ByteArray, (∃ x ∈ l.take (k + 1), x.p = s) ↔ ∃ x ∈ l.take k, x.p = s := fun s => by
    rw [take_next l k hk]
    constructor
    · rintro ⟨x, hx, rfl⟩
      rcases List.mem_append.1 hx with hx | hx
      · exact ⟨x, hx, rfl⟩
      · obtain rfl := List.mem_singleton.1 hx; exact (h.has _).1 hh
    · rintro ⟨x, hx, e⟩; exact ⟨x, List.mem_append.2 (Or.inl hx), e⟩
  exact ⟨h.map, fun s => by rw [key]; exact h.has s, fun s hs => h.at' s ((key s).1 hs)⟩
theorem MapOk.new {l : List Mk} {k : Nat} {D : DataW Unit} (h : MapOk l k D) (hk : k < l.length) (hh : Maps.has D (.string l[k].p.data.toList) = false) : MapOk l (k + 1) (D.put (.string l[k].p.data.toList) (.lit (.int .i64 l[k].s))) ∧ fstS l l[k].p = l[k].s := by
  have hno : ∀ x ∈ l.take k, x.p ≠ l[k].p := fun x hx e => by
    have := (h.has l[k].p).2 ⟨x, hx, e⟩; rw [hh] at this; cases this
  have hf := fst_new hk hno
  refine ⟨⟨h.map.put _ _, fun s => ?_, fun s hs => ?_⟩, hf⟩
  · cases hx : eqB l[k].p s with
    | true =>
      have := (eqB_iff _ _).1 hx
      subst this
      rw [Maps.has_put_same (k := .string l[k].p.data.toList) h.map (show WideAt.IsKeyLit (.string _) from trivial)]
      exact ⟨fun _ => ⟨l[k], by rw [take_next l k hk]; exact List.mem_append.2 (Or.inr (List.mem_singleton.2 rfl)), rfl⟩, fun _ => rfl⟩
    | false =>
      rw [Maps.has_put_other (key_ne hx), h.has s, take_next l k hk]
      constructor
      · rintro ⟨x, hx2, e⟩; exact ⟨x, List.mem_append.2 (Or.inl hx2), e⟩
      · rintro ⟨x, hx2, e⟩
        rcases List.mem_append.1 hx2 with hx2 | hx2
        · exact ⟨x, hx2, e⟩
        · obtain rfl := List.mem_singleton.1 hx2
          rw [e, eqB_self] at hx; cases hx
  · cases hx : eqB l[k].p s with
    | true =>
      have := (eqB_iff _ _).1 hx
      subst this
      rw [Maps.atKey_put_same (k := .string l[k].p.data.toList) h.map (show WideAt.IsKeyLit (.string _) from trivial), hf]
    | false =>
      rw [Maps.atKey_put_other (key_ne hx)]
      refine h.at' s ?_
      obtain ⟨x, hx2, e⟩ := hs
      rw [take_next l k hk] at hx2
      rcases List.mem_append.1 hx2 with hx2 | hx2
      · exact ⟨x, hx2, e⟩
      · obtain rfl := List.mem_singleton.1 hx2
        rw [e, eqB_self] at hx; cases hx
theorem MapOk.nil (l : List Mk) : MapOk l 0 (.map []) := ⟨Maps.isMap_empty, fun s => ⟨(fun h => by cases h), (fun ⟨x, hx, _⟩ => by simp at hx)⟩, (fun s ⟨x, hx, _⟩ => by simp at hx)⟩
theorem at_int {D : DataW Unit} {kl : Lit} {c z : Int} (h : D.atKey kl (.lit (.int .i64 0)) = .lit (.int .i64 c)) (h2 : D.atKey kl (.lit (.int .i64 0)) = .lit (.int .i64 z)) : c = z := by
  rw [h2] at h; exact (Lit.int.inj (DataW.lit.inj h)).2.symm
theorem own_at {w : World} {base E S n cap g j : Nat} {xs : List Value} {v : Value} (h : w.ownsRow base E S (.slice (some ⟨g, 0, none⟩) n cap) n xs) (hj : xs[j]? = some v) : w.cell? ⟨g, j, none⟩ = some v := by
  have := h.cells (g := g) rfl _ _ hj; rwa [row_add'] at this
set_option maxRecDepth 100000 in
set_option maxHeartbeats 8000000 in
theorem law_agreewholly (a0 : Option Addr) (len0 cap0 : Nat) (z0 : List Int) (w : World) (w0 : IsRow .i64 w a0 len0 cap0 z0) :
    Calls Tryz.prog 3 #[.slice a0 len0 cap0] w fun e w' => e = .returned (.bool true) ∧ Below w.heap.size w w' := by
  have SA := Lib.hid (strm_new w0)
  have G0 := Lib.hid (show Below w.heap.size w (w.alloc (.cells #[.slice a0 len0 cap0, .int .i64 0] 25)) from (Below.refl _ _).alloc (Nat.le_refl _) _)
  clear w0
  go_enter Tryz.func3, Tryz.ntmps3
  go_wp2_with fail
  refine (marks_any w.heap.size 0 4 4 _ SA.out (by omega) (by omega) (by omega)).mono ?_
  rintro e w1 ⟨A, n, c, l, rfl, hl, hn, hnc, hml, hat, hgr, hs⟩
  have G1 := Lib.hid (G0.out.trans (hgr.toBelow (Nat.le_refl _) (by simp)))
  have HL := Lib.hid hl
  have M1 := Lib.hid hml
  have HA := Lib.hid (show (A = none ∧ n = 0) ∨ ∃ g, A = some ⟨g, 0, none⟩ from hat.imp id (fun ⟨g, e, _⟩ => ⟨g, e⟩))
  clear hgr hs hl hml hat SA G0
  obtain ⟨r, hr⟩ : ∃ r, chkE ⟨#[]⟩ ⟨#[]⟩ 0 l = r := ⟨_, rfl⟩
  have HR := Lib.hid hr
  have HRE := Lib.hid (show refE [] none l = r by rw [marks_same, hr])
  clear hr
  have hz1 := G1.out.size
  go_wp2_with fail
  refine (marksfault_walk A n c l w1 HL.out (by omega) M1.out r HRE).mono ?_; rintro e w2 ⟨rfl, hb⟩
  have G2 := Lib.hid (G1.out.trans (hb.mono hz1))
  have M2 := Lib.hid (M1.out.below hb)
  have hz2 := G2.out.size
  clear hb G1 M1 hz1
  by_cases hr0 : r = 0
  · subst hr0
    go_wp2_with fail
    refine (agreement_walk A n c l w2 HL.out hn M2.out 0 HR).mono ?_; rintro e w3 ⟨hb, hor⟩
    rcases hor with ⟨h0, _⟩ | ⟨_, rfl⟩
    · exact absurd rfl h0
    obtain ⟨av, hav⟩ : ∃ av, agR (scP l) (papersL l).length = av := ⟨_, rfl⟩
    rw [hav]
    have HAV := Lib.hid hav
    have HLE := Lib.hid (show av.1 ≤ av.2 by rw [← hav]; exact agR_le (scP_len (by rw [HL.out]; omega)) _)
    have G3 := Lib.hid (G2.out.trans (hb.mono hz2))
    have M3 := Lib.hid (M2.out.below hb)
    have hz3 := G3.out.size
    clear hb hav G2 M2 hz2
    have XA := Lib.hid (Blk.new w3 32 #[.int .i64 av.1, .int .i64 av.2])
    have G4 := Lib.hid (G3.out.alloc hz3 (.cells #[.int .i64 av.1, .int .i64 av.2] 32))
    have M4 := Lib.hid (M3.out.below ((Below.refl _ _).alloc (Nat.le_refl _) (.cells #[.int .i64 av.1, .int .i64 av.2] 32)))
    go_wp2_with fail
    refine (clonem_any A n c l _ M4.out HL.out (by omega) HA.out).mono ?_; rintro e w5 ⟨A', c', rfl, ho, hb⟩
    have hC : (w3.alloc (.cells #[.int .i64 av.1, .int .i64 av.2] 32)).heap.size = w3.heap.size + 1 := by simp
    rw [hC] at ho hb
    have hz5 : w3.heap.size + 1 ≤ w5.heap.size := by have := hb.size; rwa [hC] at this
    have M5 := Lib.hid (M4.out.below (by rw [hC]; exact hb))
    have HMB := Lib.hid (fun W (h : Below (w3.heap.size + 1) w5 W) => M4.out.below (w' := W) (by rw [hC]; exact hb.trans h))
    have XA5 := Lib.hid (XA.out.below hb (by omega))
    have G5 := Lib.hid (G4.out.trans (hb.mono (by omega)))
    have O5 := Lib.hid (show w5.ownsRow (w3.heap.size + 1) 39 3 (.slice A' n c') n (flatM (lv l 0)) from ho)
    clear ho hb M4 XA G4 hC M3 G3
    have hmm : ∀ W : World, (Instr.makeMap 40 none).run Tryz.prog W = .ok (.map (some W.heap.size)) (W.alloc (.map #[] 0)) := fun W => by
      simp [Instr.makeMap, Result.andThen]
    go_wp2_with fail
    clear hmm
    go_loopw [34] (fun i wr => ∃ (k : Nat) (D : DataW Unit), k ≤ n ∧ i = .int .i64 k ∧ w5.heap.size < wr.heap.size ∧ Hid (MapOk l k D) ∧ Hid (wr.ownsMap Tryz.prog 9 (plainElem Tryz.prog 3) w5.heap.size k D) ∧ Hid (wr.ownsRow (w3.heap.size + 1) 39 3 (.slice A' n c') n (flatM (lv l k))) ∧ Hid (Below (w3.heap.size + 1) w5 wr)) (fun i _ => n - (intOf i).toNat)
    case atStart => exact ⟨0, .map [], Nat.zero_le _, rfl, by simp, Lib.hid (MapOk.nil l), Lib.hid (World.ownsMap_made _ _ _ _), Lib.hid (own_below O5.out ((Below.refl _ _).alloc (Nat.le_refl _) _)), Lib.hid ((Below.refl _ _).alloc hz5 _)⟩
    case round =>
      obtain ⟨k, D, hk, rfl, hszr, HMK, HMP, HRW, HBR⟩ := hrel
      by_cases hlt : k < n
      · have hkl : k < l.length := by rw [HL.out]; exact hlt
        have hlv := lv_len l k
        obtain ⟨g, cap', hg⟩ : ∃ g c2, (Value.slice A' n c') = .slice (some ⟨g, 0, none⟩) n c2 := by
          rcases HRW.out.2 with ⟨e, e0⟩ | ⟨g, c2, cur, e, _⟩
          · omega
          · exact ⟨g, c2, e⟩
        injection hg with hg1 _ hg3
        subst hg1
        subst hg3
        have hcs2 := HRW.out.cells (g := g) rfl
        obtain ⟨q0, q1, q2⟩ := flatM_get (lv l k) k (by rw [hlv]; exact hkl)
        rw [lv_at hkl] at q0 q1 q2
        have c0 := hcs2 _ _ q0
        have c1 := hcs2 _ _ q1
        have c2 := hcs2 _ _ q2
        rw [row_add'] at c0 c1 c2
        have hgl := (HRW.out.lt g rfl)
        have hgf := own_frozen HRW.out (k * 3 + 2)
        have hmo := M5.out.1 _ (List.getElem_mem hkl)
        have HNX := Lib.hid (lv_next hkl)
        have HF2 := Lib.hid (flatM_set2 (lv l k) k (fstS l l[k].p) (by rw [hlv]; exact hkl))
        rw [lv_at hkl, lv_next hkl] at HF2
        have HOLD := Lib.hid (fun hh => HMK.out.old hkl hh)
        have HNEW := Lib.hid (fun hh => HMK.out.new hkl hh)
        have hgm : g ≠ w5.heap.size := by have := (O5.out.lt g rfl).2; omega
        obtain ⟨x, hxe⟩ : ∃ x, l[k] = x := ⟨_, rfl⟩
        rw [hxe] at c0 c1 c2 q2 hmo HF2 HOLD HNEW
        have HQ2 := Lib.hid q2
        obtain ⟨hx0, hx1, hx2, hx3⟩ := hmo
        obtain ⟨f, hfe⟩ : ∃ f, fstS l x.p = f := ⟨_, rfl⟩
        rw [hfe] at HF2 HNEW
        have HATF := Lib.hid (show ∀ (j : Nat) (D2 : DataW Unit), MapOk l j D2 → Maps.has D2 (.string x.p.data.toList) = true → D2.atKey (.string x.p.data.toList) (.lit (.int .i64 0)) = .lit (.int .i64 f) from fun j D2 h hh => by rw [← hfe]; exact h.at' x.p ((h.has x.p).1 hh))
        have HKEY := Lib.hid (show keyOf Tryz.prog 9 (.string x.p) = some (.string x.p.data.toList) from Go.WideMaps.keyOf_string_mk Tryz.underlying9 (by unfold maxLen; omega))
        have hab : Below wr.heap.size wr (wr.alloc (.cells #[.string x.p, .string x.h, .int .i64 x.s] 39)) := (Below.refl _ _).alloc (Nat.le_refl _) _
        have OA := Lib.hid (HMP.out.alloc (.cells #[.string x.p, .string x.h, .int .i64 x.s] 39))
        have RWA := Lib.hid (own_below HRW.out hab)
        have hzc : w3.heap.size + 1 ≤ wr.heap.size := by omega
        have BA := Lib.hid (HBR.out.trans (hab.mono hzc))
        have XM := Lib.hid (Blk.new wr 39 #[.string x.p, .string x.h, .int .i64 x.s])
        have hpn : k * 3 + 2 < n * 3 := by omega
        have a0' : (0 : Int) ≤ (k : Int) := by omega
        have a1' : (k : Int) < (n : Int) := by omega
        have hgl2 := hgl.2
        have HGB := Lib.hid hgl.1
        obtain ⟨hb, hhb⟩ : ∃ hb, Maps.has D (.string x.p.data.toList) = hb := ⟨_, rfl⟩
        have HHB := Lib.hid hhb
        clear hlv hcs2 q0 q1 q2 hxe hfe hab hgl hhb
        cases hb
        · clear HMP HRW HBR
          have HNW := Lib.hid (HNEW.out HHB.out)
          have hfx : f = x.s := HNW.out.2
          subst hfx
          have HAT2 := Lib.hid (show (D.put (.string x.p.data.toList) (.lit (.int .i64 x.s))).atKey (.string x.p.data.toList) (.lit (.int .i64 0)) = .lit (.int .i64 x.s) from HATF.out (k + 1) _ HNW.out.1 (by rw [Maps.has_put_same (k := .string x.p.data.toList) HMK.out.map (show WideAt.IsKeyLit (.string _) from trivial)]))
          obtain ⟨D2, hD2⟩ : ∃ D2, D.put (.string x.p.data.toList) (.lit (.int .i64 x.s)) = D2 := ⟨_, rfl⟩
          have HD2 := Lib.hid hD2
          have HNM := Lib.hid (show MapOk l (k + 1) D2 by rw [← hD2]; exact HNW.out.1)
          rw [hD2] at HAT2
          clear hD2 HNW HNEW HOLD HATF
          go_wp2_with (first | (at_lookup; refine wpList_lookup_own_ok_int _ rfl _ _ 40 rfl 9 3 .i64 keyLaw Tryz.underlying40 Tryz.underlying3 (zeroI _) w5.heap.size k D rfl OA.out (.string x.p) _ rfl HKEY.out ?_; intro c hat hwc; rw [HHB.out]; clear hat hwc) | (at_mapUpdate; refine wpList_mapUpdate_own _ rfl _ _ _ 40 rfl 9 3 keyLaw Tryz.underlying40 _ w5.heap.size k D rfl OA.out (by unfold maxLen; omega) _ _ _ rfl rfl HKEY.out _ [] (plainElem_int Tryz.underlying3 (WalkArith.wf_i64 (by omega))) ?_; intro w6 hown6 hgrow6; (have O6 := Lib.hid (show w6.ownsMap Tryz.prog 9 (plainElem Tryz.prog 3) w5.heap.size (k + 1) D2 by rw [← HD2.out]; exact hown6)); (have R6 := Lib.hid (show w6.ownsRow (w3.heap.size + 1) 39 3 (.slice (some ⟨g, 0, none⟩) n c') n (flatM (lv l k)) from RWA.out.kept hgrow6 (Or.inr (fun e => hgm (Option.some.inj (by simpa [Value.ownBlock] using e)))))); (have X6 := Lib.hid (show Blk w6 wr.heap.size 39 #[.string x.p, .string x.h, .int .i64 x.s] from (hgrow6.block wr.heap.size (by simp) (by intro e; injection e with e; omega)).trans XM.out)); (have B6 := Lib.hid (BA.out.grown hgrow6 (by simp; omega) (fun j hj => by cases hj; exact hz5))); (have s6 := hgrow6.size); (have m0 := X6.out.cell 0 _ rfl); (have m1 := X6.out.cell 1 _ rfl); (have m2 := X6.out.cell 2 _ rfl); (have gf6 := own_frozen R6.out (k * 3 + 2)); (have gc6 := own_at R6.out HQ2.out); clear hown6 hgrow6) | (at_lookup; refine wpList_lookup_own_int _ rfl _ _ 40 rfl 9 3 .i64 keyLaw Tryz.underlying40 Tryz.underlying3 (zeroI _) w5.heap.size (k + 1) D2 rfl O6.out (.string x.p) _ rfl HKEY.out ?_; intro c hat hwc; obtain rfl := at_int hat HAT2.out; clear hat hwc))
          have s7 : w5.heap.size < w6.heap.size := by have := s6; simp at this; omega
          have R7 := Lib.hid (show (w6.setCell ⟨g, k * 3 + 2, none⟩ (.int .i64 x.s)).ownsRow (w3.heap.size + 1) 39 3 (.slice (some ⟨g, 0, none⟩) n c') n (flatM (lv l (k + 1))) by
            have := own_set (u := .int .i64 x.s) R6.out hpn; rw [HF2.out] at this; exact this)
          have O7 := Lib.hid (show (w6.setCell ⟨g, k * 3 + 2, none⟩ (.int .i64 x.s)).ownsMap Tryz.prog 9 (plainElem Tryz.prog 3) w5.heap.size (k + 1) D2 from O6.out.kept (grownBy_set _ _ _) (fun e => hgm (Option.some.inj e).symm))
          have B7 := Lib.hid (B6.out.setCell (p := ⟨g, k * 3 + 2, none⟩) (show w3.heap.size + 1 ≤ g from HGB.out) (.int .i64 x.s))
          have s8 : w5.heap.size < (w6.setCell ⟨g, k * 3 + 2, none⟩ (.int .i64 x.s)).heap.size := by simpa [World.setCell] using s7
          go_roundw
          case rel => exact ⟨k + 1, D2, by omega, by go_num, s8, HNM, O7, R7, B7⟩
          case measure => simp [intOf]; omega
        · have HAT2 := Lib.hid (HATF.out k D HMK.out HHB.out)
          have HNM := Lib.hid (HOLD.out HHB.out)
          have m0 := XM.out.cell 0 _ rfl
          have gf6 := own_frozen RWA.out (k * 3 + 2)
          have gc6 := own_at RWA.out HQ2.out
          have R7 := Lib.hid (show ((wr.setCell ⟨g, k * 3 + 2, none⟩ (.int .i64 f)).alloc (.cells #[.string x.p, .string x.h, .int .i64 x.s] 39)).ownsRow (w3.heap.size + 1) 39 3 (.slice (some ⟨g, 0, none⟩) n c') n (flatM (lv l (k + 1))) by
            have := own_set (u := .int .i64 f) HRW.out hpn; rw [HF2.out] at this; exact own_below this ((Below.refl _ _).alloc (Nat.le_refl _) _))
          have O7 := Lib.hid (show ((wr.setCell ⟨g, k * 3 + 2, none⟩ (.int .i64 f)).alloc (.cells #[.string x.p, .string x.h, .int .i64 x.s] 39)).ownsMap Tryz.prog 9 (plainElem Tryz.prog 3) w5.heap.size (k + 1) D from ((HMP.out.kept (grownBy_set _ _ _) (fun e => hgm (Option.some.inj e).symm)).alloc _).mono (Nat.le_succ k))
          have B7 := Lib.hid ((HBR.out.setCell (p := ⟨g, k * 3 + 2, none⟩) (show w3.heap.size + 1 ≤ g from HGB.out) (.int .i64 f)).alloc (by simp [World.setCell]; omega) (.cells #[.string x.p, .string x.h, .int .i64 x.s] 39))
          have s8 : w5.heap.size < ((wr.setCell ⟨g, k * 3 + 2, none⟩ (.int .i64 f)).alloc (.cells #[.string x.p, .string x.h, .int .i64 x.s] 39)).heap.size := by simp [World.setCell]; omega
          clear HMP HRW HBR
          clear HATF HOLD HNEW
          go_wp2_with (first | (at_lookup; refine wpList_lookup_own_ok_int _ rfl _ _ 40 rfl 9 3 .i64 keyLaw Tryz.underlying40 Tryz.underlying3 (zeroI _) w5.heap.size k D rfl OA.out (.string x.p) _ rfl HKEY.out ?_; intro c hat hwc; rw [HHB.out]; obtain rfl := at_int hat HAT2.out; clear hat hwc) | (at_lookup; refine wpList_lookup_own_int _ rfl _ _ 40 rfl 9 3 .i64 keyLaw Tryz.underlying40 Tryz.underlying3 (zeroI _) w5.heap.size k D rfl OA.out (.string x.p) _ rfl HKEY.out ?_; intro c hat hwc; obtain rfl := at_int hat HAT2.out; clear hat hwc))
          go_roundw
          case rel => exact ⟨k + 1, D, by omega, by go_num, s8, HNM, O7, R7, B7⟩
          case measure => simp [intOf]; omega
      · have hkn : k = n := by omega
        subst hkn
        have hlv := lv_len l k
        have hrw := HRW.out
        have HKL := Lib.hid (show k = l.length from HL.out.symm)
        have hok : ∀ x ∈ lv l k, mOk x := by
          rw [HKL.out, lv_all]
          intro x hx
          obtain ⟨y, hy, rfl⟩ := List.mem_map.1 hx
          obtain ⟨h1, h2, h3, h4⟩ := M5.out.1 y hy
          obtain ⟨z, hz, _, hzs⟩ := fst_in ⟨y, hy, rfl⟩
          have h5 := (chk_scores l _ _ _ HR.out z hz).2
          exact ⟨h1, h2, by show -1000000 ≤ fstS l y.p; rw [hzs]; omega, by show fstS l y.p ≤ 1000000; rw [hzs]; omega⟩
        have ML2 := Lib.hid (row_ml hrw (by rw [hlv]; exact HL.out) hok)
        have HL2 := Lib.hid (show (lv l k).length = k by rw [hlv]; exact HL.out)
        have HR2 := Lib.hid (show chkE ⟨#[]⟩ ⟨#[]⟩ 0 (lv l k) = 0 by rw [HKL.out]; exact lv_chk HR.out)
        have HONE := Lib.hid (show agR (scP (lv l k)) (papersL (lv l k)).length = (1, 1) by rw [HKL.out]; exact lv_one (by rw [← HKL.out]; omega))
        have XA6 := Lib.hid (XA5.out.below HBR.out (Nat.lt_succ_self _))
        have G6 := Lib.hid (G5.out.trans (HBR.out.mono (by omega)))
        have M6 := Lib.hid (HMB.out wr HBR.out)
        clear hlv hrw hok HRW HMP HMK
        go_wp2_with fail
        refine (agreement_walk A' k c' (lv l k) wr HL2.out (by omega) ML2.out 0 HR2).mono ?_; rintro e w7 ⟨hb, hor⟩
        rcases hor with ⟨h0, _⟩ | ⟨_, rfl⟩
        · exact absurd rfl h0
        rw [HONE.out]
        have hz6 := G6.out.size
        have hw3 : w3.heap.size < wr.heap.size := by omega
        have G7 := Lib.hid (G6.out.trans (hb.mono hz6))
        have XA7 := Lib.hid (XA6.out.below hb hw3)
        have M7 := Lib.hid (M6.out.below hb)
        have hz7 := G7.out.size
        have hw7 : w3.heap.size < w7.heap.size := Nat.lt_of_lt_of_le hw3 hb.size
        clear hb G6 XA6 M6 hz6 ML2 HL2 HR2 HONE
        go_wp2_with fail
        have hb8 : Below w7.heap.size w7 (w7.alloc (.cells #[.int .i64 1, .int .i64 1] 32)) := (Below.refl _ _).alloc (Nat.le_refl _) _
        have XA8 := Lib.hid (XA7.out.below hb8 hw7)
        have XB8 := Lib.hid (Blk.new w7 32 #[.int .i64 1, .int .i64 1])
        have G8 := Lib.hid (G7.out.trans (hb8.mono hz7))
        have M8 := Lib.hid (M7.out.below hb8)
        have hs8 : (w7.alloc (.cells #[.int .i64 1, .int .i64 1] 32)).heap.size = w7.heap.size + 1 := by simp
        have HS8 := Lib.hid hs8
        have HAG := Lib.hid (show ∀ v, Below (w7.heap.size + 1) (w7.alloc (.cells #[.int .i64 1, .int .i64 1] 32)) v → Calls Tryz.prog 9 #[.slice A k c] v fun e w' => e = .returned (.bool (decide (av = (1, 1)))) ∧ Below v.heap.size v w' from fun v h =>
          (agrees_walk A k c l v HL.out (by omega) (M8.out.below (by rw [hs8]; exact h))).mono fun e w' ⟨b, he, hi, hb⟩ => ⟨by
            have h1 := agrees_one (l := l) (by rw [← HKL.out]; omega)
            rw [HAV.out] at h1
            rw [he]
            congr 2
            rw [Bool.eq_iff_iff, hi, h1, decide_eq_true_iff], hb⟩)
        have HST := Lib.hid (fun (v : World) => scores_true v)
        have hcA : ∀ v, Below (w7.heap.size + 1) (w7.alloc (.cells #[.int .i64 1, .int .i64 1] 32)) v → Blk v w3.heap.size 32 #[.int .i64 av.1, .int .i64 av.2] ∧ Blk v w7.heap.size 32 #[.int .i64 1, .int .i64 1] ∧ Below w.heap.size w v := fun v h =>
          ⟨XA8.out.below h (by omega), XB8.out.below h (by omega), G8.out.trans (h.mono (by omega))⟩
        have HCA := Lib.hid hcA
        have HB0 := Lib.hid (show Below (w7.heap.size + 1) (w7.alloc (.cells #[.int .i64 1, .int .i64 1] 32)) (w7.alloc (.cells #[.int .i64 1, .int .i64 1] 32)) from Below.refl _ _)
        clear hb8 hcA hs8 XA8 XB8 M8 G7 XA7 M7
        generalize (w7.alloc (.cells #[.int .i64 1, .int .i64 1] 32)) = w8 at *
        obtain ⟨p, q⟩ := av
        have hle : p ≤ q := HLE.out
        have HLE2 := Lib.hid hle
        by_cases hpq : p = 1 ∧ q = 1
        · obtain ⟨rfl, rfl⟩ := hpq
          have HAG2 := Lib.hid (show ∀ v, Below (w7.heap.size + 1) w8 v → Calls Tryz.prog 9 #[.slice A k c] v fun e w' => e = .returned (.bool true) ∧ Below v.heap.size v w' from fun v h => (HAG.out v h).mono fun e w' ⟨he, hb⟩ => ⟨by rw [he]; rfl, hb⟩)
          clear HAG
          go_region_held3 (fun v => v.cell? ⟨w3.heap.size, 0, none⟩ = some (.int .i64 1) ∧ v.cell? ⟨w3.heap.size, 1, none⟩ = some (.int .i64 1) ∧ v.cell? ⟨w7.heap.size, 0, none⟩ = some (.int .i64 1) ∧ v.cell? ⟨w7.heap.size, 1, none⟩ = some (.int .i64 1) ∧ Below (w7.heap.size + 1) w8 v ∧ w7.heap.size + 1 ≤ v.heap.size)
            (first
              | (go_split_ands; have hv := Below.trans (by assumption) (hb.mono (by assumption)); obtain ⟨k0, k1, _⟩ := HCA.out _ hv; exact ⟨k0.cell 0 _ rfl, k0.cell 1 _ rfl, k1.cell 0 _ rfl, k1.cell 1 _ rfl, hv, Nat.le_trans (by assumption) hb.size⟩)
              | (obtain ⟨k0, k1, _⟩ := HCA.out _ HB0.out.drew; exact ⟨k0.cell 0 _ rfl, k0.cell 1 _ rfl, k1.cell 0 _ rfl, k1.cell 1 _ rfl, HB0.out.drew, by have := HS8.out; simp; omega⟩))
            (first
              | (go_at_call 6; refine (HST.out _).mono ?_; rintro e wq ⟨rfl, hb⟩)
              | (go_at_call 9; go_split_ands; refine (HAG2.out _ (by assumption)).mono ?_; rintro e wq ⟨rfl, hb⟩))
          go_split_ands
          go_wp2_with fail
          go_ret
          exact ⟨rfl, (HCA.out _ (by assumption)).2.2⟩
        · have HAG2 := Lib.hid (show ∀ v, Below (w7.heap.size + 1) w8 v → Calls Tryz.prog 9 #[.slice A k c] v fun e w' => e = .returned (.bool false) ∧ Below v.heap.size v w' from fun v h => (HAG.out v h).mono fun e w' ⟨he, hb⟩ => ⟨by
            rw [he, show decide (((p, q) : Int × Int) = (1, 1)) = false by
              rw [decide_eq_false_iff_not]; intro e; injection e with e1 e2; exact hpq ⟨e1, e2⟩], hb⟩)
          clear HAG
          have d1 : decide (p ≤ q) = true := by simpa using hle
          by_cases hp : p = 1
          · subst hp
            have hq : ¬ q = 1 := fun e => hpq ⟨rfl, e⟩
            have e1 : (q == 1) = false := by simpa using hq
            clear hpq
            go_region_held3 (fun v => v.cell? ⟨w3.heap.size, 0, none⟩ = some (.int .i64 1) ∧ v.cell? ⟨w3.heap.size, 1, none⟩ = some (.int .i64 q) ∧ v.cell? ⟨w7.heap.size, 0, none⟩ = some (.int .i64 1) ∧ v.cell? ⟨w7.heap.size, 1, none⟩ = some (.int .i64 1) ∧ Below (w7.heap.size + 1) w8 v ∧ w7.heap.size + 1 ≤ v.heap.size)
              (first
                | (go_split_ands; have hv := Below.trans (by assumption) (hb.mono (by assumption)); obtain ⟨k0, k1, _⟩ := HCA.out _ hv; exact ⟨k0.cell 0 _ rfl, k0.cell 1 _ rfl, k1.cell 0 _ rfl, k1.cell 1 _ rfl, hv, Nat.le_trans (by assumption) hb.size⟩)
                | (obtain ⟨k0, k1, _⟩ := HCA.out _ HB0.out.drew; exact ⟨k0.cell 0 _ rfl, k0.cell 1 _ rfl, k1.cell 0 _ rfl, k1.cell 1 _ rfl, HB0.out.drew, by have := HS8.out; simp; omega⟩))
              (first
                | (go_at_call 6; refine (HST.out _).mono ?_; rintro e wq ⟨rfl, hb⟩)
                | (go_at_call 9; go_split_ands; refine (HAG2.out _ (by assumption)).mono ?_; rintro e wq ⟨rfl, hb⟩))
            go_split_ands
            go_wp2_with fail
            go_ret
            exact ⟨rfl, (HCA.out _ (by assumption)).2.2⟩
          · have e1 : (p == 1) = false := by simpa using hp
            clear hpq
            go_region_held3 (fun v => v.cell? ⟨w3.heap.size, 0, none⟩ = some (.int .i64 p) ∧ v.cell? ⟨w3.heap.size, 1, none⟩ = some (.int .i64 q) ∧ v.cell? ⟨w7.heap.size, 0, none⟩ = some (.int .i64 1) ∧ v.cell? ⟨w7.heap.size, 1, none⟩ = some (.int .i64 1) ∧ Below (w7.heap.size + 1) w8 v ∧ w7.heap.size + 1 ≤ v.heap.size)
              (first
                | (go_split_ands; have hv := Below.trans (by assumption) (hb.mono (by assumption)); obtain ⟨k0, k1, _⟩ := HCA.out _ hv; exact ⟨k0.cell 0 _ rfl, k0.cell 1 _ rfl, k1.cell 0 _ rfl, k1.cell 1 _ rfl, hv, Nat.le_trans (by assumption) hb.size⟩)
                | (obtain ⟨k0, k1, _⟩ := HCA.out _ HB0.out.drew; exact ⟨k0.cell 0 _ rfl, k0.cell 1 _ rfl, k1.cell 0 _ rfl, k1.cell 1 _ rfl, HB0.out.drew, by have := HS8.out; simp; omega⟩))
              (first
                | (go_at_call 6; refine (HST.out _).mono ?_; rintro e wq ⟨rfl, hb⟩)
                | (go_at_call 9; go_split_ands; refine (HAG2.out _ (by assumption)).mono ?_; rintro e wq ⟨rfl, hb⟩))
            go_split_ands
            go_wp2_with fail
            go_ret
            exact ⟨rfl, (HCA.out _ (by assumption)).2.2⟩
  · have e1 : (r != 0) = true := by simpa using hr0
    go_wp2_with fail
    refine (scores_true _).mono ?_; rintro e w3 ⟨rfl, hb⟩
    have G3 := Lib.hid (G2.out.trans (hb.mono hz2))
    clear hb
    go_wp2_with fail
    go_ret
    exact ⟨rfl, G3.out⟩
end Go.Proofs.YtgajencgpceababGreatDoor.Cal
