/-
  THE CONTRACTS OF index.Two and index.Parents.
-/
import Derived.Test.YtnjigaklkalebaaDoorTopOf
import Derived.Laws.OwnMore
namespace Go.Proofs.YtnjigaklkalebaaDoor.For
open Go.ChangeShapes Go.WideShapes Go.ChangeAt Go.RowKit Stm Key
set_option linter.unusedVariables false

theorem look_some {l : List Tp} {s : ByteArray} {i : Nat} (h : lk l s = some i) : Maps.has (numD l l.length) (.string s.data.toList) = true ∧ ∀ c : Int, (numD l l.length).atKey (.string s.data.toList) (.lit (.int .i64 0)) = .lit (.int .i64 c) → c = i := by
  have h1 := numD_look l s (.lit (.int .i64 0)) l.length (Nat.le_refl _)
  rw [List.take_length, h] at h1
  refine ⟨h1.1, fun c hc => ?_⟩
  rw [h1.2] at hc
  injection hc with hc; injection hc with _ hc; exact hc.symm
theorem look_none {l : List Tp} {s : ByteArray} (h : lk l s = none) : Maps.has (numD l l.length) (.string s.data.toList) = false ∧ ∀ c : Int, (numD l l.length).atKey (.string s.data.toList) (.lit (.int .i64 0)) = .lit (.int .i64 c) → c = 0 := by
  have h1 := numD_look l s (.lit (.int .i64 0)) l.length (Nat.le_refl _)
  rw [List.take_length, h] at h1
  refine ⟨h1.1, fun c hc => ?_⟩
  rw [h1.2] at hc
  injection hc with hc; injection hc with _ hc; exact hc.symm
/-- What is found of a key: its number, and whether it is there. -/
def lkI (l : List Tp) (s : ByteArray) : Int := match lk l s with | some i => i | none => 0
theorem look_any (l : List Tp) (s : ByteArray) : Maps.has (numD l l.length) (.string s.data.toList) = (lk l s).isSome ∧ ∀ c : Int, (numD l l.length).atKey (.string s.data.toList) (.lit (.int .i64 0)) = .lit (.int .i64 c) → c = lkI l s := by
  unfold lkI
  cases h : lk l s with
  | none => exact look_none h
  | some i => exact look_some h
def twoE (l : List Tp) (a b : ByteArray) : Int × Int × Int := if (lk l a).isSome = true ∧ (lk l b).isSome = true then (lkI l a, lkI l b, 0) else (0, 0, 8)

set_option maxRecDepth 100000 in
set_option maxHeartbeats 2000000 in
theorem two_walk (M : Nat) (l : List Tp) (a b : ByteArray) (w : World) (hN : NM w M l) (ha : a.size ≤ 1000) (hb : b.size ≤ 1000) (r : Int × Int × Int) (hr : Hid (twoE l a b = r)) :
    Calls Tryd.prog 38 #[.map (some M), .string a, .string b] w fun e w' => e = .returned (.tuple #[.int .i64 r.1, .int .i64 r.2.1, .int .i64 r.2.2]) ∧ w' = w := by
  have HN := Lib.hid (show w.ownsMap Tryd.prog 9 (plainElem Tryd.prog 3) M l.length (numD l l.length) from hN)
  have HA := Lib.hid (show keyOf Tryd.prog 9 (.string a) = some (.string a.data.toList) from Go.WideMaps.keyOf_string_mk Tryd.underlying9 (by unfold maxLen; omega))
  have HB := Lib.hid (show keyOf Tryd.prog 9 (.string b) = some (.string b.data.toList) from Go.WideMaps.keyOf_string_mk Tryd.underlying9 (by unfold maxLen; omega))
  have LA := Lib.hid (look_any l a)
  have LB := Lib.hid (look_any l b)
  obtain ⟨x, hx⟩ : ∃ x, lkI l a = x := ⟨_, rfl⟩
  obtain ⟨y, hy⟩ : ∃ y, lkI l b = y := ⟨_, rfl⟩
  obtain ⟨ka, hka⟩ : ∃ k, (lk l a).isSome = k := ⟨_, rfl⟩
  obtain ⟨kb, hkb⟩ : ∃ k, (lk l b).isSome = k := ⟨_, rfl⟩
  have hr2 := hr.out
  unfold twoE at hr2
  rw [hx, hy, hka, hkb] at hr2
  rw [hx, hka] at LA
  rw [hy, hkb] at LB
  have HR := Lib.hid hr2
  clear hr hr2 hN hx hy hka hkb
  generalize numD l l.length = D at *
  cases ka <;> cases kb
  all_goals
    go_enter Tryd.func38, Tryd.ntmps38
    go_wp2_with (first
      | (at_lookup; refine wpList_lookup_own_ok_int _ rfl _ _ 66 rfl 9 3 .i64 keyLaw Tryd.underlying66 Tryd.underlying3 (zeroI _) M l.length D rfl HN.out (.string a) _ rfl HA.out ?_; intro c hat hwc; obtain rfl := LA.out.2 c hat; rw [LA.out.1]; clear hat hwc)
      | (at_lookup; refine wpList_lookup_own_ok_int _ rfl _ _ 66 rfl 9 3 .i64 keyLaw Tryd.underlying66 Tryd.underlying3 (zeroI _) M l.length D rfl HN.out (.string b) _ rfl HB.out ?_; intro c hat hwc; obtain rfl := LB.out.2 c hat; rw [LB.out.1]; clear hat hwc))
    go_ret3
    exact ⟨by rw [← HR.out]; rfl, rfl⟩

/-- What Parents finds wrong. -/
def parE (l : List Tp) : Int := if l.any (misses l) then 8 else if hasLoop (pars l) then 14 else 0
theorem parOf_lk {l : List Tp} {a : ByteArray} (h : a.toList.isEmpty = false) {i : Nat} (hi : lk l a = some i) : parOf l a = i := by
  unfold parOf; rw [h, hi]; rfl
theorem parOf_empty {l : List Tp} {a : ByteArray} (h : a.toList.isEmpty = true) : parOf l a = -1 := by
  unfold parOf; rw [h]; rfl
theorem make_ints (n : Nat) (hn : n ≤ 1000) : ∃ cs : Array Value, cs.size = n ∧ ∀ W : World, (Instr.makeSlice 22 (.int .i64 n) (.int .i64 n)).run Tryd.prog W = .ok (.slice (some ⟨W.heap.size, 0, none⟩) n n) (W.alloc (.cells cs 3)) := by
  obtain ⟨i0, hi, hz0, hz1, hz2⟩ := info_parts infoI
  refine ⟨madeCells (Value.int .i64 0).cells (n * i0.size), ?_, fun W => ?_⟩
  · rw [hz1, size_madeCells]; omega
  · have h := run_makeSlice (P := Tryd.prog) W 22 3 i0 (.int .i64 0) Tryd.underlying22 hi hz0 .i64 .i64 n n (by omega) (Int.le_refl _) (by rw [hz1]; simp; omega) (by rw [hz2]; omega) (by omega)
    simpa using h
theorem blk_il {w : World} {g n : Nat} {cs : Array Value} {P : List Int} (h : Blk w g 3 cs) (hP : P.length = n) (hc : ∀ (j : Nat) (hj : j < P.length), cs[j]? = some (.int .i64 P[j])) : IL w (some ⟨g, 0, none⟩) P :=
  fun _ => ⟨g, rfl, h.lt, fun i hi => h.cell i _ (hc i hi)⟩

set_option maxRecDepth 100000 in
set_option maxHeartbeats 4000000 in
theorem parents_walk (A : Option Addr) (n cap M : Nat) (l : List Tp) (w : World) (hn : l.length = n) (hn2 : n ≤ 1000) (hS : TL w A l) (hN : NM w M l) (r : Int) (hr : Hid (parE l = r)) :
    Calls Tryd.prog 49 #[.slice A n cap, .map (some M), .func (.func 50) #[] #[]] w fun e w' =>
      ∃ (g : Nat), (r ≠ 0 ∧ e = .returned (.tuple #[.slice none 0 0, .int .i64 r]) ∨ r = 0 ∧ e = .returned (.tuple #[.slice (some ⟨g, 0, none⟩) n n, .int .i64 0]) ∧ w.heap.size ≤ g ∧ IL w' (some ⟨g, 0, none⟩) (pars l)) ∧ Below w.heap.size w w' := by
  have HS := Lib.hid hS
  have HL := Lib.hid hn
  have HN := Lib.hid hN
  have hMlt : M < w.heap.size := hN.lt
  clear hS hn hN
  obtain ⟨cs0, hcs0, hmk⟩ := make_ints n hn2
  go_enter Tryd.func49, Tryd.ntmps49
  go_wp2_with fail
  clear hmk
  go_loopw [19] (fun i wr => ∃ (k : Nat) (cs : Array Value), k ≤ n ∧ i = .int .i64 k ∧ cs.size = n ∧ Hid (Blk wr w.heap.size 3 cs) ∧ Hid (∀ (j : Nat) (hj : j < l.length), j < k → cs[j]? = some (.int .i64 (parOf l l[j].a)) ∧ misses l l[j] = false) ∧ Hid (Below w.heap.size w wr)) (fun i _ => n - (intOf i).toNat)
  case atStart => exact ⟨0, cs0, Nat.zero_le _, rfl, hcs0, Lib.hid (Blk.new w _ _), Lib.hid (fun j _ hj => absurd hj (by omega)), Lib.hid ((Below.refl _ _).alloc (Nat.le_refl _) _)⟩
  case round =>
    obtain ⟨k, cs, hk, rfl, hcs, HK, HC, HB⟩ := hrel
    have HCS := Lib.hid hcs
    clear hcs
    by_cases hlt : k < n
    · obtain ⟨hsz, hcells⟩ := HS.out
      have hkl : k < l.length := by have := HL.out; omega
      obtain ⟨b, hA, hbl, hc⟩ := hcells (by omega)
      obtain ⟨hsz1, hsz2⟩ := hsz l[k] (List.getElem_mem hkl)
      obtain ⟨d0, d1⟩ := hc k hkl
      have c0 := (HB.out.cell (p := ⟨b, k * 2, none⟩) hbl).trans d0
      have c1 := (HB.out.cell (p := ⟨b, k * 2 + 1, none⟩) hbl).trans d1
      have HMISS : Hid (misses l l[k] = true → r = 8) := Lib.hid (fun h => by
        rw [← hr.out]; unfold parE; rw [if_pos (List.any_eq_true.2 ⟨l[k], List.getElem_mem hkl, h⟩)])
      have HNX : Hid (∀ u : Int, parOf l l[k].a = u → misses l l[k] = false → ∀ cs' : Array Value, (∀ j, j ≠ k → cs'[j]? = cs[j]?) → cs'[k]? = some (.int .i64 u) → ∀ (j : Nat) (hj : j < l.length), j < k + 1 → cs'[j]? = some (.int .i64 (parOf l l[j].a)) ∧ misses l l[j] = false) := Lib.hid (fun u hu hm cs' h1 h2 j hj hjk => by
        rcases (by omega : j < k ∨ j = k) with h | rfl
        · rw [h1 j (by omega)]; exact HC.out j hj h
        · rw [hu]; exact ⟨h2, hm⟩)
      have hmm : misses l l[k] = (!l[k].a.toList.isEmpty && (lk l l[k].a).isNone) := rfl
      have HLK := Lib.hid (look_any l l[k].a)
      have hpe : l[k].a.toList.isEmpty = true → parOf l l[k].a = -1 := parOf_empty
      have hpl : ∀ i, l[k].a.toList.isEmpty = false → lk l l[k].a = some i → parOf l l[k].a = i := fun i h hi => parOf_lk h hi
      have hli : lkI l l[k].a = match lk l l[k].a with | some i => (i : Int) | none => 0 := rfl
      generalize misses l l[k] = ms at *
      generalize parOf l l[k].a = pk at *
      generalize lkI l l[k].a = li at *
      generalize lk l l[k].a = lo at *
      generalize l[k] = x at *
      have HKEY := Lib.hid (show keyOf Tryd.prog 9 (.string x.a) = some (.string x.a.data.toList) from Go.WideMaps.keyOf_string_mk Tryd.underlying9 (by unfold maxLen; omega))
      have hB1 := HB.out.alloc HB.out.size (.cells #[.string x.k, .string x.a] 38)
      have HB1 := Lib.hid hB1
      have HK1 := Lib.hid (HK.out.alloc (.cells #[.string x.k, .string x.a] 38))
      have hkc : k < cs.size := by rw [HCS.out]; exact hlt
      have ck := HK.out.cell k cs[k] (by rw [Array.getElem?_eq_getElem hkc])
      have fk := HK.out.frozen k
      have hgw := HK.out.lt
      have zk0 : (0 : Int) ≤ (k : Int) := by omega
      have zk1 : (k : Int) < (n : Int) := by omega
      generalize cs[k] = u0 at *
      subst hA
      clear hsz hcells hc d0 d1 hB1
      have H2 := Lib.hid ((HK.out.set_ k (.int .i64 (-1))).alloc (.cells #[.string x.k, .string x.a] 38))
      have hb0 := HB.out.setCell (p := ⟨w.heap.size, k, none⟩) (Nat.le_refl _) (.int .i64 (-1))
      have HB2 := Lib.hid (hb0.alloc hb0.size (.cells #[.string x.k, .string x.a] 38))
      clear hb0
      go_wp2_with fail
      refine (abovefn_any x _).mono ?_
      rintro e w2 ⟨rfl, hb⟩
      have H3 := Lib.hid (H2.out.below hb (by simp; omega))
      have HB3 := Lib.hid (HB2.out.trans (hb.mono HB2.out.size))
      have HN3 := Lib.hid (HN.out.below HB3.out)
      clear hb H2 HB2 HK1 HB1 ck fk c0 c1
      cases he : x.a.toList.isEmpty
      · rw [he] at hmm
        have HPL := Lib.hid hpl
        have HLI := Lib.hid hli
        have HMM := Lib.hid hmm
        have HN4 := Lib.hid (show w2.ownsMap Tryd.prog 9 (plainElem Tryd.prog 3) M l.length (numD l l.length) from HN3.out)
        clear hpe hpl hli hmm
        generalize numD l l.length = D at *
        cases lo with
        | none =>
          have hE : r = 8 := HMISS.out (by rw [HMM.out]; rfl)
          have HE := Lib.hid hE
          have hl0 : li = 0 := HLI.out
          subst hl0
          clear hE
          go_wp2_with (at_lookup; refine wpList_lookup_own_ok_int _ rfl _ _ 66 rfl 9 3 .i64 keyLaw Tryd.underlying66 Tryd.underlying3 (zeroI _) M l.length D rfl HN4.out (.string x.a) _ rfl HKEY.out ?_; intro c hat hwc; obtain rfl := HLK.out.2 c hat; rw [HLK.out.1]; clear hat hwc)
          go_ret2
          exact ⟨0, Or.inl ⟨by rw [HE.out]; decide, by rw [HE.out]; try rfl⟩, HB3.out⟩
        | some i =>
          have hl0 : li = i := HLI.out
          subst hl0
          have hms : ms = false := by rw [HMM.out]; rfl
          have hpi : pk = i := HPL.out i he rfl
          have hs3 : k < (cs.setIfInBounds k (.int .i64 (-1))).size := by simpa using hkc
          have ck := H3.out.cell k (.int .i64 (-1)) (by simp [hkc])
          have fk := H3.out.frozen k
          have H4 := Lib.hid (H3.out.set_ k (.int .i64 i))
          have HB4 := Lib.hid (HB3.out.setCell (p := ⟨w.heap.size, k, none⟩) (Nat.le_refl _) (.int .i64 i))
          have HNN := Lib.hid (HNX.out i hpi hms ((cs.setIfInBounds k (.int .i64 (-1))).setIfInBounds k (.int .i64 i)) (fun j hj => by rw [Array.getElem?_setIfInBounds_ne (fun h => hj h.symm), Array.getElem?_setIfInBounds_ne (fun h => hj h.symm)]) (by simp [hkc]))
          go_wp2_with (at_lookup; refine wpList_lookup_own_ok_int _ rfl _ _ 66 rfl 9 3 .i64 keyLaw Tryd.underlying66 Tryd.underlying3 (zeroI _) M l.length D rfl HN4.out (.string x.a) _ rfl HKEY.out ?_; intro c hat hwc; obtain rfl := HLK.out.2 c hat; rw [HLK.out.1]; clear hat hwc)
          go_roundw
          case rel => exact ⟨k + 1, _, by omega, by go_num, by simp [HCS.out], H4, HNN, HB4⟩
          case measure => simp [intOf]; omega
      · have hms : ms = false := by rw [hmm, he]; rfl
        have hpi := hpe he
        have HNN := Lib.hid (HNX.out (-1) hpi hms (cs.setIfInBounds k (.int .i64 (-1))) (fun j hj => by rw [Array.getElem?_setIfInBounds_ne (fun h => hj h.symm)]) (by simp [hkc]))
        clear hpe hpl hli hmm HLK HKEY
        go_wp2_with fail
        go_roundw
        case rel => exact ⟨k + 1, _, by omega, by go_num, by simp [HCS.out], H3, HNN, HB3⟩
        case measure => simp [intOf]; omega
    · have hkn : k = n := by omega
      subst hkn
      have hmf : l.any (misses l) = false := List.any_eq_false.2 (fun x hx => by
        obtain ⟨j, hj, rfl⟩ := List.getElem_of_mem hx
        have h2 := HL.out
        rw [(HC.out j hj (by omega)).2]; try simp)
      have hr2 := hr.out
      unfold parE at hr2
      rw [hmf] at hr2
      simp only [Bool.false_eq_true, if_false] at hr2
      have HIL := Lib.hid (blk_il (n := k) (P := pars l) HK.out (by rw [pars_len]; exact HL.out) (fun j hj => by
        have hj2 : j < l.length := by rw [pars_len] at hj; exact hj
        have h2 := HL.out
        rw [(HC.out j hj2 (by omega)).1]; try simp [pars]))
      have HLP := Lib.hid (hasloop_walk (some ⟨w.heap.size, 0, none⟩) k k (pars l) wr (by rw [pars_len]; exact HL.out) hn2 HIL.out (pars_good l) _ (Lib.hid rfl))
      cases hh : hasLoop (pars l)
      · rw [hh] at hr2 HLP
        have HR0 := Lib.hid (show r = 0 from hr2.symm)
        clear hr2 hmf
        go_wp2_with fail
        refine (HLP.out).mono ?_; rintro e w2 ⟨rfl, rfl⟩
        go_wp2_with fail
        go_ret2
        exact ⟨w.heap.size, Or.inr ⟨HR0.out, rfl, Nat.le_refl _, HIL.out⟩, HB.out⟩
      · rw [hh] at hr2 HLP
        have HR0 := Lib.hid (show r = 14 from hr2.symm)
        clear hr2 hmf
        go_wp2_with fail
        refine (HLP.out).mono ?_; rintro e w2 ⟨rfl, rfl⟩
        go_wp2_with fail
        go_ret2
        exact ⟨0, Or.inl ⟨by rw [HR0.out]; try decide, by rw [HR0.out]; try rfl⟩, HB.out⟩
end Go.Proofs.YtnjigaklkalebaaDoor.For
