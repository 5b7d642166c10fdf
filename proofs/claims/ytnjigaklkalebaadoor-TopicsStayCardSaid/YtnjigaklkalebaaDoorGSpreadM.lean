/-
  WHAT SKILLS SPREAD TO, AS PLAIN FUNCTIONS; skills in memory.
-/
import Derived.Test.YtnjigaklkalebaaDoorRefKnow
import Derived.Deep.RegionHeld3
namespace Go.Proofs.YtnjigaklkalebaaDoor.For
open Go.ChangeShapes Go.WideShapes Go.ChangeAt Go.RowKit Stm Key
set_option linter.unusedVariables false

/- WHAT SKILLS SPREAD TO -/
def spreadI (l : List Tp) (s : List Sk) (least : Int) (i : Nat) : List Sk := if least ≤ (((knS l s i).1 / 2520 : Nat) : Int) then [⟨(l.getD i ⟨⟨#[]⟩, ⟨#[]⟩⟩).k, (((knS l s i).1 / 2520 : Nat) : Int)⟩] else []
def spreadP (l : List Tp) (s : List Sk) (least : Int) (k : Nat) : List Sk := (List.range k).flatMap (spreadI l s least)
theorem spreadP_next (l : List Tp) (s : List Sk) (least : Int) (k : Nat) : spreadP l s least (k + 1) = spreadP l s least k ++ spreadI l s least k := by
  unfold spreadP; rw [List.range_succ, List.flatMap_append]; simp
theorem low_percent {v p q : Nat} (h : lowN v 252000 = (p, q)) : 100 * p / q = v / 2520 := by
  obtain ⟨g, hg, h1, h2⟩ := lowN_parts v 252000 (by decide)
  rw [h] at h1 h2
  simp only at h1 h2
  have e1 : 100 * p / q = (g * (100 * p)) / (g * q) := (Nat.mul_div_mul_left _ _ hg).symm
  rw [e1, ← h2, show g * (100 * p) = 100 * v by rw [h1]; ac_rfl, show (252000 : Nat) = 100 * 2520 from rfl, Nat.mul_div_mul_left _ _ (by decide)]
theorem num_self {l : List Tp} (h : Dist l) {i : Nat} (hi : i < l.length) : lk l l[i].k = some i := by
  cases hl : lk l l[i].k with
  | none => have := lk_none l _ hl l[i] (List.getElem_mem hi); rw [eqB_self] at this; cases this
  | some j =>
    obtain ⟨hj, he⟩ := lk_some l _ j hl
    rw [h.1 j i hj hi he]
theorem spread_len (l : List Tp) (s : List Sk) (least : Int) : ∀ k, (spreadP l s least k).length ≤ k
  | 0 => Nat.le_refl _
  | k + 1 => by
    have := spread_len l s least k
    rw [spreadP_next, List.length_append]
    have h2 : (spreadI l s least k).length ≤ 1 := by unfold spreadI; split <;> simp
    omega

/- SKILLS IN MEMORY, WHATEVER THEIR WEIGHTS -/
def KM (w : World) (A : Option Addr) (l : List Sk) : Prop := 0 < l.length → ∃ b, A = some ⟨b, 0, none⟩ ∧ b < w.heap.size ∧ ∀ (i : Nat) (h : i < l.length), w.cell? ⟨b, i * 2, none⟩ = some (.string l[i].t) ∧ w.cell? ⟨b, i * 2 + 1, none⟩ = some (.int .i64 l[i].n)
theorem KM.below {w w' : World} {A : Option Addr} {l : List Sk} (h : KM w A l) (hb : Below w.heap.size w w') : KM w' A l := fun h0 => by
  obtain ⟨b, hA, hlt, hc⟩ := h h0
  exact ⟨b, hA, Nat.lt_of_lt_of_le hlt hb.size, fun i hi => ⟨(hb.cell (p := ⟨b, i * 2, none⟩) hlt).trans (hc i hi).1, (hb.cell (p := ⟨b, i * 2 + 1, none⟩) hlt).trans (hc i hi).2⟩⟩
theorem row_km {w : World} {base n cap : Nat} {A : Option Addr} {l : List Sk} (h : w.ownsRow base 36 2 (.slice A n cap) n (flatS l)) (L : l.length = n) : KM w A l := by
  intro h0
  obtain ⟨g, cap', hv, _, hlt⟩ := h.form (by omega)
  have hA : A = some ⟨g, 0, none⟩ := by injection hv
  subst hA
  refine ⟨g, rfl, hlt, fun i hi => ?_⟩
  have hc := h.cells (g := g) rfl
  have e1 := hc (i * 2) _ (flatS_get l i hi).1
  have e2 := hc (i * 2 + 1) _ (flatS_get l i hi).2
  rw [row_add] at e1 e2
  exact ⟨e1, e2⟩
/-- Skills that are handed back, with an error. -/
def SkRet (r : Int) (ks : List Sk) (w : World) (e : Ending) (w' : World) : Prop := ∃ (A : Option Addr) (m c : Nat), e = .returned (.tuple #[.slice A m c, .int .i64 r]) ∧ (r ≠ 0 → m = 0) ∧ (r = 0 → m = ks.length ∧ KM w' A ks) ∧ Below w.heap.size w w'
def SkLRet (ks : List Sk) (w : World) (e : Ending) (w' : World) : Prop := ∃ (A : Option Addr) (c : Nat), e = .returned (.slice A ks.length c) ∧ KM w' A ks ∧ Below w.heap.size w w'
end Go.Proofs.YtnjigaklkalebaaDoor.For

/-
  WHAT SKILLS SPREAD TO: the program's CheckSkills and Spread, the reference's SpreadOf, and slices.Equal at skills.
-/
namespace Go.Proofs.YtnjigaklkalebaaDoor.For
open Go.ChangeShapes Go.WideShapes Go.ChangeAt Go.RowKit Stm Key
set_option linter.unusedVariables false

set_option maxRecDepth 100000 in
set_option maxHeartbeats 4000000 in
theorem equalk_any (A A2 : Option Addr) (c c2 : Nat) (l : List Sk) (w : World) (n : Nat) (hn : l.length = n) (hn2 : n ≤ 1000) (h1 : KM w A l) (h2 : KM w A2 l) :
    Calls Tryd.prog 12 #[.slice A n c, .slice A2 n c2] w fun e w' => e = .returned (.bool true) ∧ Below w.heap.size w w' := by
  have H1 := Lib.hid h1
  have H2 := Lib.hid h2
  have HL := Lib.hid hn
  have e0 : ((n : Int) != n) = false := by simp
  clear h1 h2 hn
  go_enter Tryd.func12, Tryd.ntmps12
  go_wp2_with fail
  go_loopw [13] (fun i wr => ∃ j m : Nat, j ≤ n ∧ i = .int .i64 j ∧ Hid (wr = w.drewN m)) (fun i _ => n - (intOf i).toNat)
  case atStart => exact ⟨0, 0, by omega, rfl, Lib.hid rfl⟩
  case round =>
    obtain ⟨j, m, hj, rfl, HW⟩ := hrel
    obtain rfl := HW.out
    by_cases hlt : j < n
    · have hjl : j < l.length := by rw [HL.out]; exact hlt
      obtain ⟨b, hA, hbl, hc⟩ := H1.out (by omega)
      obtain ⟨b2, hA2, hbl2, hc2⟩ := H2.out (by omega)
      subst hA
      subst hA2
      obtain ⟨x0, x1⟩ := hc j hjl
      obtain ⟨y0, y1⟩ := hc2 j hjl
      generalize l[j] = x at *
      have ex : (x.t.toList == x.t.toList) = true := by simp
      have ey : (x.n == x.n) = true := by simp
      have a0 : (0 : Int) ≤ (j : Int) := by omega
      have a1 : (j : Int) < (n : Int) := by omega
      clear hc hc2
      go_wp2_with fail
      go_region
      all_goals
        go_wp2_with fail
        go_roundw
        case rel => exact ⟨j + 1, _, by omega, by go_num, Lib.hid (by first | rw [World.drewN_drewN] | rfl)⟩
        case measure => simp [intOf]; omega
    · have hjn : j = n := by omega
      subst hjn
      go_wp2_with fail
      go_ret
      exact ⟨rfl, Stm.Below.drewN (Below.refl _ _) _⟩

theorem field_part (a b : ByteArray) (p q : Int) (W : World) : (Instr.field 71 (.agg #[.string a, .string b, .int .i64 p, .int .i64 q]) 2).run Tryd.prog W = .ok (.agg #[.int .i64 p, .int .i64 q]) W := by kernel_rfl
def spE (l : List Tp) (s : List Sk) (least : Int) : Int := if withE l s ≠ 0 then withE l s else if pct least = false then 1 else 0

def SkRet2 (r : Int) (ks : List Sk) (w : World) (e : Ending) (w' : World) : Prop := ∃ (A : Option Addr) (m c : Nat), e = .returned (.tuple #[.slice A m c, .int .i64 r]) ∧ (r ≠ 0 → m = 0) ∧ (r = 0 → m = ks.length ∧ KM w' A ks) ∧ Below w.heap.size w w' ∧ NB w w' A m 2 36
theorem SkRet2.old {r : Int} {ks : List Sk} {w : World} {e : Ending} {w' : World} (h : SkRet2 r ks w e w') : SkRet r ks w e w' := by
  obtain ⟨A, m, c, h1, h2, h3, h4, _⟩ := h
  exact ⟨A, m, c, h1, h2, h3, h4⟩

set_option maxRecDepth 100000 in
set_option maxHeartbeats 8000000 in
theorem spread_new (A : Option Addr) (n cap : Nat) (l : List Tp) (A2 : Option Addr) (n2 c2 : Nat) (s : List Sk) (least : Int) (w : World) (hn : l.length = n) (hn2 : n ≤ 1000) (hS : TL w A l) (hs : KL w A2 s) (hk : s.length = n2) (h100 : n2 ≤ 100) (hl0 : 0 ≤ least) (hl1 : least ≤ 101) (r : Int) (hr : Hid (spE l s least = r)) :
    Calls Tryd.prog 8 #[.slice A n cap, .slice A2 n2 c2, .int .i64 least] w (SkRet2 r (spreadP l s least n) w) := by
  obtain ⟨r1, hr1⟩ : ∃ r1, withE l s = r1 := ⟨_, rfl⟩
  have HR1 := Lib.hid hr1
  have HWT := Lib.hid (withskills_walk A n cap l A2 n2 c2 s w hn hn2 hS hs hk h100 r1 HR1)
  have HTL := Lib.hid hS
  have HS := Lib.hid hs
  have HK := Lib.hid hk
  have HN := Lib.hid hn
  have HP := Lib.hid (fun W => pct_walk least W hl0 hl1)
  have hr2 := hr.out
  unfold spE at hr2
  rw [hr1] at hr2
  clear hS hs hk hn hr hr1
  by_cases h1 : r1 ≠ 0
  · rw [if_pos h1] at hr2
    subst hr2
    have hbb : (r1 != 0) = true := by rw [bne_iff_ne]; exact h1
    have H1 := Lib.hid h1
    clear h1
    go_enter Tryd.func8, Tryd.ntmps8
    go_wp2_with fail
    refine (HWT.out).mono ?_; rintro e w1 ⟨F, hor, hb1⟩
    rcases hor with ⟨_, rfl⟩ | ⟨h0, _⟩
    · go_wp2_with fail
      go_ret2
      exact ⟨none, 0, 0, rfl, fun _ => rfl, fun h => absurd h H1.out, hb1, Or.inl ⟨rfl, rfl⟩⟩
    · exact absurd h0 H1.out
  obtain rfl : r1 = 0 := by simpa using h1
  rw [if_neg h1] at hr2
  obtain ⟨pp, hpp⟩ : ∃ b, pct least = b := ⟨_, rfl⟩
  rw [hpp] at hr2 HP
  have e1 : forestE l = 0 ∧ skE l ⟨#[]⟩ s = 0 := by
    have h := HR1.out
    unfold withE at h
    by_cases h2 : forestE l = 0
    · rw [if_neg (by simpa using h2)] at h; exact ⟨h2, h⟩
    · rw [if_pos h2] at h; exact absurd h h2
  have HR := Lib.hid (rightF e1.1)
  have HOK := Lib.hid (skE_ok s _ e1.2)
  clear h1 hpp e1
  go_enter Tryd.func8, Tryd.ntmps8
  go_wp2_with fail
  refine (HWT.out).mono ?_; rintro e w1 ⟨F, hor, hb1⟩
  have B1 := Lib.hid hb1
  rcases hor with ⟨h0, _⟩ | ⟨_, rfl, hF, hFM⟩
  · exact absurd rfl h0
  have HFM := Lib.hid hFM
  have HBD := Lib.hid (fun i (hi : i < n) => (knS_le HR.out HOK.out (fun x hx => (HS.out.1 x hx).1) (show i < l.length by rw [HN.out]; exact hi)).1)
  have HKW := Lib.hid (knowledge_walk F n cap A l A2 n2 c2 s w1 HN.out hn2 HFM.out HR.out (HS.out.below B1.out) HK.out h100 HOK.out)
  clear hFM hb1 HWT
  go_wp2_with fail
  refine (HP.out _).mono ?_; rintro e w1b ⟨rfl, rfl⟩
  cases pp
  · have hr3 : (1 : Int) = r := by simpa using hr2
    have HR3 := Lib.hid hr3
    clear hr2 hr3
    go_wp2_with fail
    go_ret2
    exact ⟨none, 0, 0, by rw [← HR3.out]; try rfl, fun _ => rfl, fun h => absurd h (by rw [← HR3.out]; decide), B1.out, Or.inl ⟨rfl, rfl⟩⟩
  · have hr3 : (0 : Int) = r := by simpa using hr2
    have HR3 := Lib.hid hr3
    clear hr2 hr3
    go_wp2_with fail
    refine (HKW.out).mono ?_; rintro e w2 ⟨g, rfl, hkn, hb2⟩
    have B2 := Lib.hid (B1.out.trans (hb2.mono B1.out.size))
    have HKN := Lib.hid hkn
    have hglt := hkn.1
    clear hkn hb2 HKW HFM
    go_wp2_with fail
    go_loopw [10, 30] (fun out i wr => ∃ (k : Nat) (Ao : Option Addr) (m c : Nat), k ≤ n ∧ i = .int .i64 k ∧ out = .slice Ao m c ∧ m ≤ k ∧ Hid ((spreadP l s least k).length = m) ∧ Hid (wr.ownsRow w2.heap.size 36 2 (.slice Ao m c) m (flatS (spreadP l s least k))) ∧ Hid (Below w2.heap.size w2 wr)) (fun _ i _ => n - (intOf i).toNat)
    case atStart => exact ⟨0, none, 0, 0, Nat.zero_le _, rfl, rfl, Nat.le_refl _, Lib.hid rfl, Lib.hid (World.ownsRow_nil _ _ _ _), Lib.hid (Below.refl _ _)⟩
    case round =>
      obtain ⟨k, Ao, m, c, hk, rfl, rfl, hmk, HM, HO, HB⟩ := hrel
      have hz := HB.out.size
      by_cases hlt : k < n
      · have hkl : k < l.length := by rw [HN.out]; exact hlt
        obtain ⟨g3, hA3, hgl, hc⟩ := (HTL.out.below (B2.out.trans (HB.out.mono B2.out.size))).2 (by omega)
        subst hA3
        have c0 := (hc k hkl).1
        have hcb := HBD.out _ hlt
        obtain ⟨y0, y1⟩ := (HKN.out.below HB.out).2 _ hlt
        have HNX := Lib.hid (spreadP_next l s least k)
        have HSI : Hid (spreadI l s least k = if least ≤ (((knS l s k).1 / 2520 : Nat) : Int) then [⟨l[k].k, (((knS l s k).1 / 2520 : Nat) : Int)⟩] else []) := Lib.hid (by unfold spreadI; simp [List.getD, List.getElem?_eq_getElem hkl])
        generalize l[k] = x at *
        generalize knS l s k = v at *
        obtain ⟨v1, v2⟩ := v
        simp only at y0 y1 hcb HSI
        have a0 : (0 : Int) ≤ (k : Int) := by omega
        have a1 : (k : Int) < (n : Int) := by omega
        obtain ⟨q, hq⟩ : ∃ q, v1 / 2520 = q := ⟨_, rfl⟩
        rw [hq] at HSI
        have hqe : (v1 : Int) / 2520 = (q : Int) := by rw [← hq]; rfl
        have hqb : q ≤ 1000 := by omega
        have O1 := Lib.hid (HO.out.alloc (.cells #[.int .i64 v1, .string v2] 62))
        have B3 := Lib.hid (HB.out.alloc hz (.cells #[.int .i64 v1, .string v2] 62))
        obtain ⟨i0, hi0, hz0, hz1', hz2⟩ := info_parts infoK
        have HI := Lib.hid hi0
        have Z0 := Lib.hid hz0
        have Z1 := Lib.hid hz1'
        have Z2 := Lib.hid hz2
        have hgw : g < wr.heap.size := by omega
        clear hi0 hz0 hz1' hz2 hc hq HO HB
        by_cases hge : least ≤ (q : Int)
        · have HSJ := Lib.hid (show spreadI l s least k = [⟨x.k, (q : Int)⟩] by rw [HSI.out, if_pos hge])
          have hd : decide ((q : Int) ≥ least) = true := by simpa using hge
          clear HSI
          go_wp2_with (at_builtin; go_loud (refine wpList_append_lies _ rfl _ _ _ rfl w2.heap.size 36 i0 _ 2 24 Tryd.underlying28 HI.out Z0.out Z1.out Z2.out rfl (by omega) (.slice Ao m c) m (flatS (spreadP l s least k)) rfl (O1.out.alloc _) ⟨wr.heap.size + 1, 0, none⟩ 1 1 [.string x.k, .int .i64 q] rfl rfl (World.news_of_block (cs := #[.string x.k, .int .i64 q]) (t := 36) (fr := (0, 0)) (new_at (by simp))) (by simp [Value.oneCell']) (by omega) (by unfold maxLen; omega) (by omega) (by simp; omega) (wr.heap.size + 1 + 1) (by simp) ?_; intro gg cap' w7 hown hgrow hat hgl; (have O7 := Lib.hid (show w7.ownsRow w2.heap.size 36 2 _ (m + 1) (flatS (spreadP l s least (k + 1))) by rw [HNX.out, HSJ.out, flatS_snoc]; exact hown)); (have B7 := Lib.hid ((B3.out.alloc (by simp; omega) (.cells #[.string x.k, .int .i64 q] 36)).trans (grown_below hgrow (fun g e => by have := (O1.out.lt g e).1; omega) (by simp; omega)))); clear hown hgrow hat))
          go_roundw
          case rel => exact ⟨k + 1, _, m + 1, _, by omega, by go_num, rfl, by omega, Lib.hid (by rw [HNX.out, HSJ.out, List.length_append, HM.out]; rfl), O7, B7⟩
          case measure => simp [intOf]; omega
        · have HSJ := Lib.hid (show spreadI l s least k = [] by rw [HSI.out, if_neg hge])
          have hd : decide ((q : Int) ≥ least) = false := by simpa using hge
          clear HSI
          go_wp2_with fail
          go_roundw
          case rel => exact ⟨k + 1, Ao, m, c, by omega, by go_num, rfl, by omega, Lib.hid (by rw [HNX.out, HSJ.out, List.append_nil, HM.out]), Lib.hid (by rw [HNX.out, HSJ.out, List.append_nil]; exact O1.out), B3⟩
          case measure => simp [intOf]; omega
      · have hkn : k = n := by omega
        subst hkn
        have FIN := Lib.hid (row_km HO.out HM.out)
        go_wp2_with fail
        go_ret2
        exact ⟨Ao, m, c, by rw [← HR3.out]; try rfl, fun h => absurd HR3.out.symm h, fun _ => ⟨HM.out.symm, FIN.out⟩, B2.out.trans (HB.out.mono B2.out.size), row_nb HO.out B2.out.size⟩

theorem spread_walk (A : Option Addr) (n cap : Nat) (l : List Tp) (A2 : Option Addr) (n2 c2 : Nat) (s : List Sk) (least : Int) (w : World) (hn : l.length = n) (hn2 : n ≤ 1000) (hS : TL w A l) (hs : KL w A2 s) (hk : s.length = n2) (h100 : n2 ≤ 100) (hl0 : 0 ≤ least) (hl1 : least ≤ 101) (r : Int) (hr : Hid (spE l s least = r)) :
    Calls Tryd.prog 8 #[.slice A n cap, .slice A2 n2 c2, .int .i64 least] w (SkRet r (spreadP l s least n) w) := (spread_new A n cap l A2 n2 c2 s least w hn hn2 hS hs hk h100 hl0 hl1 r hr).mono fun _ _ h => h.old

set_option maxRecDepth 100000 in
set_option maxHeartbeats 8000000 in
theorem spreadof_walk (A : Option Addr) (n cap : Nat) (l : List Tp) (A2 : Option Addr) (n2 c2 : Nat) (s : List Sk) (least : Int) (w : World) (hn : l.length = n) (hn2 : n ≤ 900) (hS : TL w A l) (hR : RightF l) (hs : KL w A2 s) (hk : s.length = n2) (h100 : n2 ≤ 100)
    (hok : ∀ x ∈ s, (lk l x.t).isSome = true ∧ 1 ≤ x.n ∧ x.n ≤ 100) (hl0 : 0 ≤ least) (hl1 : least ≤ 101) :
    Calls Tryd.prog 13 #[.slice A n cap, .slice A2 n2 c2, .int .i64 least] w (SkLRet (spreadP l s least n) w) := by
  have HTL := Lib.hid hS
  have HR := Lib.hid hR
  have HS := Lib.hid hs
  have HL := Lib.hid hk
  have HN := Lib.hid hn
  have HOK := Lib.hid hok
  clear hS hR hs hk hn hok
  obtain ⟨i0, hi0, hz0, hz1', hz2⟩ := info_parts infoK
  have HI := Lib.hid hi0
  have Z0 := Lib.hid hz0
  have Z1 := Lib.hid hz1'
  have Z2 := Lib.hid hz2
  clear hi0 hz0 hz1' hz2
  go_enter Tryd.func13, Tryd.ntmps13
  go_wp2_with fail
  go_loopw [7, 14] (fun out i wr => ∃ (k : Nat) (Ao : Option Addr) (m c : Nat), k ≤ n ∧ i = .int .i64 k ∧ out = .slice Ao m c ∧ m ≤ k ∧ Hid ((spreadP l s least k).length = m) ∧ Hid (wr.ownsRow w.heap.size 36 2 (.slice Ao m c) m (flatS (spreadP l s least k))) ∧ Hid (Below w.heap.size w wr)) (fun _ i _ => n - (intOf i).toNat)
  case atStart => exact ⟨0, none, 0, 0, Nat.zero_le _, rfl, rfl, Nat.le_refl _, Lib.hid rfl, Lib.hid (World.ownsRow_nil _ _ _ _), Lib.hid (Below.refl _ _)⟩
  case round =>
    obtain ⟨k, Ao, m, c, hk, rfl, rfl, hmk, HM, HO, HB⟩ := hrel
    have hz := HB.out.size
    by_cases hlt : k < n
    · have hkl : k < l.length := by rw [HN.out]; exact hlt
      obtain ⟨g3, hA3, hgl, hc⟩ := (HTL.out.below HB.out).2 (by omega)
      subst hA3
      obtain ⟨c0, c1⟩ := hc k hkl
      have hx := (HTL.out.1 _ (List.getElem_mem hkl)).1
      have hself := num_self HR.out.dist hkl
      have hcb := (knS_le HR.out HOK.out (fun x hx => (HS.out.1 x hx).1) hkl).1
      have HNX := Lib.hid (spreadP_next l s least k)
      have HSI : Hid (spreadI l s least k = if least ≤ (((knS l s k).1 / 2520 : Nat) : Int) then [⟨l[k].k, (((knS l s k).1 / 2520 : Nat) : Int)⟩] else []) := Lib.hid (by unfold spreadI; simp [List.getD, List.getElem?_eq_getElem hkl])
      have hnum : num l l[k].k = k := by unfold num; rw [hself]; rfl
      generalize l[k] = x at *
      have HBC : Hid (becN l s x.k = ⟨x.k, (knS l s k).2, ((lowN (knS l s k).1 252000).1 : Nat), ((lowN (knS l s k).1 252000).2 : Nat)⟩) := Lib.hid (by unfold becN; rw [hnum])
      generalize knS l s k = v at *
      obtain ⟨v1, v2⟩ := v
      simp only at hcb HSI HBC
      obtain ⟨p, q, hpq⟩ : ∃ p q, lowN v1 252000 = (p, q) := ⟨_, _, rfl⟩
      have hlo := lowN_le v1 252000
      have hqp := lowN_pos v1 252000 (by decide)
      rw [hpq] at HBC hlo hqp
      simp only at HBC hlo hqp
      have hpc := low_percent hpq
      obtain ⟨u, hu⟩ : ∃ u, v1 / 2520 = u := ⟨_, rfl⟩
      rw [hu] at HSI hpc
      have hub : u ≤ 1000 := by omega
      have B1 := Lib.hid (HB.out.alloc hz (.cells #[.string x.k, .string x.a] 38))
      have O1 := Lib.hid (HO.out.alloc (.cells #[.string x.k, .string x.a] 38))
      have K1 := Lib.hid (Blk.new wr 38 #[.string x.k, .string x.a])
      have HKW := Lib.hid (known_walk (some ⟨g3, 0, none⟩) n cap l A2 n2 c2 s x.k _ HN.out hn2 (HTL.out.below B1.out) HR.out (HS.out.below B1.out) HL.out h100 HOK.out hx (by rw [hself]; rfl))
      rw [HBC.out] at HKW
      unfold BcRet at HKW
      have hz0 : ((q : Int) == 0) = false := by rw [beq_eq_false_iff_ne]; omega
      have hp1 : p ≤ 2520000 := Nat.le_trans hlo.1 hcb
      have hqe : 100 * (p : Int) / (q : Int) = (u : Int) := by
        rw [← hpc]
        show _ = ((100 * p / q : Nat) : Int)
        rw [Int.natCast_ediv, Int.natCast_mul]; rfl
      have hq2 : q ≤ 252000 := hlo.2
      have a0 : (0 : Int) ≤ (k : Int) := by omega
      have a1 : (k : Int) < (n : Int) := by omega
      have b0 : 0 ≤ 100 * (p : Int) / (q : Int) := by rw [hqe]; omega
      have b1 : 100 * (p : Int) / (q : Int) ≤ 1000 := by rw [hqe]; omega
      have HQE := Lib.hid hqe
      clear hc hpq hlo hpc hu hnum hself HBC HO HB hx hqe
      go_wp2_with fail
      refine (HKW.out).mono ?_; rintro e w6 ⟨rfl, hb⟩
      have B6 := Lib.hid (B1.out.trans (hb.mono B1.out.size))
      have O6 := Lib.hid ((own_below O1.out hb).alloc (.cells #[.int .i64 p, .int .i64 q] 53))
      have K6 := Lib.hid (K1.out.below hb (by simp))
      have B6b := Lib.hid (B6.out.alloc B6.out.size (.cells #[.int .i64 p, .int .i64 q] 53))
      have t0 : w6.cell? ⟨wr.heap.size, 0, none⟩ = some (.string x.k) := K6.out.cell 0 _ rfl
      have hz6 := K6.out.lt
      have z6 : w.heap.size ≤ w6.heap.size := B6.out.size
      have hqe := HQE.out
      have hfp := fun W => field_part x.k v2 p q W
      clear hb HKW O1 B1 K1 c0 c1
      by_cases hge : least ≤ (u : Int)
      · have HSJ := Lib.hid (show spreadI l s least k = [⟨x.k, (u : Int)⟩] by rw [HSI.out, if_pos hge])
        have hd : decide ((u : Int) ≥ least) = true := by simpa using hge
        clear HSI
        go_wp2_with (at_builtin; go_loud (refine wpList_append_lies _ rfl _ _ _ rfl w.heap.size 36 i0 _ 2 24 Tryd.underlying28 HI.out Z0.out Z1.out Z2.out rfl (by omega) (.slice Ao m c) m (flatS (spreadP l s least k)) rfl (O6.out.alloc _) ⟨w6.heap.size + 1, 0, none⟩ 1 1 [.string x.k, .int .i64 u] rfl rfl (World.news_of_block (cs := #[.string x.k, .int .i64 u]) (t := 36) (fr := (0, 0)) (new_at (by simp))) (by simp [Value.oneCell']) (by omega) (by unfold maxLen; omega) (by omega) (by simp; omega) (w6.heap.size + 1 + 1) (by simp) ?_; intro gg cap' w7 hown hgrow hat hgl; (have O7 := Lib.hid (show w7.ownsRow w.heap.size 36 2 _ (m + 1) (flatS (spreadP l s least (k + 1))) by rw [HNX.out, HSJ.out, flatS_snoc]; exact hown)); (have B7 := Lib.hid ((B6b.out.alloc (by simp; omega) (.cells #[.string x.k, .int .i64 u] 36)).trans (grown_below hgrow (fun g e => by have := (O6.out.lt g e).1; omega) (by simp; omega)))); clear hown hgrow hat))
        go_roundw
        case rel => exact ⟨k + 1, _, m + 1, _, by omega, by go_num, rfl, by omega, Lib.hid (by rw [HNX.out, HSJ.out, List.length_append, HM.out]; rfl), O7, B7⟩
        case measure => simp [intOf]; omega
      · have HSJ := Lib.hid (show spreadI l s least k = [] by rw [HSI.out, if_neg hge])
        have hd : decide ((u : Int) ≥ least) = false := by simpa using hge
        clear HSI
        go_wp2_with fail
        go_roundw
        case rel => exact ⟨k + 1, Ao, m, c, by omega, by go_num, rfl, by omega, Lib.hid (by rw [HNX.out, HSJ.out, List.append_nil, HM.out]), Lib.hid (by rw [HNX.out, HSJ.out, List.append_nil]; exact O6.out), B6b⟩
        case measure => simp [intOf]; omega
    · have hkn : k = n := by omega
      subst hkn
      have FIN := Lib.hid (row_km HO.out HM.out)
      go_wp2_with fail
      go_ret
      exact ⟨Ao, c, by rw [HM.out]; try rfl, FIN.out, HB.out⟩
end Go.Proofs.YtnjigaklkalebaaDoor.For
