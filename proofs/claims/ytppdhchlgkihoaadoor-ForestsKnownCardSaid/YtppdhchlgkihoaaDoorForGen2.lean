/-
  THE CONTRACTS OF slices.Clone AND slices.Reverse AT TOPICS, AND OF THE MAKER Forest.
-/
import Derived.Test.YtppdhchlgkihoaaDoorForGen
import Derived.Laws.Runes
import Derived.Deep.DeepCutAuto
namespace Go.Proofs.YtppdhchlgkihoaaDoor.For
open Go.ChangeShapes Go.WideShapes Go.ChangeAt Go.RowKit Stm Key
set_option linter.unusedVariables false

theorem infoT : (Tryd.prog.info? 50).map (fun i => (i.zero, i.size, i.bytes)) = some (some (.agg #[.string ⟨#[]⟩, .string ⟨#[]⟩]), 2, 32) := by kernel_rfl
theorem sizeT (w : World) : (sizeOf 50).run Tryd.prog w = .ok 2 w := by kernel_rfl
theorem clonet_any (A : Option Addr) (n cap : Nat) (l : List Tp) (w : World) (hS : TL w A l) (hn : l.length = n) (hn2 : n ≤ 1000) (hA : (A = none ∧ n = 0) ∨ ∃ g, A = some ⟨g, 0, none⟩) :
    Calls Tryd.prog 21 #[.slice A n cap] w fun e w' => ∃ (A' : Option Addr) (c' : Nat), e = .returned (.slice A' n c') ∧
      w'.ownsRow w.heap.size 50 2 (.slice A' n c') n (flatT l) ∧ Below w.heap.size w w' := by
  rcases hA with ⟨rfl, rfl⟩ | ⟨g, rfl⟩
  · refine (AnyE.slices_Clone_nil Tryd.laysSlE041_f21 0 cap w).mono ?_
    rintro e w' ⟨rfl, rfl⟩
    have : l = [] := List.length_eq_zero_iff.1 hn
    subst this
    exact ⟨none, 0, rfl, World.ownsRow_nil _ _ _ _, Below.refl _ _⟩
  · obtain ⟨i0, hi0, hz0, hz1, hz2⟩ := info_parts infoT
    refine (AnyE.slices_Clone Tryd.laysSlE041_f21 i0 _ 2 32 hi0 hz0 hz1 hz2 rfl (by omega) sizeT g 0 n cap (flatT l) w (by rw [flatT_length, hn]) (by unfold maxLen; omega) (by omega) ?_ ?_).mono ?_
    · intro j u hj
      rw [Nat.zero_add]
      have hjl : j < l.length * 2 := by
        rcases Nat.lt_or_ge j (l.length * 2) with h | h
        · exact h
        · rw [List.getElem?_eq_none (by rw [flatT_length]; exact h)] at hj; cases hj
      obtain ⟨b, hb, _, hc⟩ := hS.2 (by omega)
      have : g = b := congrArg Addr.block (Option.some.inj hb)
      subst this
      have hi : j / 2 < l.length := by omega
      have h2 := flatT_get l (j / 2) hi
      rcases (by omega : j = j / 2 * 2 ∨ j = j / 2 * 2 + 1) with h | h
      · rw [h] at hj ⊢; rw [h2.1] at hj; have h5 := Option.some.inj hj; subst h5; exact (hc (j / 2) hi).1
      · rw [h] at hj ⊢; rw [h2.2] at hj; have h5 := Option.some.inj hj; subst h5; exact (hc (j / 2) hi).2
    · intro u hu
      obtain ⟨x, _, hx⟩ := List.mem_flatMap.1 hu
      simp at hx
      rcases hx with rfl | rfl <;> rfl
    · rintro e w' ⟨v', rfl, ho, hne, hb⟩
      rcases ho.2 with ⟨e, e2⟩ | ⟨g', cap', cur, e, _⟩
      · exact absurd e hne
      · subst e
        exact ⟨some ⟨g', 0, none⟩, cap', rfl, ho, hb⟩

/-- Block g is a row of n topics, whichever they are. -/
def TopB (w : World) (g n : Nat) : Prop := ∃ cs, Blk w g 50 cs ∧ ∀ j, j < n * 2 → ∃ s : ByteArray, s.size ≤ 1000 ∧ cs[j]? = some (.string s)
theorem TopB.lt {w : World} {g n : Nat} (h : TopB w g n) : g < w.heap.size := by obtain ⟨cs, hb, _⟩ := h; exact hb.lt
theorem TopB.cell {w : World} {g n : Nat} (h : TopB w g n) (j : Nat) (hj : j < n * 2) : ∃ s : ByteArray, s.size ≤ 1000 ∧ w.cell? ⟨g, j, none⟩ = some (.string s) := by
  obtain ⟨cs, hb, hc⟩ := h
  obtain ⟨s, h1, h2⟩ := hc j hj
  exact ⟨s, h1, hb.cell j _ h2⟩
theorem TopB.frozen {w : World} {g n : Nat} (h : TopB w g n) (j : Nat) : w.frozen? ⟨g, j, none⟩ = false := by obtain ⟨cs, hb, _⟩ := h; exact hb.frozen j
theorem TopB.set {w : World} {g n : Nat} (h : TopB w g n) (j : Nat) (s : ByteArray) (hs : s.size ≤ 1000) : TopB (w.setCell ⟨g, j, none⟩ (.string s)) g n := by
  obtain ⟨cs, hb, hc⟩ := h
  refine ⟨_, hb.set_ j _, fun i hi => ?_⟩
  obtain ⟨s', h1, h2⟩ := hc i hi
  by_cases e : j = i
  · subst e
    have hlt : j < cs.size := by
      rcases Nat.lt_or_ge j cs.size with h | h
      · exact h
      · rw [Array.getElem?_eq_none h] at h2; cases h2
    exact ⟨s, hs, by simp [hlt]⟩
  · exact ⟨s', h1, by rw [Array.getElem?_setIfInBounds_ne e]; exact h2⟩
theorem TopB.drewN {w : World} {g n : Nat} (h : TopB w g n) (m : Nat) : TopB (w.drewN m) g n := h
theorem TopB.only {w w' : World} {B g n : Nat} (h : TopB w g n) (ho : Only B w w') (hne : g ≠ B) : TopB w' g n := by
  obtain ⟨cs, hb, hc⟩ := h
  exact ⟨cs, hb.only ho hne, hc⟩
theorem topb_tl {w : World} {g n : Nat} (h : TopB w g n) : ∃ l : List Tp, l.length = n ∧ TL w (some ⟨g, 0, none⟩) l := by
  obtain ⟨cs, hb, hc⟩ := h
  have key : ∀ n, (∀ j, j < n * 2 → ∃ s : ByteArray, s.size ≤ 1000 ∧ cs[j]? = some (.string s)) → ∃ l : List Tp, l.length = n ∧ (∀ x ∈ l, x.k.size ≤ 1000 ∧ x.a.size ≤ 1000) ∧ ∀ (i : Nat) (hi : i < l.length), cs[i * 2]? = some (.string l[i].k) ∧ cs[i * 2 + 1]? = some (.string l[i].a) := by
    intro n
    induction n with
    | zero => intro _; exact ⟨[], rfl, by simp, fun i hi => absurd hi (by simp)⟩
    | succ n ih =>
      intro h
      obtain ⟨l, h1, h2, h3⟩ := ih (fun j hj => h j (by omega))
      obtain ⟨s, s1, s2⟩ := h (n * 2) (by omega)
      obtain ⟨t, t1, t2⟩ := h (n * 2 + 1) (by omega)
      refine ⟨l ++ [⟨s, t⟩], by simp [h1], ?_, fun i hi => ?_⟩
      · intro x hx
        rcases List.mem_append.1 hx with hx | hx
        · exact h2 x hx
        · simp at hx; subst hx; exact ⟨s1, t1⟩
      · by_cases e : i < l.length
        · rw [List.getElem_append_left e]; exact h3 i e
        · have e2 : i = n := by simp at hi; omega
          subst e2
          rw [List.getElem_append_right (by omega)]
          simp only [h1, Nat.sub_self, List.getElem_cons_zero]
          exact ⟨s2, t2⟩
  obtain ⟨l, h1, h2, h3⟩ := key n hc
  exact ⟨l, h1, blk_tl hb h2 h3⟩
theorem row_topb {w : World} {base n cap g : Nat} {l : List Tp} (h : w.ownsRow base 50 2 (.slice (some ⟨g, 0, none⟩) n cap) n (flatT l)) (L : l.length = n) (hsz : ∀ x ∈ l, x.k.size ≤ 1000 ∧ x.a.size ≤ 1000) : TopB w g n := by
  rcases h.2 with ⟨e, _⟩ | ⟨g', cap', cur, e, _, hh, hc, _, hs, ht⟩
  · cases e
  · injection e with e1 _ e3; injection e1 with e1; injection e1 with e1; subst e1
    refine ⟨cur, hh, fun j hj => ?_⟩
    have hi : j / 2 < l.length := by omega
    have h2 := flatT_get l (j / 2) hi
    have hx := hsz l[j / 2] (List.getElem_mem hi)
    have hcur : ∀ q, q < n * 2 → cur[q]? = (flatT l)[q]? := fun q hq => by
      rw [← ht, List.getElem?_take_of_lt hq]; simp
    rcases (by omega : j = j / 2 * 2 ∨ j = j / 2 * 2 + 1) with e | e
    · exact ⟨l[j / 2].k, hx.1, by rw [hcur j hj]; have h3 := h2.1; rwa [← e] at h3⟩
    · exact ⟨l[j / 2].a, hx.2, by rw [hcur j hj]; have h3 := h2.2; rwa [← e] at h3⟩

def RevRet (A : Option Addr) (n : Nat) (w : World) (e : Ending) (w' : World) : Prop := e = .returned (.tuple #[]) ∧ (n = 0 ∧ w' = w ∨ ∃ g, A = some ⟨g, 0, none⟩ ∧ TopB w' g n ∧ Only g w w')

set_option maxRecDepth 100000 in
set_option maxHeartbeats 4000000 in
theorem reverse_any (A : Option Addr) (n cap : Nat) (w : World) (hn : n ≤ 1000) (hA : n = 0 ∨ ∃ g, A = some ⟨g, 0, none⟩ ∧ TopB w g n) :
    Calls Tryd.prog 24 #[.slice A n cap] w (RevRet A n w) := by
  rcases hA with h0 | ⟨g, rfl, hT⟩
  · subst h0
    go_enter Tryd.func24, Tryd.ntmps24
    go_wp2_with fail
    refine wp_loop_rounds 1 ?_
    rw [rounds_succ]
    go_wp2_with fail
    go_returns
    exact ⟨rfl, Or.inl ⟨rfl, rfl⟩⟩
  · have HT := Lib.hid hT
    clear hT
    go_enter Tryd.func24, Tryd.ntmps24
    go_wp2_with fail
    go_loopw [2, 3] (fun a b wr => ∃ (i : Nat) (j : Int), a = .int .i64 i ∧ b = .int .i64 j ∧ i ≤ 1000 ∧ -2 ≤ j ∧ j < n ∧ Hid (TopB wr g n) ∧ Hid (Only g w wr)) (fun a b _ => (intOf b + 2 - intOf a).toNat)
    case atStart => exact ⟨0, (n : Int) - 1, rfl, by go_num, by omega, by omega, by omega, HT, Lib.hid (Only.refl _ _)⟩
    case round =>
      obtain ⟨i, j, rfl, rfl, hi, hj0, hj1, HT, HO⟩ := hrel
      by_cases hlt : (i : Int) < j
      · obtain ⟨q, rfl⟩ : ∃ q : Nat, j = q := ⟨j.toNat, by omega⟩
        obtain ⟨s1, l1, c1⟩ := HT.out.cell (i * 2) (by omega)
        obtain ⟨s2, l2, c2⟩ := HT.out.cell (i * 2 + 1) (by omega)
        obtain ⟨s3, l3, c3⟩ := HT.out.cell (q * 2) (by omega)
        obtain ⟨s4, l4, c4⟩ := HT.out.cell (q * 2 + 1) (by omega)
        have f1 := HT.out.frozen (i * 2)
        have f2 := HT.out.frozen (i * 2 + 1)
        have f3 := HT.out.frozen (q * 2)
        have f4 := HT.out.frozen (q * 2 + 1)
        have T1 := Lib.hid ((((HT.out.set (i * 2) s3 l3).set (i * 2 + 1) s4 l4).set (q * 2) s1 l1).set (q * 2 + 1) s2 l2)
        have O1 := Lib.hid ((((HO.out.setCell (i * 2) none (.string s3)).setCell (i * 2 + 1) none (.string s4)).setCell (q * 2) none (.string s1)).setCell (q * 2 + 1) none (.string s2))
        have a0 : (0 : Int) ≤ (i : Int) := by omega
        have a1 : (i : Int) < (n : Int) := by omega
        have b0 : (0 : Int) ≤ (q : Int) := by omega
        have b1 : (q : Int) < (n : Int) := by omega
        go_wp2_with fail
        go_region
        all_goals
          go_wp2_with fail
          go_roundw
          case rel => exact ⟨i + 1, (q : Int) - 1, by go_num, by go_num, by omega, by omega, by omega, T1, Lib.hid (O1.out.drewN _)⟩
          case measure => simp [intOf]; omega
      · go_wp2_with fail
        go_returns
        exact ⟨rfl, Or.inr ⟨g, rfl, HT.out, HO.out⟩⟩
end Go.Proofs.YtppdhchlgkihoaaDoor.For
