/-
  THE CONTRACTS OF THE REFERENCE'S topicOf, HasTopic AND AboveOf.
-/
import Derived.Test.YtnjigaklkalebaaDoorTopAsk4
namespace Go.Proofs.YtnjigaklkalebaaDoor.For
open Go.ChangeShapes Go.WideShapes Go.ChangeAt Go.RowKit Stm Key
set_option linter.unusedVariables false

def topR (l : List Tp) (s : ByteArray) : Tp × Bool := match topOf l s with | some x => (x, true) | none => (⟨⟨#[]⟩, ⟨#[]⟩⟩, false)
theorem topOf_step (l : List Tp) (s : ByteArray) (k : Nat) (h : k < l.length) : topOf (l.drop k) s = if eqB l[k].k s then some l[k] else topOf (l.drop (k + 1)) s := by
  unfold topOf
  rw [drop_step l k h, List.find?_cons]
  cases eqB l[k].k s <;> rfl

set_option maxRecDepth 100000 in
set_option maxHeartbeats 4000000 in
theorem topicof_walk (A : Option Addr) (n cap : Nat) (l : List Tp) (s : ByteArray) (w : World) (hn : l.length = n) (hn2 : n ≤ 1000) (hS : TL w A l) (x0 : Tp) (b0 : Bool) (hr : Hid (topR l s = (x0, b0))) :
    Calls Tryd.prog 32 #[.slice A n cap, .string s] w fun e w' => e = .returned (.tuple #[.agg #[.string x0.k, .string x0.a], .bool b0]) ∧ Below w.heap.size w w' := by
  have HL := Lib.hid hn
  have HS := Lib.hid hS
  clear hn hS
  go_enter Tryd.func32, Tryd.ntmps32
  go_wp2_with fail
  go_loopw [10] (fun i wr => ∃ k : Nat, k ≤ n ∧ i = .int .i64 k ∧ Hid (topOf (l.drop k) s = topOf l s) ∧ Hid (Blk wr w.heap.size 38 #[.string ⟨#[]⟩, .string ⟨#[]⟩]) ∧ Hid (Below w.heap.size w wr)) (fun i _ => n - (intOf i).toNat)
  case atStart => exact ⟨0, Nat.zero_le _, rfl, Lib.hid rfl, Lib.hid (Blk.new w _ _), Lib.hid ((Below.refl _ _).alloc (Nat.le_refl _) _)⟩
  case round =>
    obtain ⟨k, hk, rfl, HT, HK, HB⟩ := hrel
    have hwlt := HK.out.lt
    have f0 := HK.out.frozen 0
    have f1 := HK.out.frozen 1
    have r0 : wr.cell? ⟨w.heap.size, 0, none⟩ = some (.string ⟨#[]⟩) := HK.out.cell 0 _ rfl
    have r1 : wr.cell? ⟨w.heap.size, 1, none⟩ = some (.string ⟨#[]⟩) := HK.out.cell 1 _ rfl
    by_cases hlt : k < n
    · have hkl : k < l.length := by have := HL.out; omega
      obtain ⟨bl, hA, hbl, hcells⟩ := HS.out.2 (by omega)
      have c0 := (HB.out.cell (p := ⟨bl, k * 2, none⟩) hbl).trans (hcells k hkl).1
      have c1 := (HB.out.cell (p := ⟨bl, k * 2 + 1, none⟩) hbl).trans (hcells k hkl).2
      have hst := topOf_step l s k hkl
      rw [HT.out] at hst
      have B1 := Lib.hid (HB.out.alloc HB.out.size (.cells #[.string l[k].k, .string l[k].a] 38))
      have K1 := Lib.hid (HK.out.alloc (.cells #[.string l[k].k, .string l[k].a] 38))
      generalize l[k] = x at *
      subst hA
      clear hcells
      unfold eqB at hst
      cases h8 : (x.k.toList == s.toList)
      · rw [h8] at hst
        have HT2 : Hid (topOf (l.drop (k + 1)) s = topOf l s) := Lib.hid (by simpa using hst.symm)
        clear hst
        go_wp2_with fail
        go_roundw
        case rel => exact ⟨k + 1, by omega, by go_num, HT2, K1, B1⟩
        case measure => simp [intOf]; omega
      · rw [h8] at hst
        have HE : Hid (x = x0 ∧ true = b0) := Lib.hid (by
          have h1 := hr.out; unfold topR at h1; rw [hst] at h1
          simp only [if_true, Prod.mk.injEq] at h1
          exact h1)
        clear hst
        go_wp2_with fail
        refine bodyPost_ret (v := .tuple #[.agg #[.string x.k, .string x.a], .bool true]) (by simp only [results, Tryd.results32]; go_simp) rfl ⟨by rw [HE.out.1, HE.out.2], ?_⟩
        exact ((HB.out.setCell (by simp) _).setCell (by simp) _).alloc (by simp; omega) _
    · have hst : topOf l s = none := by rw [← HT.out, List.drop_of_length_le (by have := HL.out; omega)]; rfl
      have HE : Hid ((⟨⟨#[]⟩, ⟨#[]⟩⟩ : Tp) = x0 ∧ false = b0) := Lib.hid (by
        have h1 := hr.out; unfold topR at h1; rw [hst] at h1
        simp only [Prod.mk.injEq] at h1; exact h1)
      clear hst
      go_wp2_with fail
      refine bodyPost_ret (v := .tuple #[.agg #[.string ⟨#[]⟩, .string ⟨#[]⟩], .bool false]) (by simp only [results, Tryd.results32]; go_simp) rfl ⟨by rw [← HE.out.1, ← HE.out.2], ?_⟩
      exact (HB.out.setCell (by simp) _).setCell (by simp) _

theorem topR_some (l : List Tp) (s : ByteArray) : (topR l s).2 = (topOf l s).isSome := by unfold topR; cases topOf l s <;> rfl
set_option maxRecDepth 100000 in
theorem hastopic_walk (A : Option Addr) (n cap : Nat) (l : List Tp) (s : ByteArray) (w : World) (hn : l.length = n) (hn2 : n ≤ 1000) (hS : TL w A l) (r : Bool) (hr : Hid ((topOf l s).isSome = r)) :
    Calls Tryd.prog 19 #[.slice A n cap, .string s] w fun e w' => e = .returned (.bool r) ∧ Below w.heap.size w w' := by
  obtain ⟨x0, b0, hx⟩ : ∃ x0 b0, topR l s = (x0, b0) := ⟨_, _, rfl⟩
  have HT := Lib.hid (topicof_walk A n cap l s w hn hn2 hS x0 b0 (Lib.hid hx))
  have HR : Hid (b0 = r) := Lib.hid (by rw [← hr.out, ← topR_some, hx])
  clear hn hS hx hr
  go_enter Tryd.func19, Tryd.ntmps19
  go_wp2_with fail
  refine (HT.out).mono ?_; rintro e w1 ⟨rfl, hb⟩
  go_wp2_with fail
  go_ret; exact ⟨by rw [HR.out]; try rfl, hb.alloc hb.size _⟩

theorem fresh_at {w : World} {cs : Array Value} {t : TypeId} {n : Nat} (h : n = w.heap.size) : (w.alloc (.cells cs t)).heap[n]? = some (.cells cs t (0, 0)) := by subst h; exact heap_alloc_new w _
theorem own_new {w : World} {base E S n : Nat} {v : Value} {xs : List Value} (h : w.ownsRow base E S v n xs) : some w.heap.size ≠ v.ownBlock := by
  intro e; have := h.lt _ e.symm; omega
/-- A slice of strings that was made, handed back alone. -/
def ListRet (ss : List ByteArray) (w : World) (e : Ending) (w' : World) : Prop := ∃ (A : Option Addr) (c : Nat), e = .returned (.slice A ss.length c) ∧ ss.length ≤ c ∧ SL w' A ss ∧ Below w.heap.size w w'
theorem abv_step {l : List Tp} {f : Nat} {s : ByteArray} {x : Tp} {b : Bool} (h : topR l s = (x, b)) : abv l (f + 1) s = if b then s :: abv l f x.a else [] := by
  unfold topR at h
  show (match topOf l s with | none => [] | some t => s :: abv l f t.a) = _
  cases ht : topOf l s with
  | none => rw [ht] at h; injection h with h1 h2; subst h2; rfl
  | some t => rw [ht] at h; injection h with h1 h2; subst h1; subst h2; rfl
theorem topR_le {l : List Tp} (h : ∀ x ∈ l, x.k.size ≤ 1000 ∧ x.a.size ≤ 1000) {s : ByteArray} {x : Tp} {b : Bool} (hx : topR l s = (x, b)) : x.a.size ≤ 1000 := by
  unfold topR at hx
  cases ht : topOf l s with
  | none => rw [ht] at hx; injection hx with h1 _; subst h1; decide
  | some t => rw [ht] at hx; injection hx with h1 _; subst h1; exact (h _ (List.mem_of_find?_eq_some ht)).2

set_option maxRecDepth 100000 in
set_option maxHeartbeats 8000000 in
theorem aboveof_walk (A : Option Addr) (n cap : Nat) (l : List Tp) (s0 : ByteArray) (w : World) (hn : l.length = n) (hn2 : n ≤ 1000) (hS : TL w A l) (hs0 : s0.size ≤ 1000) (ss : List ByteArray) (hr : Hid (abv l (n + 1) s0 = ss)) :
    Calls Tryd.prog 31 #[.slice A n cap, .string s0] w (ListRet ss w) := by
  have HL := Lib.hid hn
  have HS := Lib.hid hS
  clear hn hS
  go_enter Tryd.func31, Tryd.ntmps31
  go_wp2_with fail
  go_loopw [1, 5, 11] (fun vs out vi wr => ∃ (s : ByteArray) (k c f : Nat) (Ao : Option Addr) (L : List ByteArray), vs = .string s ∧ vi = .int .i64 k ∧ out = .slice Ao k c ∧ k + f = n + 1 ∧ s.size ≤ 1000 ∧ L.length = k ∧ Hid (∀ x ∈ L, x.size ≤ 1000) ∧ Hid (L ++ abv l f s = ss) ∧
    Hid (wr.ownsRow w.heap.size 9 1 (.slice Ao k c) k (L.map Value.string)) ∧ Hid (Below w.heap.size w wr)) (fun _ _ vi _ => n + 1 - (intOf vi).toNat)
  case atStart => exact ⟨s0, 0, 0, n + 1, none, [], rfl, rfl, rfl, by omega, hs0, rfl, Lib.hid (by simp), Lib.hid (by rw [List.nil_append]; exact hr.out), Lib.hid (World.ownsRow_nil _ _ _ _), Lib.hid (Below.refl _ _)⟩
  case round =>
    obtain ⟨s, k, c, f, Ao, L, rfl, rfl, rfl, hkf, hsz, hl, HLE, HA, HO, HB⟩ := hrel
    have HLL := Lib.hid hl
    have hzr := HB.out.size
    clear hl
    by_cases hlt : k < n + 1
    · obtain ⟨f, rfl⟩ : ∃ g, f = g + 1 := ⟨f - 1, by omega⟩
      have hltd : decide ((k : Int) < (n : Int) + 1) = true := by simp; omega
      obtain ⟨x, b, hx⟩ : ∃ x b, topR l s = (x, b) := ⟨_, _, rfl⟩
      have HT := Lib.hid (topicof_walk A n cap l s wr HL.out hn2 (HS.out.below HB.out) x b (Lib.hid hx))
      have hst := abv_step (f := f) hx
      have hxa := topR_le HS.out.1 hx
      clear hx
      go_wp2_with fail
      refine (HT.out).mono ?_; rintro e w2 ⟨rfl, hb2⟩
      have B2 := Lib.hid ((HB.out.trans (hb2.mono hzr)).alloc (by have := hb2.size; omega) (.cells #[.string x.k, .string x.a] 38))
      have O2 := Lib.hid (own_below (own_below HO.out hb2) ((Below.refl _ _).alloc (Nat.le_refl _) (.cells #[.string x.k, .string x.a] 38)))
      have K2 := Lib.hid (Blk.new w2 38 #[.string x.k, .string x.a])
      have hz2 : w.heap.size ≤ w2.heap.size := by have := hb2.size; omega
      have B2' := Lib.hid (HB.out.trans (hb2.mono hzr))
      have O2' := Lib.hid (own_below HO.out hb2)
      clear hb2 HT
      cases b
      · have HE : Hid (L = ss) := Lib.hid (by have := HA.out; rw [hst] at this; simpa using this)
        have FIN := Lib.hid (show ListRet ss w (.returned (.slice Ao k c)) (w2.alloc (.cells #[.string x.k, .string x.a] 38)) from by
          rw [← HE.out]
          exact ⟨Ao, c, by rw [HLL.out], by rw [HLL.out]; exact row_cap O2.out, row_sl O2.out HLL.out HLE.out, B2.out⟩)
        clear hst
        go_wp2_with fail
        go_ret
        exact FIN.out
      · have HA2 : Hid ((L ++ [s]) ++ abv l f x.a = ss) := Lib.hid (by have := HA.out; rw [hst] at this; simpa using this)
        have HLE2 : Hid (∀ y ∈ L ++ [s], y.size ≤ 1000) := Lib.hid (fun y hy => by rcases List.mem_append.1 hy with h | h; exact HLE.out y h; (simp at h; subst h; exact hsz))
        obtain ⟨i0, hi0, hz0, hz1', hz2'⟩ := info_parts infoS
        have HI0 := Lib.hid hi0
        have Z0 := Lib.hid hz0
        have Z1 := Lib.hid hz1'
        have Z2 := Lib.hid hz2'
        clear hi0 hz0 hz1' hz2' hst
        have hw2s : (w2.alloc (.cells #[.string x.k, .string x.a] 38)).heap.size = w2.heap.size + 1 := by simp
        have HW2 := Lib.hid hw2s
        clear hw2s
        go_wp2_with (at_builtin; (refine wpList_append_lies _ rfl _ _ _ rfl w.heap.size 9 i0 _ 1 16 Tryd.underlying39 HI0.out Z0.out Z1.out Z2.out rfl (by omega) (.slice Ao k c) k (L.map Value.string) rfl (O2.out.alloc _) ⟨w2.heap.size + 1, 0, none⟩ 1 1 [.string s] rfl rfl (World.news_of_block (cs := #[.string s]) (t := 9) (fr := (0, 0)) (fresh_at (w := w2.alloc (.cells #[.string x.k, .string x.a] 38)) (by simp))) (by simp [Value.oneCell']) (by omega) (by unfold maxLen; omega) (by omega) (by simp; omega) (w2.heap.size + 1 + 1) (by simp) ?_); intro gg cap' w5 hown hgrow hat hgl; (have O5 := Lib.hid (show w5.ownsRow w.heap.size 9 1 (.slice (some ⟨gg, 0, none⟩) (k + 1) cap') (k + 1) ((L ++ [s]).map Value.string) by rw [List.map_append]; exact hown)); (have B5 := Lib.hid ((B2.out.alloc B2.out.size (.cells #[.string s] 9)).trans (grown_below hgrow (fun g e => (O2.out.lt g e).1) (by simp; omega)))); (have K5 := Lib.hid (blk_grown (K2.out.alloc (.cells #[.string s] 9)) hgrow (own_new O2'.out))); (have c1 : w5.cell? ⟨w2.heap.size, 1, none⟩ = some (.string x.a) := K5.out.cell 1 _ rfl); clear hown hgrow hat)
        go_roundw
        case rel => exact ⟨x.a, k + 1, cap', f, some ⟨gg, 0, none⟩, L ++ [s], rfl, by go_num, rfl, by omega, hxa, by simp [HLL.out], HLE2, HA2, O5, B5⟩
        case measure => simp [intOf]; omega
    · have hf0 : f = 0 := by omega
      subst hf0
      have HE : Hid (L = ss) := Lib.hid (by have := HA.out; simpa [abv] using this)
      have FIN := Lib.hid (show ListRet ss w (.returned (.slice Ao k c)) wr from by
        rw [← HE.out]
        exact ⟨Ao, c, by rw [HLL.out], by rw [HLL.out]; exact row_cap HO.out, row_sl HO.out HLL.out HLE.out, HB.out⟩)
      have hltd : decide ((k : Int) < (n : Int) + 1) = false := by simp; omega
      go_wp2_with fail
      go_ret
      exact FIN.out
end Go.Proofs.YtnjigaklkalebaaDoor.For
