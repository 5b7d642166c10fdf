/-
  BY WHICH SKILLS TOPICS ARE KNOWN (package topic): Reasons.
-/
import Derived.Test.YtebfndiaiaegmaaGreatDoorKnow2
import Derived.Deep.RegionLaw
import Derived.Deep.AppendLies
import Derived.Deep.DrawnRows
namespace Go.Proofs.YtebfndiaiaegmaaGreatDoor.For
open Go.ChangeShapes Go.WideShapes Go.ChangeAt Go.RowKit Stm Key
set_option linter.unusedVariables false
attribute [local go_sem ↓] Go.wp_at_zero Go.wp_at_succ

/-- The reason of a topic. -/
def becN (l : List Tp) (s : List Sk) (t : ByteArray) : Bc := ⟨t, (knS l s (num l t)).2, ((lowN (knS l s (num l t)).1 252000).1 : Nat), ((lowN (knS l s (num l t)).1 252000).2 : Nat)⟩
def becS (l : List Tp) (s : List Sk) (ts : List ByteArray) : List Bc := ts.map (becN l s)
theorem becS_next {l : List Tp} {s : List Sk} {ts : List ByteArray} {k : Nat} (h : k < ts.length) : becS l s (ts.take (k + 1)) = becS l s (ts.take k) ++ [becN l s ts[k]] := by
  unfold becS; rw [take_next _ _ h, List.map_append]; rfl
def flatB (l : List Bc) : List Value := l.flatMap fun x => [.string x.t, .string x.b, .int .i64 x.p, .int .i64 x.q]
theorem flatB_snoc (l : List Bc) (x : Bc) : flatB (l ++ [x]) = flatB l ++ [.string x.t, .string x.b, .int .i64 x.p, .int .i64 x.q] := by simp [flatB]
theorem flatB_get : ∀ (l : List Bc) (i : Nat) (h : i < l.length), (flatB l)[i * 4]? = some (.string l[i].t) ∧ (flatB l)[i * 4 + 1]? = some (.string l[i].b) ∧ (flatB l)[i * 4 + 2]? = some (.int .i64 l[i].p) ∧ (flatB l)[i * 4 + 3]? = some (.int .i64 l[i].q)
  | [], i, h => by simp at h
  | x :: t, 0, _ => ⟨rfl, rfl, rfl, rfl⟩
  | x :: t, i + 1, h => by
    have := flatB_get t i (by simpa using h)
    have e1 : (i + 1) * 4 = i * 4 + 1 + 1 + 1 + 1 := by omega
    rw [e1]
    simpa [flatB] using this
theorem row_bl {w : World} {base n cap : Nat} {A : Option Addr} {l : List Bc} (h : w.ownsRow base 44 4 (.slice A n cap) n (flatB l)) (L : l.length = n) : BL w A l := by
  intro h0
  obtain ⟨g, cap', hv, _, hlt⟩ := h.form (by omega)
  have hA : A = some ⟨g, 0, none⟩ := by injection hv
  subst hA
  refine ⟨g, rfl, hlt, fun i hi => ?_⟩
  have hc := h.cells (g := g) rfl
  have hg := flatB_get l i hi
  have e1 := hc (i * 4) _ hg.1
  have e2 := hc (i * 4 + 1) _ hg.2.1
  have e3 := hc (i * 4 + 2) _ hg.2.2.1
  have e4 := hc (i * 4 + 3) _ hg.2.2.2
  rw [row_add] at e1 e2 e3 e4
  exact ⟨e1, e2, e3, e4⟩
theorem infoB : (Tryz.prog.info? 44).map (fun i => (i.zero, i.size, i.bytes)) = some (some (.agg #[.string ⟨#[]⟩, .string ⟨#[]⟩, .int .i64 0, .int .i64 0]), 4, 48) := by kernel_rfl
/-- What Reasons hands back. -/
def BecRet (l : List Tp) (s : List Sk) (ts : List ByteArray) (r : Int) (w : World) (e : Ending) (w' : World) : Prop := ∃ (A : Option Addr) (m c : Nat) (bs : List Bc), e = .returned (.tuple #[.slice A m c, .int .i64 r]) ∧ bs.length = m ∧ BL w' A bs ∧ (r = 0 → bs = becS l s ts) ∧ Below w.heap.size w w'

set_option maxRecDepth 100000 in
set_option maxHeartbeats 8000000 in
theorem reasons_walk (A : Option Addr) (n cap : Nat) (l : List Tp) (A2 : Option Addr) (n2 c2 : Nat) (s : List Sk) (A3 : Option Addr) (n3 c3 : Nat) (ts : List ByteArray) (w : World) (hn : l.length = n) (hn2 : n ≤ 1000) (hS : TL w A l) (hs : KL w A2 s) (hk : s.length = n2) (h100 : n2 ≤ 100)
    (ht : SL w A3 ts) (hkt : ts.length = n3) (h8 : n3 ≤ 8) (r : Int) (hr : Hid (wantE l s ts = r)) :
    Calls Tryz.prog 11 #[.slice A n cap, .slice A2 n2 c2, .slice A3 n3 c3] w (BecRet l s ts r w) := by
  have HWT := Lib.hid (withtopics_walk A n cap l A2 n2 c2 s A3 n3 c3 ts w hn hn2 hS hs hk h100 ht hkt h8 r hr)
  have HS := Lib.hid hs
  have HT := Lib.hid ht
  have HK := Lib.hid hk
  have HKT := Lib.hid hkt
  have HN := Lib.hid hn
  clear hS hs ht hk hkt hn
  go_enter Tryz.func11, Tryz.ntmps11
  go_wp2_with fail
  refine (HWT.out).mono ?_; rintro e w1 ⟨F, hor, hb1⟩
  have B1 := Lib.hid hb1
  clear hb1
  rcases hor with ⟨h0, rfl⟩ | ⟨rfl, rfl, hF, hFM⟩
  · have H0 := Lib.hid h0
    have hbb : (r != 0) = true := by rw [bne_iff_ne]; exact h0
    clear h0
    go_wp2_with fail
    go_ret2
    exact ⟨none, 0, 0, [], rfl, rfl, fun h => absurd h (by simp), fun h => absurd h H0.out, B1.out⟩
  · obtain ⟨e1, e2, e3⟩ := wantE_ok hr.out
    have HR := Lib.hid (rightF e1)
    have HOK := Lib.hid (skE_ok s _ e2)
    have HOT := Lib.hid (waE_ok ts _ e3)
    have HFM := Lib.hid hFM
    have HBD := Lib.hid (fun i (hi : i < n) => knS_le HR.out HOK.out (fun x hx => (HS.out.1 x hx).1) (show i < l.length by rw [HN.out]; exact hi))
    have HKW := Lib.hid (knowledge_walk F n cap A l A2 n2 c2 s w1 HN.out hn2 HFM.out HR.out (HS.out.below B1.out) HK.out h100 HOK.out)
    clear e1 e2 e3 hFM
    go_wp2_with fail
    refine (HKW.out).mono ?_; rintro e w2 ⟨g, rfl, hkn, hb2⟩
    have B2 := Lib.hid (B1.out.trans (hb2.mono B1.out.size))
    have HKN := Lib.hid hkn
    have T2 := Lib.hid (HT.out.below B2.out)
    have hFM2 := HFM.out.below hb2
    have hFlt := hFM2.lt
    obtain ⟨M, gp, D, cd, k1, k2, k3, k4⟩ := hFM2
    have X1 := Lib.hid (show w2.cell? ⟨F, 1, none⟩ = some (.map (some M)) from k1.cell 1 _ rfl)
    have HM := Lib.hid k2
    have hglt := hkn.1
    clear k1 k2 k3 k4 hkn hb2 HKW HFM
    go_wp2_with fail
    go_loopw [11, 30] (fun out i wr => ∃ (k : Nat) (Ao : Option Addr) (c : Nat), k ≤ n3 ∧ i = .int .i64 k ∧ out = .slice Ao k c ∧ Hid (wr.ownsRow w2.heap.size 44 4 (.slice Ao k c) k (flatB (becS l s (ts.take k)))) ∧ Hid (Below w2.heap.size w2 wr)) (fun _ i _ => n3 - (intOf i).toNat)
    case atStart => exact ⟨0, none, 0, Nat.zero_le _, rfl, rfl, Lib.hid (World.ownsRow_nil _ _ _ _), Lib.hid (Below.refl _ _)⟩
    case round =>
      obtain ⟨k, Ao, c, hk, rfl, rfl, HO, HB⟩ := hrel
      have hz := HB.out.size
      by_cases hlt : k < n3
      · have hkl : k < ts.length := by rw [HKT.out]; exact hlt
        obtain ⟨g3, hA3, hgl, hc⟩ := (T2.out.below HB.out).2 (by omega)
        subst hA3
        have c0 := hc k hkl
        have hx := T2.out.1 _ (List.getElem_mem hkl)
        have hxo := num_lt (HOT.out _ (List.getElem_mem hkl))
        have HNX := Lib.hid (becS_next (l := l) (s := s) hkl)
        have hlk := lkI_num l ts[k]
        have x1 := (HB.out.cell (p := ⟨F, 1, none⟩) hFlt).trans X1.out
        generalize ts[k] = x at *
        have hqn : num l x < n := by have := HN.out; omega
        have HLK := Lib.hid (look_run M l x wr (HM.out.below HB.out) hx _ hlk)
        have hcb := HBD.out _ hqn
        have hkn := (HKN.out.below HB.out).2 _ hqn
        have HBC : Hid (becN l s x = ⟨x, (knS l s (num l x)).2, ((lowN (knS l s (num l x)).1 252000).1 : Nat), ((lowN (knS l s (num l x)).1 252000).2 : Nat)⟩) := Lib.hid rfl
        generalize num l x = q1 at *
        generalize knS l s q1 = v at *
        obtain ⟨v1, v2⟩ := v
        obtain ⟨p, q, hpq⟩ : ∃ p q, lowN v1 252000 = (p, q) := ⟨_, _, rfl⟩
        have hbc2 := HBC.out
        simp only [hpq] at hbc2
        have HBE := Lib.hid hbc2
        have HPQ := Lib.hid hpq
        obtain ⟨y0, y1⟩ := hkn
        simp only at y0 y1 hcb
        have HLW := Lib.hid (fun W => low_as2 v1 252000 p q W (by omega) (by omega) (by omega) HPQ)
        rw [show ((252000 : Nat) : Int) = 252000 from rfl] at HLW
        have j0 : (0 : Int) ≤ (q1 : Int) := by omega
        have j1 : (q1 : Int) < (n : Int) := by omega
        have a0 : (0 : Int) ≤ (k : Int) := by omega
        have a1 : (k : Int) < (n3 : Int) := by omega
        have O1 := Lib.hid (HO.out.alloc (.cells #[.int .i64 v1, .string v2] 73))
        have B3 := Lib.hid (HB.out.alloc hz (.cells #[.int .i64 v1, .string v2] 73))
        have K1 := Lib.hid (Blk.new wr 73 #[.int .i64 v1, .string v2])
        obtain ⟨i0, hi0, hz0, hz1', hz2⟩ := info_parts infoB
        have HI := Lib.hid hi0
        have Z0 := Lib.hid hz0
        have Z1 := Lib.hid hz1'
        have Z2 := Lib.hid hz2
        have hgw : g < wr.heap.size := by omega
        clear hi0 hz0 hz1' hz2 hc hxo hlk hx hcb hbc2 hpq HBC HO
        have hlk := HLK.out
        go_wp2_with fail
        clear hlk y0 y1 c0 x1
        have d0 : (wr.alloc (.cells #[.int .i64 v1, .string v2] 73)).cell? ⟨wr.heap.size, 0, none⟩ = some (.int .i64 v1) := K1.out.cell 0 _ rfl
        have d1 : (wr.alloc (.cells #[.int .i64 v1, .string v2] 73)).cell? ⟨wr.heap.size, 1, none⟩ = some (.string v2) := K1.out.cell 1 _ rfl
        go_region_law ((first
          | (go_simp; go_at_call 32
             refine (HLW.out _).mono ?_
             rintro e w6 ⟨rfl, hb⟩
             have B6 := Lib.hid (B3.out.drew.trans (hb.mono (by simp; omega)))
             have K6 := Lib.hid ((K1.out.below (Below.refl (wr.heap.size + 1) _).drew (by omega)).below hb (by simp))
             have O6 := Lib.hid (own_below (own_below O1.out (Below.refl _ _).drew) hb)
             have y0 : w6.cell? ⟨wr.heap.size, 0, none⟩ = some (.int .i64 v1) := K6.out.cell 0 _ rfl
             have y1 : w6.cell? ⟨wr.heap.size, 1, none⟩ = some (.string v2) := K6.out.cell 1 _ rfl
             have z6 : w2.heap.size ≤ w6.heap.size := B6.out.size
             clear hb)
          | (refine step_append_lies _ (by rfl) _ _ _ (by rfl) w2.heap.size 44 i0 _ 4 48 Tryz.underlying40 HI.out Z0.out Z1.out Z2.out rfl (by omega) (.slice Ao k c) k (flatB (becS l s (ts.take k))) (by rfl) (O6.out.alloc _)
               ⟨w6.heap.size, 0, none⟩ 1 1 [.string x, .string v2, .int .i64 p, .int .i64 q] (by rfl) (by rfl) (World.news_of_block (cs := #[.string x, .string v2, .int .i64 p, .int .i64 q]) (t := 44) (fr := (0, 0)) (heap_alloc_new w6 _)) (by simp [Value.oneCell'])
               (by omega) (by unfold maxLen; omega) (by omega) (by simp; omega) (w6.heap.size + 1) (by simp) ?_
             intro gg cap' w7 hown hgrow hat hgl
             have O7 := Lib.hid (show w7.ownsRow w2.heap.size 44 4 _ (k + 1) (flatB (becS l s (ts.take (k + 1)))) by rw [HNX.out, flatB_snoc, HBE.out]; exact hown)
             have B7 := Lib.hid ((B6.out.alloc z6 (.cells #[.string x, .string v2, .int .i64 p, .int .i64 q] 44)).trans (grown_below hgrow (fun g e => by have := (O6.out.lt g e).1; omega) (by simp; omega)))
             clear hown hgrow hat)))
        all_goals
          go_wp2_with fail
          go_roundw
          case rel => exact ⟨k + 1, _, _, by omega, by go_num, rfl, O7, B7⟩
          case measure => simp [intOf]; omega
      · have hkn : k = n3 := by omega
        subst hkn
        have hfin := HO.out
        rw [List.take_of_length_le (by rw [HKT.out]; exact Nat.le_refl _)] at hfin
        have FIN := Lib.hid (row_bl hfin (by unfold becS; rw [List.length_map, HKT.out]))
        clear hfin
        go_wp2_with fail
        go_ret2
        exact ⟨_, _, _, _, rfl, by unfold becS; rw [List.length_map, HKT.out], FIN.out, fun _ => rfl, B2.out.trans (HB.out.mono B2.out.size)⟩
end Go.Proofs.YtebfndiaiaegmaaGreatDoor.For
