/-
  MARKS: median, and the reference's MedianOf: twice the middle.
-/
import Derived.Test.YtgajencgpceabaaGreatDoorCalMd
import Derived.Test.YtgajencgpceabaaGreatDoorCalO2
namespace Go.Proofs.YtgajencgpceabaaGreatDoor.Cal
open Go.ChangeShapes Go.WideShapes Go.ChangeAt Go.RowKit Stm Key
open Go.Shelf Go.Lib Go.Sort
set_option linter.unusedVariables false

/-- Twice the median. -/
def medI (zs : List Int) : Int := (srtI zs)[(zs.length - 1) / 2]?.getD 0 + (srtI zs)[zs.length / 2]?.getD 0
theorem il_at {w : World} {A : Option Addr} {l : List Int} (h : IL w A l) (h0 : 0 < l.length) : ∃ b, A = some ⟨b, 0, none⟩ ∧ b < w.heap.size ∧ ∀ j, j < l.length → w.cell? ⟨b, j, none⟩ = some (.int .i64 (l[j]?.getD 0)) := by
  obtain ⟨b, hA, hb, hc⟩ := h.2 h0
  exact ⟨b, hA, hb, fun j hj => by rw [hc j hj]; simp [hj]⟩
theorem valsC (a : Option Addr) (len cap : Nat) (w : World) :
    Calls Tryz.prog 56 #[.slice a len cap] w fun e w' => e = .returned (.func (.func 69) #[] #[.pointer (some ⟨w.heap.size, 0, none⟩)]) ∧ w' = w.alloc (.cells #[.slice a len cap] 22) :=
  callsIn_wide.1 (vals_in Fence.wide 5 trivial rfl a len cap w)
/-- slices.Sorted at what slices.Values has handed back. -/
theorem sortedC (A : Option Addr) (n cap : Nat) (zs : List Int) (w : World) (hn : zs.length = n) (h0 : 1 ≤ n) (hn2 : n ≤ 256) (hI : IL w A zs) :
    Calls Tryz.prog 55 #[.func (.func 69) #[] #[.pointer (some ⟨w.heap.size, 0, none⟩)]] (w.alloc (.cells #[.slice A n cap] 22)) fun e w' => ∃ A' c, e = .returned (.slice A' n c) ∧ IL w' A' (srtI zs) ∧ Below w.heap.size w w' := by
  obtain ⟨b, rfl, hb, hc⟩ := il_at hI (by omega)
  have hB0 : Below w.heap.size w (w.alloc (.cells #[.slice (some ⟨b, 0, none⟩) n cap] 22)) := (Below.refl _ w).alloc (Nat.le_refl _) _
  have bN := Boxed.new w 22 (.slice (some ⟨b, 0, none⟩) n cap)
  have hs : (w.alloc (.cells #[.slice (some ⟨b, 0, none⟩) n cap] 22)).heap.size = w.heap.size + 1 := by simp
  subst hn
  refine (callsIn_wide.1 (sortedI_in 5 (by omega) w.heap.size b cap zs h0 (by omega) _ (by omega) (by omega) bN.cell (fun j hj => (hB0.cell (p := ⟨b, j, none⟩) hb).trans (hc j hj)))).mono ?_
  rintro e w' ⟨A', c, rfl, hrow, hB⟩
  exact ⟨A', c, rfl, row_il hrow (srtI_perm zs).length_eq (fun x hx => hI.1 x ((srtI_perm zs).mem_iff.1 hx)), hB0.trans (hB.mono (by omega))⟩
set_option maxRecDepth 100000 in
set_option maxHeartbeats 2000000 in
theorem median_walk (A : Option Addr) (n cap : Nat) (zs : List Int) (w : World) (hn : zs.length = n) (h0 : 1 ≤ n) (hn2 : n ≤ 256) (hI : IL w A zs) :
    Calls Tryz.prog 34 #[.slice A n cap] w fun e w' => e = .returned (.int .i64 (medI zs)) ∧ Below w.heap.size w w' := by
  have HS := Lib.hid (sortedC A n cap zs w hn h0 hn2 hI)
  have HMED := Lib.hid (show medI zs = (srtI zs)[(n - 1) / 2]?.getD 0 + (srtI zs)[n / 2]?.getD 0 by rw [← hn]; rfl)
  have HL := Lib.hid (show (srtI zs).length = n by rw [(srtI_perm zs).length_eq, hn])
  obtain ⟨mv, hmv⟩ : ∃ mv, medI zs = mv := ⟨_, rfl⟩
  rw [hmv] at HMED ⊢
  obtain ⟨ys, hys⟩ : ∃ ys, srtI zs = ys := ⟨_, rfl⟩
  rw [hys] at HS HMED HL
  clear hn hI hmv hys
  go_enter Tryz.func34, Tryz.ntmps34
  go_wp2_with fail
  refine (valsC A n cap w).mono ?_; rintro e w1 ⟨rfl, rfl⟩
  go_wp2_with fail
  refine (HS.out).mono ?_; rintro e w2 ⟨A2, c2, rfl, hil, hB⟩
  obtain ⟨b, rfl, hb, hc⟩ := il_at hil (by rw [HL.out]; omega)
  rw [HL.out] at hc
  have c1 := hc ((n - 1) / 2) (by omega)
  have c3 := hc (n / 2) (by omega)
  have m1 := hil.1
  obtain ⟨x, hx⟩ : ∃ x, ys[(n - 1) / 2]?.getD 0 = x := ⟨_, rfl⟩
  obtain ⟨y, hy⟩ : ∃ y, ys[n / 2]?.getD 0 = y := ⟨_, rfl⟩
  rw [hx] at c1 HMED
  rw [hy] at c3 HMED
  have hxb : 0 ≤ x ∧ x ≤ 10 := by
    have hlt : (n - 1) / 2 < ys.length := by rw [HL.out]; omega
    rw [List.getElem?_eq_getElem hlt, Option.getD_some] at hx
    rw [← hx]; exact m1 _ (List.getElem_mem hlt)
  have hyb : 0 ≤ y ∧ y ≤ 10 := by
    have hlt : n / 2 < ys.length := by rw [HL.out]; omega
    rw [List.getElem?_eq_getElem hlt, Option.getD_some] at hy
    rw [← hy]; exact m1 _ (List.getElem_mem hlt)
  obtain ⟨x0, x1⟩ := hxb
  obtain ⟨y0, y1⟩ := hyb
  have HB := Lib.hid hB
  clear hB hx hy m1 hc hil HS
  go_wp2_with fail
  go_quiet (fail)
  go_wp2_with fail
  go_ret
  exact ⟨by rw [HMED.out]; rfl, Stm.Below.drewN HB.out _⟩
set_option maxRecDepth 100000 in
set_option maxHeartbeats 2000000 in
theorem medianof_walk (A : Option Addr) (n cap : Nat) (l : List Mk) (p : ByteArray) (w : World) (hn : l.length = n) (hn2 : n ≤ 256) (hM : ML w A l) (hs : ∀ x ∈ l, 0 ≤ x.s ∧ x.s ≤ 10) (hp : p ∈ papersL l) :
    Calls Tryz.prog 21 #[.slice A n cap, .string p] w fun e w' => e = .returned (.int .i64 (medI (scB l p))) ∧ Below w.heap.size w w' := by
  have HSO := Lib.hid (scoresof_walk A n cap l p w hn (by omega) hM hs)
  have hpos := scB_pos hp
  have hlen := Nat.le_trans (scB_len l p) (by rw [hn]; exact hn2)
  have hmem := scB_mem hs p
  obtain ⟨zs, hz⟩ : ∃ zs, scB l p = zs := ⟨_, rfl⟩
  rw [hz] at HSO hpos hlen hmem ⊢
  have HMED := Lib.hid (show medI zs = (srtI zs)[(zs.length - 1) / 2]?.getD 0 + (srtI zs)[zs.length / 2]?.getD 0 from rfl)
  have HPL := Lib.hid (srtI_perm zs).length_eq
  obtain ⟨mv, hmv⟩ : ∃ mv, medI zs = mv := ⟨_, rfl⟩
  rw [hmv] at HMED ⊢
  obtain ⟨ys, hys⟩ : ∃ ys, srtI zs = ys := ⟨_, rfl⟩
  rw [hys] at HSO HMED HPL
  obtain ⟨m, hm⟩ : ∃ m, zs.length = m := ⟨_, rfl⟩
  rw [hm] at HMED HPL hpos hlen
  clear hn hM hs hp hmem hz hmv hys hm
  go_enter Tryz.func21, Tryz.ntmps21
  go_wp2_with fail
  refine (HSO.out).mono ?_; rintro e w2 ⟨A2, c2, rfl, hil, hB⟩
  rw [HPL.out]
  obtain ⟨b, rfl, hb, hc⟩ := il_at hil (by rw [HPL.out]; omega)
  rw [HPL.out] at hc
  have c1 := hc ((m - 1) / 2) (by omega)
  have c3 := hc (m / 2) (by omega)
  have m1 := hil.1
  obtain ⟨x, hx⟩ : ∃ x, ys[(m - 1) / 2]?.getD 0 = x := ⟨_, rfl⟩
  obtain ⟨y, hy⟩ : ∃ y, ys[m / 2]?.getD 0 = y := ⟨_, rfl⟩
  rw [hx] at c1 HMED
  rw [hy] at c3 HMED
  have hxb : 0 ≤ x ∧ x ≤ 10 := by
    have hlt : (m - 1) / 2 < ys.length := by rw [HPL.out]; omega
    rw [List.getElem?_eq_getElem hlt, Option.getD_some] at hx
    rw [← hx]; exact m1 _ (List.getElem_mem hlt)
  have hyb : 0 ≤ y ∧ y ≤ 10 := by
    have hlt : m / 2 < ys.length := by rw [HPL.out]; omega
    rw [List.getElem?_eq_getElem hlt, Option.getD_some] at hy
    rw [← hy]; exact m1 _ (List.getElem_mem hlt)
  obtain ⟨x0, x1⟩ := hxb
  obtain ⟨y0, y1⟩ := hyb
  have HB := Lib.hid hB
  clear hB hx hy m1 hc hil HSO
  go_wp2_with fail
  go_quiet (fail)
  go_wp2_with fail
  go_ret
  exact ⟨by rw [HMED.out]; rfl, Stm.Below.drewN HB.out _⟩
end Go.Proofs.YtgajencgpceabaaGreatDoor.Cal
