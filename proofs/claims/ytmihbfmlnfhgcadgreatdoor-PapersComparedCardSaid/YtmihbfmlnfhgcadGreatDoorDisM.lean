/-
  MARKS, the seventh chapter's way: discuss.Mean: the mean of one paper's scores, in lowest terms.
-/
import Derived.Test.YtmihbfmlnfhgcadGreatDoorDisS
import Derived.Test.YtmihbfmlnfhgcadGreatDoorKeys
namespace Go.Proofs.YtmihbfmlnfhgcadGreatDoor.Cal
open Go.ChangeShapes Go.WideShapes Go.ChangeAt Go.RowKit Stm Key
set_option linter.unusedVariables false

/-- The mean and what is wrong. -/
def dMean (l : List Mk) (p : ByteArray) : (Int × Int) × Int :=
  if chkO ⟨#[]⟩ ⟨#[]⟩ l ≠ 0 then ((0, 0), chkO ⟨#[]⟩ ⟨#[]⟩ l) else if keyL p.data.toList = false then ((0, 0), 5) else if (scB l p).length = 0 then ((0, 0), 8) else (lowZ (sumI (scB l p)) (scB l p).length, 0)
/-- A paper's scores, sorted, as marks.Mean reads them. -/
theorem fs_il {w : World} {base : Nat} {V : ByteArray → Option Value} {l : List Mk} (p : ByteArray) (hF : FS w base V (fun s => srtI (scB l s))) (hI : ∀ s, (V s).isSome = decide (0 < (scB l s).length)) (hok : ∀ x ∈ l, 0 ≤ x.s ∧ x.s ≤ 10) :
    ∃ (A : Option Addr) (c : Nat), (V p).getD (.slice none 0 0) = .slice A (scB l p).length c ∧ IL w A (srtI (scB l p)) := by
  have hmem : ∀ y ∈ srtI (scB l p), 0 ≤ y ∧ y ≤ 10 := fun y hy => scB_mem hok p y ((srtI_perm _).mem_iff.1 hy)
  have hlen : (srtI (scB l p)).length = (scB l p).length := (srtI_perm _).length_eq
  cases hv : V p with
  | none =>
    have h0 := hI p
    rw [hv] at h0
    have h1 : ¬ 0 < (scB l p).length := by simpa using h0.symm
    have h2 : scB l p = [] := List.length_eq_zero_iff.1 (by omega)
    rw [h2]
    exact ⟨none, 0, rfl, (fun y hy => by simp [srtI] at hy), (fun h => by simp [srtI] at h)⟩
  | some v =>
    obtain ⟨o1, o2⟩ := hF.1 p v hv
    simp only at o1
    rw [hlen] at o1
    rcases o1.2 with ⟨rfl, h0⟩ | ⟨g, cap, cur, rfl, hb, hh, _⟩
    · exact absurd rfl o2
    · exact ⟨_, _, rfl, row_il o1 hlen hmem⟩
theorem blk_fracD {w : World} {B : Nat} (h : Blk w B 71 #[.int .i64 0, .int .i64 0]) : w.frozen? ⟨B, 0, none⟩ = false ∧ w.frozen? ⟨B, 1, none⟩ = false ∧ w.cell? ⟨B, 0, none⟩ = some (.int .i64 0) ∧ w.cell? ⟨B, 1, none⟩ = some (.int .i64 0) :=
  ⟨h.frozen 0, h.frozen 1, h.cell 0 _ rfl, h.cell 1 _ rfl⟩
set_option maxRecDepth 100000 in
set_option maxHeartbeats 4000000 in
theorem dmean_walk (A : Option Addr) (n cap : Nat) (l : List Mk) (p : ByteArray) (w : World) (hn : l.length = n) (hn2 : n ≤ 256) (hM : ML w A l) (hp : p.size ≤ 1000) (m : (Int × Int) × Int) (hm : dMean l p = m) :
    Calls Tryz.prog 32 #[.slice A n cap, .string p] w fun e w' => e = .returned (.tuple #[.agg #[.int .i64 m.1.1, .int .i64 m.1.2], .int .i64 m.2]) ∧ Below w.heap.size w w' := by
  obtain ⟨r, hr⟩ : ∃ r, chkO ⟨#[]⟩ ⟨#[]⟩ l = r := ⟨_, rfl⟩
  unfold dMean at hm
  rw [hr] at hm
  have HR := Lib.hid hr
  have HMM := Lib.hid hm
  have w1 := Lib.hid ((Below.refl w.heap.size w).alloc (Nat.le_refl _) (.cells #[.int .i64 0, .int .i64 0] 71))
  have X1 := Lib.hid (Blk.new w 71 #[.int .i64 0, .int .i64 0])
  have HSC := Lib.hid (scoresofD_walk A n cap l (w.alloc (.cells #[.int .i64 0, .int .i64 0] 71)) hn hn2 (hM.below w1.out) r (Lib.hid hr))
  have HN := Lib.hid hn
  clear hn hM hr hm
  go_enter Tryz.func32, Tryz.ntmps32
  go_upto_region 1 with fail
  have hlw := X1.out.lt
  generalize (w.alloc (.cells #[.int .i64 0, .int .i64 0] 71)) = wa at *
  go_wp2_with fail
  have FIN : Hid (∀ (W : World) (a b : Int), Below w.heap.size w W → Below w.heap.size w ((W.setCell ⟨w.heap.size, 0, none⟩ (.int .i64 a)).setCell ⟨w.heap.size, 1, none⟩ (.int .i64 b))) := Lib.hid (fun W a b h => (h.setCell (p := ⟨w.heap.size, 0, none⟩) (Nat.le_refl _) _).setCell (p := ⟨w.heap.size, 1, none⟩) (Nat.le_refl _) _)
  refine (HSC.out).mono ?_; rintro e w2 ⟨hb2, ⟨hr0, rfl⟩ | ⟨rfl, M, c, C, V, rfl, hzM, hzC, hMS, hFS, hIS⟩⟩
  · have B2 := Lib.hid (w1.out.trans (hb2.mono w1.out.size))
    have X2 := Lib.hid (X1.out.below hb2 X1.out.lt)
    have e1 : (r != 0) = true := by simpa using hr0
    have hm2 := HMM.out
    rw [if_pos hr0] at hm2
    have HM2 := Lib.hid hm2
    obtain ⟨f0, f1, q0, q1⟩ := blk_fracD X2.out
    clear hr0 hb2 HSC HMM X1 hm2
    go_wp2_with fail
    exact bodyPost_ret (v := .tuple #[.agg #[.int .i64 0, .int .i64 0], .int .i64 r]) (by simp only [results, Tryz.results32]; go_simp) rfl ⟨by rw [← HM2.out], FIN.out _ _ _ B2.out⟩
  · have B2 := Lib.hid (w1.out.trans (hb2.mono w1.out.size))
    have X2 := Lib.hid (X1.out.below hb2 X1.out.lt)
    have hm2 := HMM.out
    rw [if_neg (by simp)] at hm2
    have HM2 := Lib.hid hm2
    obtain ⟨f0, f1, q0, q1⟩ := blk_fracD X2.out
    have hok : ∀ x ∈ l, 0 ≤ x.s ∧ x.s ≤ 10 := fun x hx => (chkO_scores l _ _ HR.out x hx).2
    obtain ⟨A2, c2, hv2, hil⟩ := fs_il p hFS hIS hok
    have LK := Lib.hid (show (Instr.lookup 56 (.map (some M)) (.string p) false).run Tryz.prog w2 = .ok (.slice A2 (scB l p).length c2) w2 by rw [ms_look hMS hp, hv2])
    have hsl := scB_len l p
    rw [HN.out] at hsl
    have IL2 := Lib.hid hil
    have HSU := Lib.hid (srtI_sum (scB l p))
    have HSL := Lib.hid (show (srtI (scB l p)).length = (scB l p).length from (srtI_perm _).length_eq)
    obtain ⟨b, hb⟩ : ∃ b, keyL p.data.toList = b := ⟨_, rfl⟩
    have HKW := Lib.hid (key_walk p w2 (by omega) b (Lib.hid hb))
    rw [hb] at hm2
    obtain ⟨q, hq⟩ : ∃ q, (scB l p).length = q := ⟨_, rfl⟩
    rw [hq] at LK HSL hsl hm2
    clear hb2 HSC HMM X1 HM2 hMS hFS hIS hok hv2 hil hq
    have HM2 := Lib.hid hm2
    clear hm2
    go_wp2_with fail
    refine (HKW.out).mono ?_; rintro e w3 ⟨rfl, rfl⟩
    clear HKW
    cases b with
    | false =>
      have hm3 := HM2.out
      rw [if_pos rfl] at hm3
      have HM3 := Lib.hid hm3
      clear hm3 HM2
      go_wp2_with fail
      exact bodyPost_ret (v := .tuple #[.agg #[.int .i64 0, .int .i64 0], .int .i64 5]) (by simp only [results, Tryz.results32]; go_simp) rfl ⟨by rw [← HM3.out], FIN.out _ _ _ B2.out⟩
    | true =>
      have lk := LK.out
      by_cases hq0 : q = 0
      · subst hq0
        have hm3 := HM2.out
        rw [if_neg (by simp), if_pos rfl] at hm3
        have HM3 := Lib.hid hm3
        clear hm3 HM2
        go_wp2_with fail
        exact bodyPost_ret (v := .tuple #[.agg #[.int .i64 0, .int .i64 0], .int .i64 8]) (by simp only [results, Tryz.results32]; go_simp) rfl ⟨by rw [← HM3.out], FIN.out _ _ _ B2.out⟩
      · have hm3 := HM2.out
        rw [if_neg (by simp), if_neg hq0] at hm3
        have HM3 := Lib.hid hm3
        have e2 : ((q : Int) == 0) = false := by simp; omega
        have HME := Lib.hid (mean_walk A2 q c2 (srtI (scB l p)) w3 HSL.out (by omega) (by omega) IL2.out)
        rw [HSU.out] at HME
        clear hm3 HM2 hq0
        go_wp2_with fail
        refine (HME.out).mono ?_; rintro e w4 ⟨rfl, hb4⟩
        have B4 := Lib.hid (B2.out.trans (hb4.mono B2.out.size))
        have X4 := Lib.hid (X2.out.below hb4 X2.out.lt)
        clear f0 f1 q0 q1 hb4 HME lk
        obtain ⟨f0, f1, q0, q1⟩ := blk_fracD X4.out
        obtain ⟨u, hu⟩ : ∃ u, lowZ (sumI (scB l p)) q = u := ⟨_, rfl⟩
        rw [hu] at HM3 ⊢
        clear hu
        go_wp2_with fail
        exact bodyPost_ret (v := .tuple #[.agg #[.int .i64 u.1, .int .i64 u.2], .int .i64 0]) (by simp only [results, Tryz.results32]; go_simp) rfl ⟨by rw [← HM3.out], FIN.out _ _ _ B4.out⟩
end Go.Proofs.YtmihbfmlnfhgcadGreatDoor.Cal
