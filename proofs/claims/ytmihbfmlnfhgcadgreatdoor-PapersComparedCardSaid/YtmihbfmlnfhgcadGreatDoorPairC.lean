/-
  slices.Compact at pairs: what is left are some of the pairs.
-/
import Derived.Test.YtmihbfmlnfhgcadGreatDoorPairS
import Derived.Deep.QuietTactic
import Derived.BigQuiet
namespace Go.Proofs.YtmihbfmlnfhgcadGreatDoor.Cal
open Go.ChangeShapes Go.WideShapes Go.ChangeAt Go.RowKit Stm Key
set_option linter.unusedVariables false

/-- Block g begins with these pairs, and may be written there. -/
def PB (w : World) (g : Nat) (d : List Pr) : Prop := g < w.heap.size ∧ ∀ (i : Nat) (h : i < d.length), w.cell? ⟨g, i * 2, none⟩ = some (.string d[i].p) ∧ w.cell? ⟨g, i * 2 + 1, none⟩ = some (.string d[i].h) ∧ w.frozen? ⟨g, i * 2, none⟩ = false ∧ w.frozen? ⟨g, i * 2 + 1, none⟩ = false
theorem PB.drewN {w : World} {g : Nat} {d : List Pr} (h : PB w g d) (m : Nat) : PB (w.drewN m) g d := h
theorem PB.set {w : World} {g : Nat} {d : List Pr} (h : PB w g d) (k : Nat) (hk : k < d.length) (p q : ByteArray) : PB ((w.setCell ⟨g, k * 2, none⟩ (.string p)).setCell ⟨g, k * 2 + 1, none⟩ (.string q)) g (d.set k ⟨p, q⟩) := by
  refine ⟨by simpa [World.setCell] using h.1, fun i hi => ?_⟩
  have hi2 : i < d.length := by simpa using hi
  obtain ⟨c0, c1, f0, f1⟩ := h.2 i hi2
  obtain ⟨e0, e1, _, _⟩ := h.2 k hk
  by_cases hik : k = i
  · subst hik
    have n1 : (⟨g, k * 2 + 1, none⟩ : Addr) ≠ ⟨g, k * 2, none⟩ := by simp
    have n2 : (⟨g, k * 2, none⟩ : Addr) ≠ ⟨g, k * 2 + 1, none⟩ := by simp
    refine ⟨?_, ?_, by simpa using f0, by simpa using f1⟩
    · rw [World.cell?_setCell_other _ _ _ _ n1, World.cell?_setCell_same _ _ _ c0]; simp
    · rw [World.cell?_setCell_same _ _ _ ((World.cell?_setCell_other _ _ _ _ n2).trans c1)]; simp
  · have n0 : k * 2 ≠ i * 2 := by omega
    have n1 : k * 2 + 1 ≠ i * 2 := by omega
    have n2 : k * 2 ≠ i * 2 + 1 := by omega
    have n3 : k * 2 + 1 ≠ i * 2 + 1 := by omega
    have m0 : i * 2 ≠ k * 2 := by omega
    have m1 : i * 2 ≠ k * 2 + 1 := by omega
    have m2 : i * 2 + 1 ≠ k * 2 := by omega
    have m3 : i * 2 + 1 ≠ k * 2 + 1 := by omega
    rw [List.getElem_set_ne hik]
    refine ⟨?_, ?_, ?_, ?_⟩
    · rw [World.cell?_setCell_other, World.cell?_setCell_other]; exact c0
      · simp
      · simp
    · rw [World.cell?_setCell_other, World.cell?_setCell_other]; exact c1
      · simp
      · simp
    · simpa using f0
    · simpa using f1
theorem below_sets {B b : Nat} {a : World} (hb : B ≤ b) : ∀ (vs : List Value) (o : Nat) (w : World), Below B a w → Below B a (w.setCells b o vs)
  | [], _, _, h => h
  | v :: t, o, w, h => below_sets hb t (o + 1) _ (h.setCell (p := ⟨b, o, none⟩) hb v)
theorem size_sets {b : Nat} : ∀ (vs : List Value) (o : Nat) (w : World), (w.setCells b o vs).heap.size = w.heap.size
  | [], _, _ => rfl
  | v :: t, o, w => by
    show ((w.setCell ⟨b, o, none⟩ v).setCells b (o + 1) t).heap.size = _
    rw [size_sets t]; simp [World.setCell]
theorem PB.cut {w : World} {g : Nat} {d : List Pr} (h : PB w g d) {k : Nat} (hk : k ≤ d.length) (L : List Value) : PB (w.setCells g (k * 2) L) g (d.take k) := by
  refine ⟨by rw [size_sets]; exact h.1, fun i hi => ?_⟩
  rw [List.length_take] at hi
  obtain ⟨c0, c1, f0, f1⟩ := h.2 i (by omega)
  rw [List.getElem_take]
  exact ⟨(World.cell?_setCells_out g L (k * 2) w ⟨g, i * 2, none⟩ (fun _ _ => Or.inl (by show i * 2 < k * 2; omega))).trans c0, (World.cell?_setCells_out g L (k * 2) w ⟨g, i * 2 + 1, none⟩ (fun _ _ => Or.inl (by show i * 2 + 1 < k * 2; omega))).trans c1,
    (World.frozen?_setCells ..).trans f0, (World.frozen?_setCells ..).trans f1⟩
/-- clear(s) at a slice of pairs. -/
theorem run_clearP (w : World) (ty : TypeId) (b o n c : Nat) (hn : 0 < n) (hc : ∀ j, j < n * 2 → (w.cell? ⟨b, o + j, none⟩).isSome = true) (hf : ∀ j, j < n * 2 → w.frozen? ⟨b, o + j, none⟩ = false) :
    ∃ L : List Value, L.length = n * 2 ∧ (Builtin.clear_ #[45] ty #[.slice (some ⟨b, o, none⟩) n c]).run Tryz.prog w = .ok (.tuple #[]) (w.setCells b o L) := by
  obtain ⟨L, hL⟩ : ∃ L, (Builtin.zeroCells #[.string ⟨#[]⟩, .string ⟨#[]⟩] n).toList = L := ⟨_, rfl⟩
  have hlen : L.length = n * 2 := by rw [← hL]; simp [Builtin.zeroCells]
  have hone : ∀ v ∈ L, v.oneCell' = true := by
    intro v hv
    rw [← hL] at hv
    simp only [Builtin.zeroCells, Array.toList_map, List.mem_map] at hv
    obtain ⟨i, _, rfl⟩ := hv
    rcases (by have : i % 2 < 2 := Nat.mod_lt _ (by omega); omega : i % 2 = 0 ∨ i % 2 = 1) with h | h <;> simp [h, Value.oneCell']
  have hst := run_storeCells_cells (P := Tryz.prog) b o L 0 w (by rw [hlen]; simpa using hc) (by rw [hlen]; simpa using hf) hone
  simp only [Nat.add_zero] at hst
  obtain ⟨m, rfl⟩ : ∃ m, n = m + 1 := ⟨n - 1, by omega⟩
  refine ⟨L, hlen, ?_⟩
  have hz : ∀ w, (zeroValue 49).run Tryz.prog w = .ok (.agg #[.string ⟨#[]⟩, .string ⟨#[]⟩]) w := fun w => by kernel_rfl
  simp [Builtin.clear_, run_underlying Tryz.underlying45, hz, Value.cells, hL, hst]
/-- What Compact hands back. -/
def CompRet (base g n cap : Nat) (l : List Pr) (w : World) (e : Ending) (w' : World) : Prop := ∃ (m : Nat) (d : List Pr), e = .returned (.slice (some ⟨g, 0, none⟩) m cap) ∧ d.length = m ∧ m ≤ n ∧ (∀ x ∈ d, x ∈ l) ∧ PB w' g d ∧ Below base w w'
set_option maxRecDepth 100000 in
set_option maxHeartbeats 2000000 in
theorem compactP_any (base g n cap : Nat) (l : List Pr) (w : World) (hn : l.length = n) (hn2 : n ≤ 1000) (hcap : n ≤ cap) (hb : base ≤ g) (hP : PB w g l) :
    Calls Tryz.prog 37 #[.slice (some ⟨g, 0, none⟩) n cap] w (CompRet base g n cap l w) := by
  have HN := Lib.hid hn
  have HP := Lib.hid hP
  clear hn hP
  go_enter Tryz.func37, Tryz.ntmps37
  by_cases h2 : n < 2
  · have e2 : decide ((n : Int) < 2) = true := by simp; omega
    go_wp2_with fail
    go_ret
    exact ⟨n, l, rfl, HN.out, Nat.le_refl _, fun _ h => h, HP.out, Below.refl _ _⟩
  · have e2 : decide ((n : Int) < 2) = false := by simp; omega
    go_wp2_with fail
    go_loopw [3] (fun i wr => ∃ (k q : Nat), 1 ≤ k ∧ k ≤ n ∧ i = .int .i64 k ∧ Hid (wr = w.drewN q)) (fun i _ => n - (intOf i).toNat)
    case atStart => exact ⟨1, 0, Nat.le_refl _, by omega, rfl, Lib.hid rfl⟩
    case round =>
      obtain ⟨k, q, hk1, hk, rfl, HW⟩ := hrel
      obtain rfl := HW.out
      by_cases hlt : k < n
      · have hkl : k < l.length := by rw [HN.out]; exact hlt
        obtain ⟨j, rfl⟩ : ∃ j, k = j + 1 := ⟨k - 1, by omega⟩
        have hjl : j < l.length := by omega
        obtain ⟨c0, c1, f0, f1⟩ := HP.out.2 (j + 1) hkl
        obtain ⟨d0, d1, _, _⟩ := HP.out.2 j hjl
        generalize l[j + 1] = x at *
        generalize l[j] = y at *
        obtain ⟨xp, xh⟩ := x
        obtain ⟨yp, yh⟩ := y
        simp only at c0 c1 d0 d1
        have ej : IntKind.i64.wrap (j : Int) = (j : Int) := IntWalk.i64_in _ (by omega)
        have b0 : (0 : Int) ≤ (j : Int) := by omega
        have b1 : (j : Int) < (n : Int) := by omega
        have b2 : (j : Int) + 1 < (n : Int) := by omega
        have b3 : (0 : Int) ≤ (j : Int) + 1 := by omega
        by_cases hp : xp.toList = yp.toList
        · by_cases hh : xh.toList = yh.toList
          · go_wp2_with fail
            go_quiet (fail)
            clear c0 c1 d0 d1 f0 f1 ej b0 b1 b2 b3
            go_wp2_with fail
            go_loopw [3, 5] (fun a b wr => ∃ (kk p : Nat) (d : List Pr), 1 ≤ kk ∧ kk ≤ j + (p + 1) ∧ j + 1 + (p + 1) ≤ n ∧ a = .int .i64 kk ∧ b = .int .i64 ((p + 1 : Nat) : Int) ∧ d.length = n ∧ Hid (∀ x ∈ d, x ∈ l) ∧ Hid (PB wr g d) ∧ Hid (Below base w wr)) (fun _ b _ => n - (intOf b).toNat)
            case atStart => exact ⟨j + 1, 0, l, by omega, by omega, by omega, by go_num, rfl, HN.out, Lib.hid (fun _ h => h), Lib.hid (HP.out.drewN _), Lib.hid (Stm.Below.drewN (Below.refl _ _) _)⟩
            case round =>
              obtain ⟨kk, p, d, hk2, hkk, hpn, rfl, rfl, hdl, HME, HPB, HBB⟩ := hrel
              have hD := HPB.out.1
              by_cases hlt2 : p + 1 < n - (j + 1)
              · have hi1 : j + 1 + (p + 1) < d.length := by omega
                have hi0 : j + 1 + p < d.length := by omega
                have hik : kk < d.length := by omega
                obtain ⟨c0, c1, _, _⟩ := HPB.out.2 _ hi1
                obtain ⟨d0, d1, _, _⟩ := HPB.out.2 _ hi0
                obtain ⟨g0, g1, f0, f1⟩ := HPB.out.2 _ hik
                rw [show (j + 1 + (p + 1)) * 2 = (j + 1) * 2 + (p + 1) * 2 by omega] at c0 c1
                rw [show (j + 1 + p) * 2 = (j + 1) * 2 + p * 2 by omega] at d0 d1
                have HX := Lib.hid (show d[j + 1 + (p + 1)] ∈ l from HME.out _ (List.getElem_mem hi1))
                generalize d[j + 1 + (p + 1)] = x2 at *
                generalize d[j + 1 + p] = y2 at *
                generalize hz2 : d[kk] = z2 at g0 g1
                clear hz2
                obtain ⟨xp2, xh2⟩ := x2
                obtain ⟨yp2, yh2⟩ := y2
                obtain ⟨zp2, zh2⟩ := z2
                simp only at c0 c1 d0 d1 g0 g1
                have ej : IntKind.i64.wrap (p : Int) = (p : Int) := IntWalk.i64_in _ (by omega)
                have b0 : (0 : Int) ≤ (p : Int) := by omega
                have b1 : (p : Int) < ((n - (j + 1) : Nat) : Int) := by omega
                have b2 : (p : Int) + 1 < ((n - (j + 1) : Nat) : Int) := by omega
                have b3 : (0 : Int) ≤ (p : Int) + 1 := by omega
                have b4 : (0 : Int) ≤ (kk : Int) := by omega
                have b5 : (kk : Int) < (n : Int) := by omega
                by_cases hp : xp2.toList = yp2.toList
                · by_cases hh : xh2.toList = yh2.toList
                  · go_wp2_with fail
                    go_quiet (fail)
                    clear c0 c1 d0 d1 g0 g1 f0 f1 ej b0 b1
                    go_wp2_with fail
                    go_roundw
                    case rel => exact ⟨kk, p + 1, d, hk2, by omega, by omega, rfl, by go_num, hdl, HME, Lib.hid (HPB.out.drewN _), Lib.hid (Stm.Below.drewN HBB.out _)⟩
                    case measure => simp [intOf]; omega
                  · have hh2 : ¬ yh2.toList = xh2.toList := fun e => hh e.symm
                    go_wp2_with fail
                    go_quiet (fail)
                    clear d0 d1 ej
                    have hcell := HPB.out.drewN nq
                    go_wp2_with fail
                    go_roundw
                    case rel =>
                      refine ⟨kk + 1, p + 1, d.set kk ⟨xp2, xh2⟩, by omega, by omega, by omega, by go_num, by go_num, by simpa using hdl, Lib.hid (fun x hx => ?_), Lib.hid (hcell.set kk hik xp2 xh2), Lib.hid (((Stm.Below.drewN HBB.out nq).setCell (p := ⟨g, kk * 2, none⟩) hb _).setCell (p := ⟨g, kk * 2 + 1, none⟩) hb _)⟩
                      rcases List.mem_or_eq_of_mem_set hx with h | rfl
                      · exact HME.out x h
                      · exact HX.out
                    case measure => simp [intOf]; omega
                · have hp2 : ¬ yp2.toList = xp2.toList := fun e => hp e.symm
                  go_wp2_with fail
                  go_quiet (fail)
                  clear d0 d1 ej
                  have hcell := HPB.out.drewN nq
                  go_wp2_with fail
                  go_roundw
                  case rel =>
                    refine ⟨kk + 1, p + 1, d.set kk ⟨xp2, xh2⟩, by omega, by omega, by omega, by go_num, by go_num, by simpa using hdl, Lib.hid (fun x hx => ?_), Lib.hid (hcell.set kk hik xp2 xh2), Lib.hid (((Stm.Below.drewN HBB.out nq).setCell (p := ⟨g, kk * 2, none⟩) hb _).setCell (p := ⟨g, kk * 2 + 1, none⟩) hb _)⟩
                    rcases List.mem_or_eq_of_mem_set hx with h | rfl
                    · exact HME.out x h
                    · exact HX.out
                  case measure => simp [intOf]; omega
              · have hpe : p + 1 = n - (j + 1) := by omega
                have hkn : kk < n := by omega
                obtain ⟨L, hL, hrun⟩ := run_clearP wr 0 g (kk * 2) (n - kk) (cap - kk) (by omega) (fun t ht => by
                  obtain ⟨c0, c1, _, _⟩ := HPB.out.2 (kk + t / 2) (by omega)
                  rcases (by omega : t = t / 2 * 2 ∨ t = t / 2 * 2 + 1) with h | h
                  · rw [show kk * 2 + t = (kk + t / 2) * 2 by omega, c0]; rfl
                  · rw [show kk * 2 + t = (kk + t / 2) * 2 + 1 by omega, c1]; rfl) (fun t ht => by
                  obtain ⟨_, _, f0, f1⟩ := HPB.out.2 (kk + t / 2) (by omega)
                  rcases (by omega : t = t / 2 * 2 ∨ t = t / 2 * 2 + 1) with h | h
                  · rw [show kk * 2 + t = (kk + t / 2) * 2 by omega]; exact f0
                  · rw [show kk * 2 + t = (kk + t / 2) * 2 + 1 by omega]; exact f1)
                have hkc : kk ≤ cap := by omega
                have b4 : (0 : Int) ≤ (kk : Int) := by omega
                have b5 : (kk : Int) ≤ (n : Int) := by omega
                have b6 : (kk : Int) ≤ (cap : Int) := by omega
                have hHL := Lib.hid hL
                clear hL
                go_wp2_with fail
                go_ret
                exact ⟨kk, d.take kk, rfl, by rw [List.length_take]; omega, by omega, fun x hx => HME.out x (List.mem_of_mem_take hx), PB.cut HPB.out (by omega) L, below_sets hb L _ _ HBB.out⟩
          · have hh2 : ¬ yh.toList = xh.toList := fun e => hh e.symm
            go_wp2_with fail
            go_quiet (fail)
            clear c0 c1 d0 d1 f0 f1 ej b0 b1
            go_wp2_with fail
            go_roundw
            case rel => exact ⟨j + 1 + 1, _, by omega, by omega, by go_num, Lib.hid (by first | rfl | rw [World.drewN_drewN])⟩
            case measure => simp [intOf]; omega
        · have hp2 : ¬ yp.toList = xp.toList := fun e => hp e.symm
          go_wp2_with fail
          go_quiet (fail)
          clear c0 c1 d0 d1 f0 f1 ej b0 b1
          go_wp2_with fail
          go_roundw
          case rel => exact ⟨j + 1 + 1, _, by omega, by omega, by go_num, Lib.hid (by first | rfl | rw [World.drewN_drewN])⟩
          case measure => simp [intOf]; omega
      · have hkn : k = n := by omega
        subst hkn
        go_wp2_with fail
        go_ret
        exact ⟨k, l, rfl, HN.out, Nat.le_refl _, fun _ h => h, HP.out.drewN q, Stm.Below.drewN (Below.refl _ _) q⟩
end Go.Proofs.YtmihbfmlnfhgcadGreatDoor.Cal
