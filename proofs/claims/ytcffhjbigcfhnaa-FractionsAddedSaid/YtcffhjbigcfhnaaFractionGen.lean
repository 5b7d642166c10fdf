/-
  THE CONTRACT OF THE STREAM's 'Fraction': some two numbers, from -1 to MaxDen + 1.
-/
import Derived.Test.YtcffhjbigcfhnaaAdd
import Derived.Deep.DeepCutAuto
namespace Go.Proofs.Ytcffhjbigcfhnaa.Frac
open Go.ChangeShapes Go.WideShapes Go.ChangeAt Go.RowKit Stm
set_option linter.unusedVariables false

/-- A returned fraction whose two numbers are small. -/
def FracRet (B k : Nat) (w : World) (e : Ending) (w' : World) : Prop :=
  ∃ n d : Int, -1 ≤ n ∧ n ≤ 1000000001 ∧ -1 ≤ d ∧ d ≤ 1000000001 ∧ e = .returned (.agg #[.int .i64 n, .int .i64 d]) ∧ Gr B w w' ∧ Strm w' B (k + 6)

/-- Two cells of block F hold some numbers, and may be written. -/
def Cells2 (F : Nat) (n d : Int) (w : World) : Prop :=
  w.cell? ⟨F, 0, none⟩ = some (.int .i64 n) ∧ w.cell? ⟨F, 1, none⟩ = some (.int .i64 d) ∧ w.frozen? ⟨F, 0, none⟩ = false ∧ w.frozen? ⟨F, 1, none⟩ = false ∧ F < w.heap.size

theorem Cells2.only {F B : Nat} {n d : Int} {w w' : World} (h : Cells2 F n d w) (ho : Only B w w') (hF : F ≠ B) : Cells2 F n d w' := by
  obtain ⟨h1, h2, h3, h4, h5⟩ := h
  exact ⟨(ho.cell _ _ hF).trans h1, (ho.cell _ _ hF).trans h2, (ho.frozen _ _ hF).trans h3, (ho.frozen _ _ hF).trans h4, by rw [ho.size]; exact h5⟩
theorem Cells2.below {F : Nat} {n d : Int} {w w' : World} (h : Cells2 F n d w) (ho : Below w.heap.size w w') : Cells2 F n d w' := by
  obtain ⟨h1, h2, h3, h4, h5⟩ := h
  exact ⟨(ho.cell (p := ⟨F, 0, none⟩) h5).trans h1, (ho.cell (p := ⟨F, 1, none⟩) h5).trans h2, (ho.frozen (p := ⟨F, 0, none⟩) h5).trans h3, (ho.frozen (p := ⟨F, 1, none⟩) h5).trans h4, Nat.lt_of_lt_of_le h5 ho.size⟩
theorem Cells2.alloc {F : Nat} {n d : Int} {w : World} (h : Cells2 F n d w) (o : Obj) : Cells2 F n d (w.alloc o) := h.below ((Below.refl _ _).alloc (Nat.le_refl _) _)
theorem Cells2.drewN {F : Nat} {n d : Int} {w : World} (h : Cells2 F n d w) (m : Nat) : Cells2 F n d (w.drewN m) := h.below (Stm.Below.drewN (Below.refl _ _) _)
theorem Cells2.new (w : World) (n d : Int) (t : TypeId) : Cells2 w.heap.size n d (w.alloc (.cells #[.int .i64 n, .int .i64 d] t)) := by
  refine ⟨?_, ?_, ?_, ?_, ?_⟩ <;> first | go_cell | simp
theorem Cells2.stored {F : Nat} {n d n' d' : Int} {w : World} (h : Cells2 F n d w) : Cells2 F n' d' ((w.setCell ⟨F, 0, none⟩ (.int .i64 n')).setCell ⟨F, 1, none⟩ (.int .i64 d')) := by
  obtain ⟨h1, h2, h3, h4, h5⟩ := h
  refine ⟨?_, ?_, ?_, ?_, ?_⟩ <;> first | go_cell | simpa using h5
theorem Cells2.setOther {F G o : Nat} {n d : Int} {w : World} (h : Cells2 F n d w) (hG : G ≠ F) (u : Value) : Cells2 F n d (w.setCell ⟨G, o, none⟩ u) := by
  obtain ⟨h1, h2, h3, h4, h5⟩ := h
  have e := Below.heap_setCell w ⟨G, o, none⟩ u F (fun e => hG e.symm)
  exact ⟨(World.cell?_of_block (a := ⟨F, 0, none⟩) e).trans h1, (World.cell?_of_block (a := ⟨F, 1, none⟩) e).trans h2, (World.frozen?_of_block (a := ⟨F, 0, none⟩) e).trans h3, (World.frozen?_of_block (a := ⟨F, 1, none⟩) e).trans h4, by simpa using h5⟩

theorem frac_quo (n g : Nat) (hg : 0 < g) (hn : n ≤ 1000000000) : (0 : Int) ≤ (n : Int) / (g : Int) ∧ (n : Int) / (g : Int) ≤ 1000000000 := by
  have h : n / g ≤ n := Nat.div_le_self _ _
  have e : (n : Int) / (g : Int) = ((n / g : Nat) : Int) := rfl
  rw [e]
  exact ⟨Int.natCast_nonneg _, by omega⟩

/-- Where the ways of Fraction meet: the fraction lies in block F. -/
def FJ (w : World) (B k F : Nat) (wx : World) : Prop :=
  ∃ n d : Int, -1 ≤ n ∧ n ≤ 1000000001 ∧ -1 ≤ d ∧ d ≤ 1000000001 ∧ Cells2 F n d wx ∧ Cells2 w.heap.size 0 0 wx ∧ Gr B w wx ∧ Strm wx B k

set_option maxHeartbeats 2000000 in
theorem fraction_any (B k : Nat) (w : World) (hs : Strm w B k) (hk : k ≤ 1000000000) :
    Calls Try.prog 4 #[.pointer (some ⟨B, 0, none⟩)] w (FracRet B k w) := by
  have hB := hs.lt
  go_enter Try.func4, Try.ntmps4
  go_wp2_with fail
  refine (pick_any B k (w.heap.size + 1) _ [0, 1, 2, 3, 500000000, 1000000000] _ _ _ (hs.keep (by go_grown)) (by omega) (by omega) (by simpa using heap_alloc_new (w.alloc _) _) (by simp) (by simp)).mono ?_
  rintro e w1 ⟨n, hn, rfl, ho1, hs1⟩
  have r1 : Cells2 w.heap.size 0 0 w1 := ((Cells2.new w 0 0 _).alloc _).only ho1 (by omega)
  have z1 : w.heap.size < w1.heap.size := r1.2.2.2.2
  have g1 : Gr B w w1 := (((Gr.refl B w).alloc _).alloc _).trans (Gr.only ho1)
  have hn' : 0 ≤ n ∧ n ≤ 1000000000 := by simp at hn; omega
  clear hn ho1
  have R1 := Lib.hid r1; clear r1
  go_wp2_with fail
  refine (pick_any B (k + 1) w1.heap.size _ [1, 2, 3, 7, 999999999, 1000000000] _ _ _ (hs1.keep (by go_grown)) (by omega) (by omega) (heap_alloc_new w1 _) (by simp) (by simp)).mono ?_
  rintro e w2 ⟨d, hd, rfl, ho2, hs2⟩
  have r2 : Cells2 w.heap.size 0 0 w2 := (R1.out.alloc _).only ho2 (by omega)
  have z2 : w.heap.size < w2.heap.size := r2.2.2.2.2
  have g2 : Gr B w w2 := (g1.alloc _).trans (Gr.only ho2)
  have hd' : 1 ≤ d ∧ d ≤ 1000000000 := by simp at hd; omega
  clear hd ho2 g1 hs1 R1
  have R2 := Lib.hid r2; clear r2
  obtain ⟨n, rfl⟩ := Int.eq_ofNat_of_zero_le hn'.1
  obtain ⟨d, rfl⟩ := Int.eq_ofNat_of_zero_le (show 0 ≤ d by omega)
  go_wp2_with fail
  refine (flip_any B (k + 1 + 1) 8 _ (hs2.keep (by go_grown)) (by omega) (by omega) (by omega)).mono ?_
  rintro e w3 ⟨f, rfl, ho3, hs3⟩
  have r3 : Cells2 w.heap.size 0 0 w3 := (R2.out.alloc _).only ho3 (by omega)
  have c3 : Cells2 w2.heap.size n d w3 := (Cells2.new w2 n d _).only ho3 (by omega)
  have g3 : Gr B w w3 := (g2.alloc _).trans (Gr.only ho3)
  clear ho3 g2 hs2 R2 z1
  have R3 := Lib.hid r3; clear r3
  have G3 := Lib.hid g3; clear g3
  obtain ⟨x0, x1, x2, x3, z3⟩ := c3
  have C3 : Hid (Cells2 w2.heap.size n d w3) := Lib.hid ⟨x0, x1, x2, x3, z3⟩
  go_upto_if 16 with fail
  go_cut [] (fun wx => FJ w B (k + 3) w2.heap.size wx)
  case first =>
    cases f with
    | true =>
      go_wp2_with fail
      go_meet
      exact ⟨n, d, by omega, by omega, by omega, by omega, C3.out, R3.out, G3.out, hs3⟩
    | false =>
      simp only [Bool.not_false]
      go_wp2_with fail
      go_quiet (fail)
      go_wp2_with fail
      go_loopw [5, 6] (fun a b wr => ∃ x y m : Nat, a = .int .i64 x ∧ b = .int .i64 y ∧ Hid (wr = w3.drewN m) ∧ Hid (Nat.gcd x y = Nat.gcd n d) ∧ x ≤ 1000000000 ∧ y ≤ 1000000000) (fun _ b _ => (intOf b).toNat)
      case atStart => exact ⟨n, d, _, rfl, rfl, Lib.hid rfl, Lib.hid rfl, by omega, by omega⟩
      case round =>
        obtain ⟨x, y, m, rfl, rfl, HW, HG, hx, hy⟩ := hrel
        obtain rfl := HW.out
        by_cases hy0 : y = 0
        · subst hy0
          obtain rfl : x = Nat.gcd n d := by have := HG.out; rwa [Nat.gcd_zero_right] at this
          have hgp : (1 : Int) ≤ (Nat.gcd n d : Int) := by have := Nat.gcd_pos_of_pos_right n (show 0 < d by omega); omega
          have hgz : ((Nat.gcd n d : Int) == 0) = false := by simp; omega
          have hmx : max (Nat.gcd n d : Int) 1 = Nat.gcd n d := by omega
          have q1 := frac_quo n (Nat.gcd n d) (by omega) (by omega)
          have q2 := frac_quo d (Nat.gcd n d) (by omega) (by omega)
          have HQ1 := Lib.hid q1
          have HQ2 := Lib.hid q2
          go_wp2_with fail
          go_region
          all_goals
            go_wp2_with fail
            go_meet
            refine ⟨_, _, by omega, by omega, by omega, by omega, (C3.out.drewN _).stored, ((R3.out.drewN _).setOther (by omega) _).setOther (by omega) _, ((G3.out.drewN _).setCell (by simp; omega) _).setCell (by simp; omega) _, hs3.keep ?_⟩
            exact ((Stm.Below.drewN (Below.refl _ _) _).setCell (by simp; omega) _).setCell (by simp; omega) _
        · have hyb : ((y : Int) != 0) = true := by simp; omega
          have hyp : (1 : Int) ≤ y := by omega
          have hm1 : x % y < y := Nat.mod_lt _ (by omega)
          have HG2 : Hid (Nat.gcd y (x % y) = Nat.gcd n d) := Lib.hid (by rw [gcd_step x y hy0]; exact HG.out)
          go_wp2_with fail
          go_quiet (fail)
          go_wp2_with fail
          go_roundw
          case rel => exact ⟨y, x % y, _, rfl, by go_num, Lib.hid (by rw [World.drewN_drewN]), HG2, hy, by omega⟩
          case measure => simp [intOf]; omega
  case rest =>
    obtain ⟨n', d', q1, q2, q3, q4, cf, cr, gg, hs'⟩ := hcut
    have R4 := Lib.hid cr; clear cr
    have G4 := Lib.hid gg; clear gg
    have z4 := cf.2.2.2.2
    have C4 := Lib.hid cf; clear cf
    clear x0 x1 x2 x3 R3 G3 C3 hs3 hs
    go_wp2_with fail
    refine (flip_any B (k + 3) 12 _ hs' (by omega) (by omega) (by omega)).mono ?_
    rintro e w4 ⟨f, rfl, ho4, hs4⟩
    have C5 := Lib.hid (C4.out.only ho4 (by omega))
    have R5 := Lib.hid (R4.out.only ho4 (by omega))
    have G5 := Lib.hid (G4.out.trans (Gr.only ho4))
    have z5 := C5.out.2.2.2.2
    clear C4 R4 G4 ho4 hs'
    cases f with
    | false =>
      obtain ⟨x0, x1, x2, x3, _⟩ := C5.out
      obtain ⟨y0, y1, y2, y3, y4⟩ := R5.out
      go_wp2_with fail
      refine bodyPost_ret (v := .agg #[.int .i64 n', .int .i64 d']) (by simp only [results, Try.results4]; go_simp) rfl ⟨n', d', q1, q2, q3, q4, rfl, ?_, ?_⟩
      · exact (G5.out.setCell (by simp) _).setCell (by simp) _
      · exact (hs4.keep (((Below.refl _ _).setCell (by simp; omega) _).setCell (by simp; omega) _)).mono (by omega)
    | true =>
      go_wp2_with fail
      refine (pick_any B (k + 3 + 1) w4.heap.size _ [-1, 1000000001, 2] _ _ _ (hs4.keep (by go_grown)) (by omega) (by omega) (heap_alloc_new w4 _) (by simp) (by simp)).mono ?_
      rintro e w5 ⟨n, hn, rfl, ho5, hs5⟩
      have C6 := Lib.hid ((C5.out.alloc _).only ho5 (by omega))
      have R6 := Lib.hid ((R5.out.alloc _).only ho5 (by omega))
      have G6 := Lib.hid ((G5.out.alloc _).trans (Gr.only ho5))
      have z6 := C6.out.2.2.2.2
      have hn1 : -1 ≤ n ∧ n ≤ 1000000001 := by simp at hn; omega
      clear C5 R5 G5 ho5 hs4 hn
      go_wp2_with fail
      refine (pick_any B (k + 3 + 1 + 1) w5.heap.size _ [0, -1, 1000000001, 4] _ _ _ (hs5.keep (by go_grown)) (by omega) (by omega) (heap_alloc_new w5 _) (by simp) (by simp)).mono ?_
      rintro e w6 ⟨d, hd, rfl, ho6, hs6⟩
      have C7 := (C6.out.alloc _).only ho6 (by omega)
      have R7 := (R6.out.alloc _).only ho6 (by omega)
      have G7 := Lib.hid ((G6.out.alloc _).trans (Gr.only ho6))
      have hd1 : -1 ≤ d ∧ d ≤ 1000000001 := by simp at hd; omega
      clear C6 R6 G6 ho6 hs5 hd
      obtain ⟨x0, x1, x2, x3, z7⟩ := C7
      obtain ⟨y0, y1, y2, y3, y4⟩ := R7
      go_wp2_with fail
      refine bodyPost_ret (v := .agg #[.int .i64 n, .int .i64 d]) (by simp only [results, Try.results4]; go_simp) rfl ⟨n, d, by omega, by omega, by omega, by omega, rfl, ?_, ?_⟩
      · exact (((G7.out.setCell (by simp; omega) _).setCell (by simp; omega) _).setCell (by simp) _).setCell (by simp) _
      · exact (hs6.keep (((((Below.refl _ _).setCell (by simp; omega) _).setCell (by simp; omega) _).setCell (by simp; omega) _).setCell (by simp; omega) _)).mono (by omega)
end Go.Proofs.Ytcffhjbigcfhnaa.Frac
