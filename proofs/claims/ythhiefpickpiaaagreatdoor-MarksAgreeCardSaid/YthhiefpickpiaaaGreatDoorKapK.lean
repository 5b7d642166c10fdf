/-
  MARKS: calibrate.Kappa.
-/
import Derived.Test.YthhiefpickpiaaaGreatDoorKapS
import Derived.Test.YthhiefpickpiaaaGreatDoorCalK
import Derived.Test.YthhiefpickpiaaaGreatDoorCalS
import Derived.Deep.QuietTactic
import Derived.BigQuiet
import Derived.Deep.CutBlock
import Derived.Deep.DeepCutAuto
namespace Go.Proofs.YthhiefpickpiaaaGreatDoor.Cal
open Go.ChangeShapes Go.WideShapes Go.ChangeAt Go.RowKit Stm Key
open Go.Maps (Keyed string_keyed)
set_option linter.unusedVariables false

def kapT (l : List Mk) (a b : ByteArray) (F : Int → Int → Int) : Int := tot (papersL l) (fun p => gv l p a) (fun p => gv l p b) F fun _ => true
def kapN (l : List Mk) (a b : ByteArray) : Int := kapT l a b one_
def kapE (l : List Mk) (a b : ByteArray) : Int := upto (fun k => kapT l a b (fst_ k) * kapT l a b (snd_ k)) 11
/-- What Kappa says. -/
def kap (l : List Mk) (a b : ByteArray) : (Int × Int) × Int :=
  if eqB a b = true then ((0, 0), 6) else if kapN l a b = 0 then ((0, 0), 8) else if kapN l a b * kapN l a b = kapE l a b then ((1, 1), 0)
  else (lowZ (kapN l a b * kapT l a b eqv_ - kapE l a b) (kapN l a b * kapN l a b - kapE l a b), 0)
theorem tot_le {ks : List ByteArray} {f g : ByteArray → Option Int} {F G : Int → Int → Int} {d : ByteArray → Bool} (h : ∀ x y, F x y ≤ G x y) : tot ks f g F d ≤ tot ks f g G d := by
  induction ks with
  | nil => exact Int.le_refl _
  | cons s t ih =>
    rw [tot_cons, tot_cons]
    have hb : term f g F s ≤ term f g G s := by
      unfold term
      split
      · exact h _ _
      · exact Int.le_refl _
    split <;> omega
theorem kapE_le {l : List Mk} (hs : ∀ x ∈ l, 0 ≤ x.s ∧ x.s ≤ 10) (a b : ByteArray) : 0 ≤ kapE l a b ∧ kapE l a b ≤ kapN l a b * kapN l a b := by
  have h1 : ∀ k, 0 ≤ kapT l a b (fst_ k) := fun k => (tot_bd (fun x y => fst_bd k x y)).1
  have h2 : ∀ k, 0 ≤ kapT l a b (snd_ k) ∧ kapT l a b (snd_ k) ≤ kapN l a b := fun k => ⟨(tot_bd (fun x y => snd_bd k x y)).1, tot_le (fun x y => (snd_bd k x y).2)⟩
  refine ⟨upto_nonneg 11 (fun i _ => Int.mul_nonneg (h1 i) (h2 i).1), ?_⟩
  have h3 : kapE l a b ≤ upto (fun k => kapT l a b (fst_ k) * kapN l a b) 11 := upto_le 11 (fun i _ => Int.mul_le_mul_of_nonneg_left (h2 i).2 (h1 i))
  rw [upto_mul] at h3
  have h4 : upto (fun k => kapT l a b (fst_ k)) 11 = kapN l a b := upto_tot (fun s v hv => by
    obtain ⟨x, hx, _, rfl⟩ := gv_mem hv
    exact hs x hx)
  rw [h4] at h3
  exact h3
theorem zero11 (w : World) : World.rowIs (w.alloc (.cells #[.int .i64 0, .int .i64 0, .int .i64 0, .int .i64 0, .int .i64 0, .int .i64 0, .int .i64 0, .int .i64 0, .int .i64 0, .int .i64 0, .int .i64 0] 54)) w.heap.size 54 11 (fun _ => .int .i64 0) :=
  World.rowIs_alloc w #[.int .i64 0, .int .i64 0, .int .i64 0, .int .i64 0, .int .i64 0, .int .i64 0, .int .i64 0, .int .i64 0, .int .i64 0, .int .i64 0, .int .i64 0] 54 (fun _ => .int .i64 0) (fun i hi => by
    have : i = 0 ∨ i = 1 ∨ i = 2 ∨ i = 3 ∨ i = 4 ∨ i = 5 ∨ i = 6 ∨ i = 7 ∨ i = 8 ∨ i = 9 ∨ i = 10 := by simp at hi; omega
    rcases this with rfl | rfl | rfl | rfl | rfl | rfl | rfl | rfl | rfl | rfl | rfl <;> rfl)
set_option maxRecDepth 100000 in
theorem index11 (g : Nat → Int) (k : Nat) (hk : k < 11) (W : World) : (Instr.index 54 (.agg #[.int .i64 (g 0), .int .i64 (g 1), .int .i64 (g 2), .int .i64 (g 3), .int .i64 (g 4), .int .i64 (g 5), .int .i64 (g 6), .int .i64 (g 7), .int .i64 (g 8), .int .i64 (g 9), .int .i64 (g 10)]) (.int .i64 (k : Int))).run Tryz.prog W = .ok (.int .i64 (g k)) W := by
  have x0 : (Instr.index 54 (.agg #[.int .i64 (g 0), .int .i64 (g 1), .int .i64 (g 2), .int .i64 (g 3), .int .i64 (g 4), .int .i64 (g 5), .int .i64 (g 6), .int .i64 (g 7), .int .i64 (g 8), .int .i64 (g 9), .int .i64 (g 10)]) (.int .i64 ((0 : Nat) : Int))).run Tryz.prog W = .ok (.int .i64 (g 0)) W := by kernel_rfl
  have x1 : (Instr.index 54 (.agg #[.int .i64 (g 0), .int .i64 (g 1), .int .i64 (g 2), .int .i64 (g 3), .int .i64 (g 4), .int .i64 (g 5), .int .i64 (g 6), .int .i64 (g 7), .int .i64 (g 8), .int .i64 (g 9), .int .i64 (g 10)]) (.int .i64 ((1 : Nat) : Int))).run Tryz.prog W = .ok (.int .i64 (g 1)) W := by kernel_rfl
  have x2 : (Instr.index 54 (.agg #[.int .i64 (g 0), .int .i64 (g 1), .int .i64 (g 2), .int .i64 (g 3), .int .i64 (g 4), .int .i64 (g 5), .int .i64 (g 6), .int .i64 (g 7), .int .i64 (g 8), .int .i64 (g 9), .int .i64 (g 10)]) (.int .i64 ((2 : Nat) : Int))).run Tryz.prog W = .ok (.int .i64 (g 2)) W := by kernel_rfl
  have x3 : (Instr.index 54 (.agg #[.int .i64 (g 0), .int .i64 (g 1), .int .i64 (g 2), .int .i64 (g 3), .int .i64 (g 4), .int .i64 (g 5), .int .i64 (g 6), .int .i64 (g 7), .int .i64 (g 8), .int .i64 (g 9), .int .i64 (g 10)]) (.int .i64 ((3 : Nat) : Int))).run Tryz.prog W = .ok (.int .i64 (g 3)) W := by kernel_rfl
  have x4 : (Instr.index 54 (.agg #[.int .i64 (g 0), .int .i64 (g 1), .int .i64 (g 2), .int .i64 (g 3), .int .i64 (g 4), .int .i64 (g 5), .int .i64 (g 6), .int .i64 (g 7), .int .i64 (g 8), .int .i64 (g 9), .int .i64 (g 10)]) (.int .i64 ((4 : Nat) : Int))).run Tryz.prog W = .ok (.int .i64 (g 4)) W := by kernel_rfl
  have x5 : (Instr.index 54 (.agg #[.int .i64 (g 0), .int .i64 (g 1), .int .i64 (g 2), .int .i64 (g 3), .int .i64 (g 4), .int .i64 (g 5), .int .i64 (g 6), .int .i64 (g 7), .int .i64 (g 8), .int .i64 (g 9), .int .i64 (g 10)]) (.int .i64 ((5 : Nat) : Int))).run Tryz.prog W = .ok (.int .i64 (g 5)) W := by kernel_rfl
  have x6 : (Instr.index 54 (.agg #[.int .i64 (g 0), .int .i64 (g 1), .int .i64 (g 2), .int .i64 (g 3), .int .i64 (g 4), .int .i64 (g 5), .int .i64 (g 6), .int .i64 (g 7), .int .i64 (g 8), .int .i64 (g 9), .int .i64 (g 10)]) (.int .i64 ((6 : Nat) : Int))).run Tryz.prog W = .ok (.int .i64 (g 6)) W := by kernel_rfl
  have x7 : (Instr.index 54 (.agg #[.int .i64 (g 0), .int .i64 (g 1), .int .i64 (g 2), .int .i64 (g 3), .int .i64 (g 4), .int .i64 (g 5), .int .i64 (g 6), .int .i64 (g 7), .int .i64 (g 8), .int .i64 (g 9), .int .i64 (g 10)]) (.int .i64 ((7 : Nat) : Int))).run Tryz.prog W = .ok (.int .i64 (g 7)) W := by kernel_rfl
  have x8 : (Instr.index 54 (.agg #[.int .i64 (g 0), .int .i64 (g 1), .int .i64 (g 2), .int .i64 (g 3), .int .i64 (g 4), .int .i64 (g 5), .int .i64 (g 6), .int .i64 (g 7), .int .i64 (g 8), .int .i64 (g 9), .int .i64 (g 10)]) (.int .i64 ((8 : Nat) : Int))).run Tryz.prog W = .ok (.int .i64 (g 8)) W := by kernel_rfl
  have x9 : (Instr.index 54 (.agg #[.int .i64 (g 0), .int .i64 (g 1), .int .i64 (g 2), .int .i64 (g 3), .int .i64 (g 4), .int .i64 (g 5), .int .i64 (g 6), .int .i64 (g 7), .int .i64 (g 8), .int .i64 (g 9), .int .i64 (g 10)]) (.int .i64 ((9 : Nat) : Int))).run Tryz.prog W = .ok (.int .i64 (g 9)) W := by kernel_rfl
  have x10 : (Instr.index 54 (.agg #[.int .i64 (g 0), .int .i64 (g 1), .int .i64 (g 2), .int .i64 (g 3), .int .i64 (g 4), .int .i64 (g 5), .int .i64 (g 6), .int .i64 (g 7), .int .i64 (g 8), .int .i64 (g 9), .int .i64 (g 10)]) (.int .i64 ((10 : Nat) : Int))).run Tryz.prog W = .ok (.int .i64 (g 10)) W := by kernel_rfl
  have : k = 0 ∨ k = 1 ∨ k = 2 ∨ k = 3 ∨ k = 4 ∨ k = 5 ∨ k = 6 ∨ k = 7 ∨ k = 8 ∨ k = 9 ∨ k = 10 := by omega
  rcases this with rfl | rfl | rfl | rfl | rfl | rfl | rfl | rfl | rfl | rfl | rfl <;> assumption
/-- What is done: what isn't left. -/
def dn (left : Lit → Bool) : ByteArray → Bool := fun s => !left (.string s.data.toList)
/-- What Kappa hands back. -/
def KapRet (r : Int) (l : List Mk) (a b : ByteArray) (w : World) (e : Ending) (w' : World) : Prop := Below w.heap.size w w' ∧
  ((r ≠ 0 ∧ e = .returned (.tuple #[.agg #[.int .i64 0, .int .i64 0], .int .i64 r])) ∨ (r = 0 ∧ e = .returned (.tuple #[.agg #[.int .i64 (kap l a b).1.1, .int .i64 (kap l a b).1.2], .int .i64 (kap l a b).2])))
theorem blk_fracK {w : World} {B : Nat} (h : Blk w B 30 #[.int .i64 0, .int .i64 0]) : w.frozen? ⟨B, 0, none⟩ = false ∧ w.frozen? ⟨B, 1, none⟩ = false ∧ w.cell? ⟨B, 0, none⟩ = some (.int .i64 0) ∧ w.cell? ⟨B, 1, none⟩ = some (.int .i64 0) :=
  ⟨h.frozen 0, h.frozen 1, h.cell 0 _ rfl, h.cell 1 _ rfl⟩
set_option maxRecDepth 100000 in
set_option maxHeartbeats 8000000 in
theorem kappa_walk (A : Option Addr) (n cap : Nat) (l : List Mk) (sa sb : ByteArray) (w : World) (hn : l.length = n) (hn2 : n ≤ 256) (hM : ML w A l) (r : Int) (hr : Hid (chkE ⟨#[]⟩ ⟨#[]⟩ 0 l = r)) :
    Calls Tryz.prog 7 #[.slice A n cap, .string sa, .string sb] w (KapRet r l sa sb w) := by
  have HN := Lib.hid hn
  have HM := Lib.hid hM
  have B0 := Lib.hid (show Below w.heap.size w (w.alloc (.cells #[.int .i64 0, .int .i64 0] 30)) from (Below.refl _ _).alloc (Nat.le_refl _) _)
  have HCK := Lib.hid (checkmarks_walk A n cap l _ hn (by omega) (hM.below B0.out) r hr)
  clear hn hM
  go_enter Tryz.func7, Tryz.ntmps7
  go_wp2_with fail
  refine (HCK.out).mono ?_; rintro e w1 ⟨rfl, hb1⟩
  have R1 := Lib.hid ((Blk.new w 30 #[.int .i64 0, .int .i64 0]).below hb1 (by simp))
  have B1 := Lib.hid (B0.out.trans (hb1.mono B0.out.size))
  have M1 := Lib.hid (HM.out.below B1.out)
  have FIN : Hid (∀ (W : World) (a b : Int), Below w.heap.size w W → Below w.heap.size w ((W.setCell ⟨w.heap.size, 0, none⟩ (.int .i64 a)).setCell ⟨w.heap.size, 1, none⟩ (.int .i64 b))) := Lib.hid (fun W a b h => (h.setCell (p := ⟨w.heap.size, 0, none⟩) (Nat.le_refl _) _).setCell (p := ⟨w.heap.size, 1, none⟩) (Nat.le_refl _) _)
  clear hb1 HCK B0 HM
  by_cases hr0 : r = 0
  rotate_left
  · have H0 := Lib.hid hr0
    have e1 : (r != 0) = true := by simpa using hr0
    obtain ⟨f0, f1, q0, q1⟩ := blk_fracK R1.out
    clear hr0
    go_wp2_with fail
    exact bodyPost_ret (v := .tuple #[.agg #[.int .i64 0, .int .i64 0], .int .i64 r]) (by simp only [results, Tryz.results7]; go_simp) rfl ⟨FIN.out _ _ _ B1.out, Or.inl ⟨H0.out, rfl⟩⟩
  · subst hr0
    obtain ⟨bq, hbq⟩ : ∃ b, eqB sa sb = b := ⟨_, rfl⟩
    cases bq
    rotate_left
    · obtain rfl := (eqB_iff _ _).1 hbq
      obtain ⟨f0, f1, q0, q1⟩ := blk_fracK R1.out
      have HK := Lib.hid (show kap l sa sa = ((0, 0), 6) by unfold kap; rw [if_pos (eqB_self _)])
      clear hbq
      go_wp2_with fail
      exact bodyPost_ret (v := .tuple #[.agg #[.int .i64 0, .int .i64 0], .int .i64 6]) (by simp only [results, Tryz.results7]; go_simp) rfl ⟨FIN.out _ _ _ B1.out, Or.inr ⟨rfl, by rw [HK.out]⟩⟩
    · have e1 : (sa.toList == sb.toList) = false := hbq
      have e2 : ¬ sa.toList = sb.toList := by simpa using e1
      have e3 : ¬ sb.toList = sa.toList := fun e => e2 e.symm
      have HKE := Lib.hid (show kap l sa sb = if kapN l sa sb = 0 then ((0, 0), 8) else if kapN l sa sb * kapN l sa sb = kapE l sa sb then ((1, 1), 0) else (lowZ (kapN l sa sb * kapT l sa sb eqv_ - kapE l sa sb) (kapN l sa sb * kapN l sa sb - kapE l sa sb), 0) by unfold kap; rw [hbq]; simp)
      have HSC := Lib.hid (show ∀ x ∈ l, 0 ≤ x.s ∧ x.s ≤ 10 from fun x hx => (chk_scores l _ _ _ hr.out x hx).2)
      have HUN := Lib.hid (chk_uniq hr.out)
      clear hbq
      go_wp2_with fail
      refine (scoresby_walk A n cap l sa w1 HN.out (by omega) M1.out).mono ?_; rintro e w2 ⟨MA, cA, rfl, hMA, hcA, hoA, hb2⟩
      have B2 := Lib.hid (B1.out.trans (hb2.mono B1.out.size))
      have R2 := Lib.hid (R1.out.below hb2 R1.out.lt)
      have M2 := Lib.hid (M1.out.below hb2)
      have OA := Lib.hid hoA
      clear hoA hb2 B1 R1 M1 e1 e2 e3
      go_wp2_with fail
      refine (scoresby_walk A n cap l sb w2 HN.out (by omega) M2.out).mono ?_; rintro e w3 ⟨MB, cB, rfl, hMB, hcB, hoB, hb3⟩
      have B3 := Lib.hid (B2.out.trans (hb3.mono B2.out.size))
      have R3 := Lib.hid (R2.out.below hb3 R2.out.lt)
      have OA3 := Lib.hid (OA.out.below hb3)
      have hneM : MA ≠ MB := by have := OA.out.lt; omega
      have hMA3 := OA3.out.lt
      have OB3 := Lib.hid hoB
      clear hoB hb3 B2 R2 M2 OA
      have OA4 := OA3.out.below (show Below w3.heap.size w3 ((w3.alloc (.cells #[.int .i64 0, .int .i64 0, .int .i64 0, .int .i64 0, .int .i64 0, .int .i64 0, .int .i64 0, .int .i64 0, .int .i64 0, .int .i64 0, .int .i64 0] 54)).alloc (.cells #[.int .i64 0, .int .i64 0, .int .i64 0, .int .i64 0, .int .i64 0, .int .i64 0, .int .i64 0, .int .i64 0, .int .i64 0, .int .i64 0, .int .i64 0] 54)) from ((Below.refl _ _).alloc (Nat.le_refl _) _).alloc (by simp) _)
      have GA0 := Lib.hid (show World.rowIs ((w3.alloc (.cells #[.int .i64 0, .int .i64 0, .int .i64 0, .int .i64 0, .int .i64 0, .int .i64 0, .int .i64 0, .int .i64 0, .int .i64 0, .int .i64 0, .int .i64 0] 54)).alloc (.cells #[.int .i64 0, .int .i64 0, .int .i64 0, .int .i64 0, .int .i64 0, .int .i64 0, .int .i64 0, .int .i64 0, .int .i64 0, .int .i64 0, .int .i64 0] 54)) w3.heap.size 54 11 (fun _ => .int .i64 0) from (zero11 w3).alloc _)
      have GB0 := Lib.hid (show World.rowIs ((w3.alloc (.cells #[.int .i64 0, .int .i64 0, .int .i64 0, .int .i64 0, .int .i64 0, .int .i64 0, .int .i64 0, .int .i64 0, .int .i64 0, .int .i64 0, .int .i64 0] 54)).alloc (.cells #[.int .i64 0, .int .i64 0, .int .i64 0, .int .i64 0, .int .i64 0, .int .i64 0, .int .i64 0, .int .i64 0, .int .i64 0, .int .i64 0, .int .i64 0] 54)) (w3.heap.size + 1) 54 11 (fun _ => .int .i64 0) from (by
        have := zero11 (w3.alloc (.cells #[.int .i64 0, .int .i64 0, .int .i64 0, .int .i64 0, .int .i64 0, .int .i64 0, .int .i64 0, .int .i64 0, .int .i64 0, .int .i64 0, .int .i64 0] 54))
        have e : (w3.alloc (.cells #[.int .i64 0, .int .i64 0, .int .i64 0, .int .i64 0, .int .i64 0, .int .i64 0, .int .i64 0, .int .i64 0, .int .i64 0, .int .i64 0, .int .i64 0] 54)).heap.size = w3.heap.size + 1 := by simp
        rw [e] at this; exact this))
      have W40 := Lib.hid (show Below w3.heap.size w3 ((w3.alloc (.cells #[.int .i64 0, .int .i64 0, .int .i64 0, .int .i64 0, .int .i64 0, .int .i64 0, .int .i64 0, .int .i64 0, .int .i64 0, .int .i64 0, .int .i64 0] 54)).alloc (.cells #[.int .i64 0, .int .i64 0, .int .i64 0, .int .i64 0, .int .i64 0, .int .i64 0, .int .i64 0, .int .i64 0, .int .i64 0, .int .i64 0, .int .i64 0] 54)) from ((Below.refl _ _).alloc (Nat.le_refl _) _).alloc (by simp) _)
      obtain ⟨D, hown, hat⟩ := OA4
      have HO := Lib.hid hown
      have HAT := Lib.hid hat
      clear hown hat
      have hsz4 : ((w3.alloc (.cells #[.int .i64 0, .int .i64 0, .int .i64 0, .int .i64 0, .int .i64 0, .int .i64 0, .int .i64 0, .int .i64 0, .int .i64 0, .int .i64 0, .int .i64 0] 54)).alloc (.cells #[.int .i64 0, .int .i64 0, .int .i64 0, .int .i64 0, .int .i64 0, .int .i64 0, .int .i64 0, .int .i64 0, .int .i64 0, .int .i64 0, .int .i64 0] 54)).heap.size = w3.heap.size + 2 := by simp
      have HS4 := Lib.hid hsz4
      clear hsz4
      go_upto_region 9 with fail
      generalize ((w3.alloc (.cells #[.int .i64 0, .int .i64 0, .int .i64 0, .int .i64 0, .int .i64 0, .int .i64 0, .int .i64 0, .int .i64 0, .int .i64 0, .int .i64 0, .int .i64 0] 54)).alloc (.cells #[.int .i64 0, .int .i64 0, .int .i64 0, .int .i64 0, .int .i64 0, .int .i64 0, .int .i64 0, .int .i64 0, .int .i64 0, .int .i64 0, .int .i64 0] 54)) = w4 at *
      go_wp2_with (at_range; refine wpList_range_own _ rfl _ 46 rfl 9 3 keyLaw Tryz.underlying46 (plainElem Tryz.prog 3) MA cA D rfl HO.out ?_; intro w0 hrg0 hg0 hs0; (have RG0 := Lib.hid hrg0); (have G0 := Lib.hid hg0); clear hrg0 hg0 hs0)
      go_frame
      obtain ⟨ks, hks⟩ : ∃ ks, papersL l = ks := ⟨_, rfl⟩
      obtain ⟨fA, hfA⟩ : ∃ f, byF l sa = f := ⟨_, rfl⟩
      obtain ⟨fB, hfB⟩ : ∃ f, byF l sb = f := ⟨_, rfl⟩
      have HGA := Lib.hid (fun (s : ByteArray) => show fA s = gv l s sa by rw [← hfA]; exact byF_gv HUN.out s sa)
      have HGB := Lib.hid (fun (s : ByteArray) => show fB s = gv l s sb by rw [← hfB]; exact byF_gv HUN.out s sb)
      have HMEM := Lib.hid (show ∀ x ∈ l, x.p ∈ ks from fun x hx => hks ▸ pk_mem l x hx)
      have HND := Lib.hid (show ks.Nodup from hks ▸ dedB_nodup _)
      have HKL := Lib.hid (show ks.length ≤ 256 from hks ▸ Nat.le_trans (dedB_length _) (by rw [List.length_map, HN.out]; exact hn2))
      rw [hfB] at OB3
      rw [hfA] at HAT
      have HKS := Lib.hid hks
      clear hks hfA hfB OA3
      go_loopw [11, 12] (fun a b wr => ∃ (left : Lit → Bool) (cnt : Nat) (N S : Int), a = .int .i64 N ∧ b = .int .i64 S ∧ Hid (tot ks fA fB one_ (dn left) = N) ∧ Hid (tot ks fA fB eqv_ (dn left) = S) ∧
        Hid (wr.ranges Tryz.prog 9 (plainElem Tryz.prog 3) MA w4.heap.size cA D left cnt) ∧ Hid (∀ z, left z = true → Maps.has D z = true) ∧
        Hid (wr.rowIs w3.heap.size 54 11 (fun k => .int .i64 (tot ks fA fB (fst_ k) (dn left)))) ∧ Hid (wr.rowIs (w3.heap.size + 1) 54 11 (fun k => .int .i64 (tot ks fA fB (snd_ k) (dn left)))) ∧ Hid (Below w3.heap.size w3 wr))
        (fun _ _ wr => wr.rangeLeft MA w4.heap.size)
      case atStart =>
        have hz : ∀ F, tot ks fA fB F (dn (Maps.has D)) = 0 := fun F => tot_zero (fun s _ hd => by
          unfold dn at hd
          rw [(HAT.out s).2] at hd
          unfold term
          cases h : fA s with
          | none => rfl
          | some v => rw [h] at hd; cases hd)
        refine ⟨Maps.has D, _, 0, 0, rfl, rfl, Lib.hid (hz _), Lib.hid (hz _), RG0, Lib.hid (fun _ h => h), Lib.hid ?_, Lib.hid ?_, Lib.hid (W40.out.trans (grownB G0.out (by simp) (by rw [HS4.out]; omega)))⟩
        · exact (GA0.out.of_block (G0.out.block _ GA0.out.lt (by simp))).congr (fun k _ => by rw [hz])
        · exact (GB0.out.of_block (G0.out.block _ GB0.out.lt (by simp))).congr (fun k _ => by rw [hz])
      case round =>
        clear GA0 GB0 W40 RG0 G0 HO
        obtain ⟨left, cnt, N, S, rfl, rfl, HNN, HSS, HRG, HLS, HRA, HRB, HB⟩ := hrel
        have hN := tot_bd (ks := ks) (f := fA) (g := fB) (d := dn left) one_bd
        have hS := tot_bd (ks := ks) (f := fA) (g := fB) (d := dn left) eqv_bd
        rw [HNN.out] at hN
        rw [HSS.out] at hS
        have hkl := HKL.out
        have hN0 : 0 ≤ N := hN.1
        have hN1 : N ≤ 256 := by omega
        have hS0 : 0 ≤ S := hS.1
        have hS1 : S ≤ 256 := by omega
        clear hN hS hkl
        go_wp2_with (at_next; refine wpList_next_si _ rfl _ rfl MA w4.heap.size cA D left cnt rfl HRG.out ?_ ?_)
        · intro hc0 hl0
          have HD := Lib.hid (show ∀ F, tot ks fA fB F (dn left) = kapT l sa sb F from fun F => by
            unfold kapT
            rw [HKS.out, show fA = (fun p => gv l p sa) from funext HGA.out, show fB = (fun p => gv l p sb) from funext HGB.out]
            exact tot_same (fun s _ => by unfold dn; rw [hl0]; rfl))
          obtain ⟨GA, hGA⟩ : ∃ GA : Nat → Int, (fun k => kapT l sa sb (fst_ k)) = GA := ⟨_, rfl⟩
          obtain ⟨GB, hGB⟩ : ∃ GB : Nat → Int, (fun k => kapT l sa sb (snd_ k)) = GB := ⟨_, rfl⟩
          have RA1 := Lib.hid (HRA.out.congr (g := fun k => .int .i64 (GA k)) (fun k _ => by rw [HD.out, ← hGA]))
          have RB1 := Lib.hid (HRB.out.congr (g := fun k => .int .i64 (GB k)) (fun k _ => by rw [HD.out, ← hGB]))
          have hNk : kapN l sa sb = N := (HD.out one_).symm.trans HNN.out
          have hSk : kapT l sa sb eqv_ = S := (HD.out eqv_).symm.trans HSS.out
          have hE := kapE_le HSC.out sa sb
          have HEU := Lib.hid (show kapE l sa sb = upto (fun k => GA k * GB k) 11 by rw [← hGA, ← hGB]; rfl)
          have HGAB := Lib.hid (show ∀ k, 0 ≤ GA k ∧ GA k ≤ N from fun k => by
            rw [← hGA, ← hNk]
            exact ⟨(tot_bd (fun x y => fst_bd k x y)).1, tot_le (fun x y => (fst_bd k x y).2)⟩)
          have HGBB := Lib.hid (show ∀ k, 0 ≤ GB k ∧ GB k ≤ N from fun k => by
            rw [← hGB, ← hNk]
            exact ⟨(tot_bd (fun x y => snd_bd k x y)).1, tot_le (fun x y => (snd_bd k x y).2)⟩)
          have HK2 := HKE.out
          rw [hNk, hSk] at HK2
          rw [hNk] at hE
          obtain ⟨E, hEe⟩ : ∃ E, kapE l sa sb = E := ⟨_, rfl⟩
          rw [hEe] at HK2 hE HEU
          have HK := Lib.hid HK2
          obtain ⟨hE0, hE1⟩ := hE
          have BW := Lib.hid (B3.out.trans (HB.out.mono B3.out.size))
          have RF := Lib.hid (R3.out.below HB.out R3.out.lt)
          obtain ⟨f0, f1, q0, q1⟩ := blk_fracK RF.out
          clear hc0 hl0 HD hGA hGB HRA HRB HNN HSS hNk hSk HK2 hEe HRG HLS
          by_cases hN00 : N = 0
          · subst hN00
            have HKK := Lib.hid (show kap l sa sb = ((0, 0), 8) by rw [HK.out, if_pos rfl])
            clear HK
            go_wp2_with fail
            exact bodyPost_ret (v := .tuple #[.agg #[.int .i64 0, .int .i64 0], .int .i64 8]) (by simp only [results, Tryz.results7]; go_simp) rfl ⟨FIN.out _ _ _ BW.out, Or.inr ⟨rfl, by rw [HKK.out]⟩⟩
          · have eN : (N == 0) = false := by simpa using hN00
            have HN0 := Lib.hid hN00
            have a0 := RA1.out.cell (i := 0) (by omega)
            have a1 := RA1.out.cell (i := 1) (by omega)
            have a2 := RA1.out.cell (i := 2) (by omega)
            have a3 := RA1.out.cell (i := 3) (by omega)
            have a4 := RA1.out.cell (i := 4) (by omega)
            have a5 := RA1.out.cell (i := 5) (by omega)
            have a6 := RA1.out.cell (i := 6) (by omega)
            have a7 := RA1.out.cell (i := 7) (by omega)
            have a8 := RA1.out.cell (i := 8) (by omega)
            have a9 := RA1.out.cell (i := 9) (by omega)
            have a10 := RA1.out.cell (i := 10) (by omega)
            clear hN00
            have HIX := Lib.hid (fun (k : Nat) (hk : k < 11) (W : World) => index11 GA k hk W)
            have hlb := RB1.out.lt
            go_wp2_with fail
            go_loop [19, 74] (fun e i => ∃ (k : Nat) (t : Int), k ≤ 11 ∧ i = .int .i64 k ∧ e = .int .i64 t ∧ Hid (upto (fun j => GA j * GB j) k = t) ∧ 0 ≤ t ∧ t ≤ k * 65536) (fun _ i => 11 - (intOf i).toNat)
            case atStart => exact ⟨0, 0, by omega, rfl, rfl, Lib.hid rfl, by omega, by omega⟩
            case round =>
              clear a0 a1 a2 a3 a4 a5 a6 a7 a8 a9 a10
              obtain ⟨k, t, hk, rfl, rfl, HT, ht0, ht1⟩ := hrel
              by_cases hlt : k < 11
              · have hix := HIX.out k hlt
                have qb := RB1.out.cell hlt
                have hga := HGAB.out k
                have hgb := HGBB.out k
                have HNX := Lib.hid (show upto (fun j => GA j * GB j) (k + 1) = t + GA k * GB k by rw [← HT.out]; rfl)
                obtain ⟨x, hx⟩ : ∃ x, GA k = x := ⟨_, rfl⟩
                rw [hx] at hix hga HNX
                obtain ⟨y, hy⟩ : ∃ y, GB k = y := ⟨_, rfl⟩
                rw [hy] at qb hgb HNX
                have p0 : 0 ≤ x * y := Int.mul_nonneg hga.1 hgb.1
                have p1 : x * y ≤ 256 * 256 := Int.mul_le_mul (by omega) (by omega) hgb.1 (by omega)
                have p2 : x * y ≤ 65536 := by omega
                have b0 : (0 : Int) ≤ (k : Int) := by omega
                have b1 : (k : Int) < 11 := by omega
                obtain ⟨x0, x1⟩ := hga
                obtain ⟨y0, y1⟩ := hgb
                clear hx hy p1
                go_wp2_with fail
                go_round
                case rel => exact ⟨k + 1, t + x * y, by omega, by go_num, rfl, HNX, by omega, by push_cast; omega⟩
                case measure => simp [intOf]; omega
              · obtain rfl : k = 11 := by omega
                have HTE := Lib.hid (show t = E by rw [HEU.out, ← HT.out])
                obtain rfl := HTE.out
                have p0 : 0 ≤ N * N := Int.mul_nonneg hN0 hN0
                have p1 : N * N ≤ 256 * 256 := Int.mul_le_mul hN1 hN1 hN0 (by omega)
                have p2 : 0 ≤ N * S := Int.mul_nonneg hN0 hS0
                have p3 : N * S ≤ 256 * 256 := Int.mul_le_mul hN1 hS1 hS0 (by omega)
                have p4 : N * N ≤ 65536 := by omega
                have p5 : N * S ≤ 65536 := by omega
                clear p1 p3 HIX
                by_cases hNE : N * N = t
                · have e0 : (N * N == t) = true := by simpa using hNE
                  have HKK := Lib.hid (show kap l sa sb = ((1, 1), 0) by rw [HK.out, if_neg HN0.out, if_pos hNE])
                  clear HK hNE
                  go_wp2_with fail
                  exact bodyPost_ret (v := .tuple #[.agg #[.int .i64 1, .int .i64 1], .int .i64 0]) (by simp only [results, Tryz.results7]; go_simp) rfl ⟨FIN.out _ _ _ BW.out, Or.inr ⟨rfl, by rw [HKK.out]⟩⟩
                · have e0 : (N * N == t) = false := by simpa using hNE
                  have HKK := Lib.hid (show kap l sa sb = (lowZ (N * S - t) (N * N - t), 0) by rw [HK.out, if_neg HN0.out, if_neg hNE])
                  have hNE2 : 1 ≤ N * N - t := by omega
                  have HLZ := Lib.hid (fun W => lowZ_any (N * S - t) (N * N - t) W (by omega) (by omega) hNE2 (by omega))
                  obtain ⟨u, hu⟩ : ∃ u, lowZ (N * S - t) (N * N - t) = u := ⟨_, rfl⟩
                  rw [hu] at HKK HLZ
                  clear HK hNE hu
                  go_wp2_with fail
                  refine (HLZ.out _).mono ?_; rintro e w6 ⟨rfl, hb6⟩
                  have BW6 := Lib.hid (BW.out.trans (hb6.mono BW.out.size))
                  have RF6 := Lib.hid (RF.out.below hb6 RF.out.lt)
                  clear f0 f1 q0 q1
                  obtain ⟨f0, f1, q0, q1⟩ := blk_fracK RF6.out
                  clear hb6
                  go_wp2_with fail
                  exact bodyPost_ret (v := .tuple #[.agg #[.int .i64 u.1, .int .i64 u.2], .int .i64 0]) (by simp only [results, Tryz.results7]; go_simp) rfl ⟨FIN.out _ _ _ BW6.out, Or.inr ⟨rfl, by rw [HKK.out]⟩⟩
        · intro x c w5 cnt1 hxs hlx hxat hrg1 hlt hg1 hs1 hen
          have hfx : fA x = some c := by
            have h1 := HLS.out _ hlx
            rw [(HAT.out x).2] at h1
            cases h : fA x with
            | none => rw [h] at h1; cases h1
            | some v =>
              have h2 := (HAT.out x).1 (.lit (.int .i64 0))
              rw [hxat, h] at h2
              rw [(Lit.int.inj (DataW.lit.inj h2)).2]
          obtain ⟨m, hm, hmp, hms⟩ := gv_mem ((HGA.out x).symm.trans hfx)
          have hc := HSC.out m hm
          rw [hms] at hc
          have hxk : x ∈ ks := hmp ▸ HMEM.out m hm
          have hxs2 : x.size ≤ maxLen := hxs
          obtain ⟨cn, rfl⟩ : ∃ cn : Nat, c = cn := ⟨c.toNat, by omega⟩
          have hcn : cn < 11 := by omega
          have HST := Lib.hid (fun F => tot_step HND.out (f := fA) (g := fB) (F := F) (d := dn left) (e := dn fun z => left z && !z.sameKey (.string x.data.toList)) hxk (by unfold dn; rw [hlx]; rfl) (by unfold dn; simp [Lit.sameKey]) (fun s _ hne => by
            unfold dn
            have : (Lit.string s.data.toList).sameKey (.string x.data.toList) = false := by
              simp only [Lit.sameKey, beq_eq_false_iff_ne, ne_eq]
              exact fun e => hne (ba_ext e)
            show (!(left (.string s.data.toList) && !(Lit.string s.data.toList).sameKey (.string x.data.toList))) = !left (.string s.data.toList)
            rw [this]; simp))
          have RG1 := Lib.hid hrg1
          have HLT := Lib.hid (show cnt1 < cnt from hlt)
          have LS1 := Lib.hid (show ∀ z, (fun z => left z && !z.sameKey (.string x.data.toList)) z = true → Maps.has D z = true from fun z hz => HLS.out z (by simp only [Bool.and_eq_true] at hz; exact hz.1))
          have RA1 := Lib.hid (HRA.out.of_block (hg1.block _ HRA.out.lt (by rw [HS4.out]; intro e; have := Option.some.inj e; omega)))
          have RB1 := Lib.hid (HRB.out.of_block (hg1.block _ HRB.out.lt (by rw [HS4.out]; intro e; have := Option.some.inj e; omega)))
          have B5 := Lib.hid (HB.out.grown hg1 HB.out.size (fun j hj => by have := Option.some.inj hj; rw [HS4.out] at this; omega))
          have OB5 := OB3.out.below B5.out
          obtain ⟨DB, hownB, hatB⟩ := OB5
          have HOB := Lib.hid hownB
          have HKEY := Lib.hid (show keyOf Tryz.prog 9 (.string x) = some (.string x.data.toList) from Go.WideMaps.keyOf_string_mk Tryz.underlying9 hxs2)
          have hB1 := (hatB x).1 (.lit (.int .i64 0))
          have hB2 := (hatB x).2
          have HMS := Lib.hid (show (∀ F, term fA fB F x = match fB x with | some y => F cn y | none => 0) from fun F => by unfold term; rw [hfx]; cases fB x <;> rfl)
          clear hfx hm hmp hms hc hxk hxs hxs2 hlx hxat hrg1 hlt hg1 hs1 HLS HRA HRB HB hownB hatB
          cases hfb : fB x with
          | none =>
            rw [hfb] at hB1 hB2
            have HBA := Lib.hid hB1
            have HBH := Lib.hid (show Maps.has DB (.string x.data.toList) = false from hB2)
            have HT0 := Lib.hid (show ∀ F, tot ks fA fB F (dn fun z => left z && !z.sameKey (.string x.data.toList)) = tot ks fA fB F (dn left) from fun F => by
              have h0 : term fA fB F x = 0 := by rw [HMS.out F, hfb]
              rw [HST.out F, h0, Int.add_zero])
            clear hB1 hB2 hfb HST HMS
            go_wp2_with (at_lookup; refine wpList_lookup_own_ok_int _ rfl _ _ 46 rfl 9 3 .i64 keyLaw Tryz.underlying46 Tryz.underlying3 (zeroI _) MB cB DB rfl HOB.out (.string x) _ rfl HKEY.out ?_; intro c2 hat2 hwc2; (rw [HBA.out] at hat2); obtain rfl := (Lit.int.inj (DataW.lit.inj hat2)).2; rw [HBH.out]; clear hat2 hwc2)
            go_roundw
            case rel => exact ⟨_, cnt1, N, S, rfl, rfl, Lib.hid (by rw [HT0.out]; exact HNN.out), Lib.hid (by rw [HT0.out]; exact HSS.out), RG1, LS1, Lib.hid (RA1.out.congr (fun k _ => by rw [HT0.out])), Lib.hid (RB1.out.congr (fun k _ => by rw [HT0.out])), B5⟩
            case measure => rw [RG1.out.left_eq, HRG.out.left_eq]; exact HLT.out
          | some y =>
            rw [hfb] at hB1 hB2
            obtain ⟨m2, hm2, _, hms2⟩ := gv_mem ((HGB.out x).symm.trans hfb)
            have hy := HSC.out m2 hm2
            rw [hms2] at hy
            obtain ⟨yn, rfl⟩ : ∃ yn : Nat, y = yn := ⟨y.toNat, by omega⟩
            have hyn : yn < 11 := by omega
            have HBA := Lib.hid hB1
            have HBH := Lib.hid (show Maps.has DB (.string x.data.toList) = true from hB2)
            have HT1 := Lib.hid (show ∀ F, tot ks fA fB F (dn fun z => left z && !z.sameKey (.string x.data.toList)) = tot ks fA fB F (dn left) + F cn yn from fun F => by
              have h0 : term fA fB F x = F cn yn := by rw [HMS.out F, hfb]
              rw [HST.out F, h0])
            have qa := RA1.out.cell hcn
            have fa := RA1.out.frozen cn
            have la := RA1.out.lt
            have qb := RB1.out.cell hyn
            have fb := RB1.out.frozen yn
            have lb := RB1.out.lt
            have ta := tot_bd (ks := ks) (f := fA) (g := fB) (d := dn left) (fst_bd cn)
            have tb := tot_bd (ks := ks) (f := fA) (g := fB) (d := dn left) (snd_bd yn)
            obtain ⟨TA, hTA⟩ : ∃ TA, tot ks fA fB (fst_ cn) (dn left) = TA := ⟨_, rfl⟩
            obtain ⟨TB, hTB⟩ : ∃ TB, tot ks fA fB (snd_ yn) (dn left) = TB := ⟨_, rfl⟩
            rw [hTA] at qa ta
            rw [hTB] at qb tb
            have hkl := HKL.out
            have ta0 := ta.1
            have ta1 : TA ≤ 256 := by omega
            have tb0 := tb.1
            have tb1 : TB ≤ 256 := by omega
            have HTA := Lib.hid hTA
            have HTB := Lib.hid hTB
            have i0 : (0 : Int) ≤ (cn : Int) := by omega
            have i1 : (cn : Int) < 11 := by omega
            have i2 : (0 : Int) ≤ (yn : Int) := by omega
            have i3 : (yn : Int) < 11 := by omega
            have RA2 := Lib.hid (show World.rowIs ((w5.setCell ⟨w3.heap.size, cn, none⟩ (.int .i64 (TA + 1))).setCell ⟨w3.heap.size + 1, yn, none⟩ (.int .i64 (TB + 1))) w3.heap.size 54 11 (fun k => .int .i64 (tot ks fA fB (fst_ k) (dn fun z => left z && !z.sameKey (.string x.data.toList)))) from
              ((RA1.out.set cn _).setOther (by show w3.heap.size ≠ w3.heap.size + 1; omega) _).congr (fun k hk => by
                rw [HT1.out]
                by_cases h : k = cn
                · subst h; rw [if_pos rfl, HTA.out]; simp [fst_]
                · rw [if_neg h]; unfold fst_; rw [if_neg (by omega), Int.add_zero]))
            have RB2 := Lib.hid (show World.rowIs ((w5.setCell ⟨w3.heap.size, cn, none⟩ (.int .i64 (TA + 1))).setCell ⟨w3.heap.size + 1, yn, none⟩ (.int .i64 (TB + 1))) (w3.heap.size + 1) 54 11 (fun k => .int .i64 (tot ks fA fB (snd_ k) (dn fun z => left z && !z.sameKey (.string x.data.toList)))) from
              ((RB1.out.setOther (by show w3.heap.size + 1 ≠ w3.heap.size; omega) _).set yn _).congr (fun k hk => by
                rw [HT1.out]
                by_cases h : k = yn
                · subst h; rw [if_pos rfl, HTB.out]; simp [snd_]
                · rw [if_neg h]; unfold snd_; rw [if_neg (by omega), Int.add_zero]))
            have RG2 := Lib.hid (show World.ranges ((w5.setCell ⟨w3.heap.size, cn, none⟩ (.int .i64 (TA + 1))).setCell ⟨w3.heap.size + 1, yn, none⟩ (.int .i64 (TB + 1))) Tryz.prog 9 (plainElem Tryz.prog 3) MA w4.heap.size cA D (fun z => left z && !z.sameKey (.string x.data.toList)) cnt1 from
              (RG1.out.kept (grownBy_set _ _ _) (by intro e; have := Option.some.inj e; change MA = w3.heap.size at this; omega) (by rw [HS4.out]; intro e; have := Option.some.inj e; change w3.heap.size + 2 = w3.heap.size at this; omega)).kept (grownBy_set _ _ _) (by intro e; have := Option.some.inj e; change MA = w3.heap.size + 1 at this; omega) (by rw [HS4.out]; intro e; have := Option.some.inj e; change w3.heap.size + 2 = w3.heap.size + 1 at this; omega))
            have B6 := Lib.hid (show Below w3.heap.size w3 ((w5.setCell ⟨w3.heap.size, cn, none⟩ (.int .i64 (TA + 1))).setCell ⟨w3.heap.size + 1, yn, none⟩ (.int .i64 (TB + 1))) from
              (B5.out.setCell (p := ⟨w3.heap.size, cn, none⟩) (Nat.le_refl _) _).setCell (p := ⟨w3.heap.size + 1, yn, none⟩) (Nat.le_succ _) _)
            clear hB1 hB2 hfb HST HMS hm2 hms2 hy RA1 RB1 RG1 B5 ta tb hTA hTB hkl
            by_cases hceq : cn = yn
            · subst hceq
              have d1 : ((cn : Int) == (cn : Int)) = true := by simp
              go_wp2_with (at_lookup; refine wpList_lookup_own_ok_int _ rfl _ _ 46 rfl 9 3 .i64 keyLaw Tryz.underlying46 Tryz.underlying3 (zeroI _) MB cB DB rfl HOB.out (.string x) _ rfl HKEY.out ?_; intro c2 hat2 hwc2; (rw [HBA.out] at hat2); obtain rfl := (Lit.int.inj (DataW.lit.inj hat2)).2; rw [HBH.out]; clear hat2 hwc2)
              go_roundw
              case rel => exact ⟨_, cnt1, N + 1, S + 1, rfl, rfl, Lib.hid (by rw [HT1.out, HNN.out]; rfl), Lib.hid (by rw [HT1.out, HSS.out]; unfold eqv_; rw [if_pos rfl]), RG2, LS1, RA2, RB2, B6⟩
              case measure => rw [RG2.out.left_eq, HRG.out.left_eq]; exact HLT.out
            · have d1 : ((cn : Int) == (yn : Int)) = false := by simp; omega
              have HNE := Lib.hid hceq
              go_wp2_with (at_lookup; refine wpList_lookup_own_ok_int _ rfl _ _ 46 rfl 9 3 .i64 keyLaw Tryz.underlying46 Tryz.underlying3 (zeroI _) MB cB DB rfl HOB.out (.string x) _ rfl HKEY.out ?_; intro c2 hat2 hwc2; (rw [HBA.out] at hat2); obtain rfl := (Lit.int.inj (DataW.lit.inj hat2)).2; rw [HBH.out]; clear hat2 hwc2)
              go_roundw
              case rel => exact ⟨_, cnt1, N + 1, S, rfl, rfl, Lib.hid (by rw [HT1.out, HNN.out]; rfl), Lib.hid (by rw [HT1.out, HSS.out]; unfold eqv_; rw [if_neg (by have := HNE.out; omega), Int.add_zero]), RG2, LS1, RA2, RB2, B6⟩
              case measure => rw [RG2.out.left_eq, HRG.out.left_eq]; exact HLT.out
end Go.Proofs.YthhiefpickpiaaaGreatDoor.Cal
