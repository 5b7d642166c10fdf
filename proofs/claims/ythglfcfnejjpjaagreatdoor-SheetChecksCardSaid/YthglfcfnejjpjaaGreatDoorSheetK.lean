/-
  THE CONTRACTS OF answerTo, keys (WITH ITS CLOSURES), missing, Missing AND Differ.
-/
import Derived.Test.YthglfcfnejjpjaaGreatDoorSheetC
namespace Go.Proofs.YthglfcfnejjpjaaGreatDoor.Rev
open Go.ChangeShapes Go.WideShapes Go.ChangeAt Go.RowKit Stm Key
set_option linter.unusedVariables false

def zA : An := ⟨⟨#[]⟩, 0, ⟨#[]⟩, ⟨#[]⟩⟩
def aVal (a : An) : Value := .agg #[.string a.q, .int .i64 a.n, .string a.o, .string a.w]
theorem toQ_step {l : List An} {k : ByteArray} {j : Nat} (h : j < l.length) (hp : eqS l[j].q k = false) : toQ (l.drop j) k = toQ (l.drop (j + 1)) k := by
  unfold toQ; rw [drop_cons' l j h, List.find?_cons, hp]
theorem toQ_hit {l : List An} {k : ByteArray} {j : Nat} (h : j < l.length) (hp : eqS l[j].q k = true) : toQ (l.drop j) k = some l[j] := by
  unfold toQ; rw [drop_cons' l j h, List.find?_cons, hp]
def IdaRet (l : List An) (k : ByteArray) (w : World) (e : Ending) (w' : World) : Prop := ∃ r : Int, e = .returned (.int .i64 r) ∧ ((∃ (i : Nat) (h : i < l.length), r = i ∧ toQ l k = some l[i]) ∨ (r = -1 ∧ toQ l k = none)) ∧ Below w.heap.size w w'
theorem fn46 (C : Nat) (k : ByteArray) (w : World) (hC : w.cell? ⟨C, 0, none⟩ = some (.string k)) (hlt : C < w.heap.size) (W : World) (hW : Below w.heap.size w W) (a : An) :
    Calls Tryz.prog 46 #[.agg #[.string a.q, .int .i64 a.n, .string a.o, .string a.w], .pointer (some ⟨C, 0, none⟩)] W fun e w' => e = .returned (.bool (eqS a.q k)) ∧ Below W.heap.size W w' := by
  have hc := (hW.cell (p := ⟨C, 0, none⟩) hlt).trans hC
  have hCW : C < W.heap.size := Nat.lt_of_lt_of_le hlt hW.size
  obtain ⟨b, hb⟩ : ∃ b, eqS a.q k = b := ⟨_, rfl⟩
  rw [hb]
  unfold eqS at hb
  have HB := Lib.hid ((Below.refl W.heap.size W).alloc (Nat.le_refl _) (.cells #[.string a.q, .int .i64 a.n, .string a.o, .string a.w] 51))
  clear hC hlt hW
  go_enter Tryz.func46, Tryz.ntmps46
  cases b
  all_goals
    go_wp2_with fail
    go_ret
    exact ⟨rfl, HB.out⟩

set_option maxRecDepth 100000 in
set_option maxHeartbeats 4000000 in
theorem indexa_walk (C : Nat) (k : ByteArray) (A : Option Addr) (n c : Nat) (l : List An) (w : World) (hC : w.cell? ⟨C, 0, none⟩ = some (.string k)) (hlt : C < w.heap.size) (hq : AL w A l) (hn : l.length = n) (h8 : n ≤ 1000) :
    Calls Tryz.prog 45 #[.slice A n c, .func (.func 46) #[] #[.pointer (some ⟨C, 0, none⟩)]] w (IdaRet l k w) := by
  have HF := Lib.hid (fn46 C k w hC hlt)
  have HT : Hid (∀ W, Below w.heap.size w W → AL W A l) := Lib.hid fun W hW => hq.below hW
  have HK := Lib.hid hn
  clear hC hq hn hlt
  go_enter Tryz.func45, Tryz.ntmps45
  go_wp2_with fail
  go_loopw [8] (fun i wr => ∃ j : Nat, j ≤ n ∧ i = .int .i64 j ∧ Hid (toQ (l.drop j) k = toQ l k) ∧ Hid (Below w.heap.size w wr)) (fun i _ => n - (intOf i).toNat)
  case atStart => exact ⟨0, Nat.zero_le _, rfl, Lib.hid rfl, Lib.hid (Below.refl _ _)⟩
  case round =>
    obtain ⟨j, hj, rfl, HM, HB⟩ := hrel
    by_cases hlt : j < n
    · have hkl : j < l.length := by rw [HK.out]; exact hlt
      obtain ⟨g, hA, hgl, hc⟩ := (HT.out _ HB.out).2 (by omega)
      subst hA
      obtain ⟨c0, c1, c2, c3⟩ := hc j hkl
      have HNX : Hid (eqS l[j].q k = false → toQ (l.drop (j + 1)) k = toQ l k) := Lib.hid fun h => (toQ_step hkl h).symm.trans HM.out
      have HHIT : Hid (eqS l[j].q k = true → ∃ (i : Nat) (h : i < l.length), (j : Int) = i ∧ toQ l k = some l[i]) := Lib.hid fun h => ⟨j, hkl, rfl, HM.out.symm.trans (toQ_hit hkl h)⟩
      generalize l[j] = x at *
      have HW := Lib.hid (fun W hW => HF.out W hW x)
      obtain ⟨b, hb⟩ : ∃ b, eqS x.q k = b := ⟨_, rfl⟩
      rw [hb] at HNX HHIT HW
      have a0 : (0 : Int) ≤ (j : Int) := by omega
      have a1 : (j : Int) < (n : Int) := by omega
      clear hc hb
      go_wp2_with fail
      refine (HW.out _ (by first | exact HB.out | exact HB.out.drew)).mono ?_; rintro e w1 ⟨rfl, hb1⟩
      have HB1 : Hid (Below w.heap.size w w1) := Lib.hid (by first | exact HB.out.trans (hb1.mono HB.out.size) | exact HB.out.drew.trans (hb1.mono HB.out.size))
      clear hb1
      cases b
      · have HM2 := Lib.hid (HNX.out rfl)
        go_wp2_with fail
        go_round
        case rel => exact ⟨j + 1, by omega, by go_num, HM2, HB1⟩
        case measure => simp [intOf]; omega
      · have HE := Lib.hid (HHIT.out rfl)
        go_wp2_with fail
        go_ret
        exact ⟨_, rfl, Or.inl HE.out, HB1.out⟩
    · have hkn : j = n := by omega
      subst hkn
      have HE : Hid (toQ l k = none) := Lib.hid (by have := HM.out; rw [List.drop_of_length_le (by rw [HK.out]; exact Nat.le_refl _)] at this; exact this.symm)
      go_wp2_with fail
      go_ret
      exact ⟨_, rfl, Or.inr ⟨rfl, HE.out⟩, HB.out⟩

/-- What answerTo hands back. -/
def ToRet (x : Option An) (w : World) (e : Ending) (w' : World) : Prop := e = .returned (.tuple #[.agg #[.string (x.getD zA).q, .int .i64 (x.getD zA).n, .string (x.getD zA).o, .string (x.getD zA).w], .bool x.isSome]) ∧ Below w.heap.size w w'
set_option maxRecDepth 100000 in
set_option maxHeartbeats 4000000 in
theorem answerto_walk (k : ByteArray) (A : Option Addr) (n c : Nat) (l : List An) (w : World) (hq : AL w A l) (hn : l.length = n) (h8 : n ≤ 1000) :
    Calls Tryz.prog 26 #[.slice A n c, .string k] w (ToRet (toQ l k) w) := by
  have hb0 : Below w.heap.size w ((w.alloc (.cells #[.string k] 9)).alloc (.cells #[.string ⟨#[]⟩, .int .i64 0, .string ⟨#[]⟩, .string ⟨#[]⟩] 51)) := ((Below.refl _ _).alloc (Nat.le_refl _) _).alloc (by simp) _
  have H := Lib.hid (indexa_walk w.heap.size k A n c l ((w.alloc (.cells #[.string k] 9)).alloc (.cells #[.string ⟨#[]⟩, .int .i64 0, .string ⟨#[]⟩, .string ⟨#[]⟩] 51)) (((Blk.new w 9 #[.string k]).alloc _).cell 0 _ rfl) (by simp; omega) (hq.below hb0) hn h8)
  have HB := Lib.hid hb0
  have KA := Lib.hid (show Blk ((w.alloc (.cells #[.string k] 9)).alloc (.cells #[.string ⟨#[]⟩, .int .i64 0, .string ⟨#[]⟩, .string ⟨#[]⟩] 51)) (w.heap.size + 1) 51 #[.string ⟨#[]⟩, .int .i64 0, .string ⟨#[]⟩, .string ⟨#[]⟩] from by have h := Blk.new (w.alloc (.cells #[.string k] 9)) 51 #[.string ⟨#[]⟩, .int .i64 0, .string ⟨#[]⟩, .string ⟨#[]⟩]; simp only [World.size_alloc] at h; exact h)
  have HQ := Lib.hid (fun (W : World) (hW : Below w.heap.size w W) => hq.below hW)
  have HN := Lib.hid hn
  clear hq hn hb0
  go_enter Tryz.func26, Tryz.ntmps26
  go_wp2_with fail
  refine (H.out).mono ?_; rintro e w1 ⟨r, rfl, hor, hB⟩
  have HB1 := Lib.hid (HB.out.trans (hB.mono HB.out.size))
  have K1 := Lib.hid (KA.out.below hB (by simp))
  have x0 := K1.out.cell 0 _ rfl
  have x1 := K1.out.cell 1 _ rfl
  have x2 := K1.out.cell 2 _ rfl
  have x3 := K1.out.cell 3 _ rfl
  have f0 := K1.out.frozen 0
  have f1 := K1.out.frozen 1
  have f2 := K1.out.frozen 2
  have f3 := K1.out.frozen 3
  clear hB
  have HZ := Lib.hid (fun (b : Bool) (x : An) (hx : toQ l k = if b then some x else none) (hz : b = false → x = zA) => show ToRet (toQ l k) w (.returned (.tuple #[.agg #[.string x.q, .int .i64 x.n, .string x.o, .string x.w], .bool b])) ((((w1.setCell ⟨w.heap.size + 1, 0, none⟩ (.string x.q)).setCell ⟨w.heap.size + 1, 1, none⟩ (.int .i64 x.n)).setCell ⟨w.heap.size + 1, 2, none⟩ (.string x.o)).setCell ⟨w.heap.size + 1, 3, none⟩ (.string x.w)) from by
    rw [hx]
    refine ⟨?_, (((HB1.out.setCell (p := ⟨w.heap.size + 1, 0, none⟩) (by simp) _).setCell (p := ⟨w.heap.size + 1, 1, none⟩) (by simp) _).setCell (p := ⟨w.heap.size + 1, 2, none⟩) (by simp) _).setCell (p := ⟨w.heap.size + 1, 3, none⟩) (by simp) _⟩
    cases b
    · rw [hz rfl]; rfl
    · rfl)
  have KX := Lib.hid (fun (x : An) => show Blk ((((w1.setCell ⟨w.heap.size + 1, 0, none⟩ (.string x.q)).setCell ⟨w.heap.size + 1, 1, none⟩ (.int .i64 x.n)).setCell ⟨w.heap.size + 1, 2, none⟩ (.string x.o)).setCell ⟨w.heap.size + 1, 3, none⟩ (.string x.w)) (w.heap.size + 1) 51 #[.string x.q, .int .i64 x.n, .string x.o, .string x.w] from (((K1.out.set_ 0 (.string x.q)).set_ 1 (.int .i64 x.n)).set_ 2 (.string x.o)).set_ 3 (.string x.w))
  rcases hor with ⟨i, hi, rfl, he⟩ | ⟨rfl, he⟩
  · obtain ⟨g, hA, hgl, hc⟩ := (HQ.out _ HB1.out).2 (by omega)
    obtain ⟨c0, c1, c2, c3⟩ := hc i hi
    generalize l[i] = x at *
    have HE := Lib.hid he
    have hin : i < n := by rw [← HN.out]; exact hi
    have a0 : (0 : Int) ≤ (i : Int) := by omega
    have a1 : (i : Int) < (n : Int) := by omega
    have hd : decide ((i : Int) < 0) = false := by simp
    subst hA
    have y0 := (KX.out x).cell 0 _ rfl
    have y1 := (KX.out x).cell 1 _ rfl
    have y2 := (KX.out x).cell 2 _ rfl
    have y3 := (KX.out x).cell 3 _ rfl
    clear hc he hi
    go_wp2_with fail
    refine bodyPost_ret (v := .tuple #[.agg #[.string x.q, .int .i64 x.n, .string x.o, .string x.w], .bool true]) (by simp only [results, Tryz.results26]; go_simp) rfl ?_
    exact HZ.out true x HE.out (fun h => by cases h)
  · have HE := Lib.hid he
    have y0 := (KX.out zA).cell 0 _ rfl
    have y1 := (KX.out zA).cell 1 _ rfl
    have y2 := (KX.out zA).cell 2 _ rfl
    have y3 := (KX.out zA).cell 3 _ rfl
    unfold zA at y0 y1 y2 y3
    clear he
    go_wp2_with fail
    refine bodyPost_ret (v := .tuple #[.agg #[.string ⟨#[]⟩, .int .i64 0, .string ⟨#[]⟩, .string ⟨#[]⟩], .bool false]) (by simp only [results, Tryz.results26]; go_simp) rfl ?_
    exact HZ.out false zA HE.out (fun _ => rfl)

/-- A question's value. -/
theorem fn44 (C : Nat) (A : Option Addr) (n c : Nat) (l : List An) (w : World) (hC : w.cell? ⟨C, 0, none⟩ = some (.slice A n c)) (hlt : C < w.heap.size) (hq : AL w A l) (hn : l.length = n) (h8 : n ≤ 1000) (W : World) (hW : Below w.heap.size w W) (q : Qs) (Ao : Option Addr) (m co : Nat) :
    Calls Tryz.prog 44 #[.agg #[.string q.k, .int .i64 q.d, .int .i64 q.m, .slice Ao m co, .bool q.nd, .bool q.sc], .pointer (some ⟨C, 0, none⟩)] W fun e w' => e = .returned (.bool (q.nd && (toQ l q.k).isNone)) ∧ Below W.heap.size W w' := by
  have hc := (hW.cell (p := ⟨C, 0, none⟩) hlt).trans hC
  have hCW : C < W.heap.size := Nat.lt_of_lt_of_le hlt hW.size
  have hb0 : Below W.heap.size W (W.alloc (.cells #[.string q.k, .int .i64 q.d, .int .i64 q.m, .slice Ao m co, .bool q.nd, .bool q.sc] 45)) := (Below.refl W.heap.size W).alloc (Nat.le_refl _) _
  have H := Lib.hid (answerto_walk q.k A n c l _ (hq.below (hW.trans (hb0.mono hW.size))) hn h8)
  have K0 := Lib.hid (Blk.new W 45 #[.string q.k, .int .i64 q.d, .int .i64 q.m, .slice Ao m co, .bool q.nd, .bool q.sc])
  have HB := Lib.hid hb0
  obtain ⟨qk, qd, qm, qo, nd, sc⟩ := q
  simp only at H K0 HB ⊢
  obtain ⟨x, hx⟩ : ∃ x, toQ l qk = x := ⟨_, rfl⟩
  rw [hx] at H ⊢
  clear hC hlt hW hb0 hq hn hx
  obtain ⟨y, hy⟩ : ∃ y, x.getD zA = y := ⟨_, rfl⟩
  have HY := Lib.hid hy
  obtain ⟨b, hb⟩ : ∃ b, x.isSome = b := ⟨_, rfl⟩
  have HBB := Lib.hid (show x.isNone = !b by rw [← hb]; cases x <;> rfl)
  unfold ToRet at H
  rw [hy, hb] at H
  clear hy hb
  go_enter Tryz.func44, Tryz.ntmps44
  go_wp2_with fail
  refine (H.out).mono ?_; rintro e w1 ⟨rfl, hb1⟩
  have K1 := Lib.hid (K0.out.below hb1 (by simp))
  have B1 := Lib.hid (HB.out.trans (hb1.mono HB.out.size))
  have e4 := K1.out.cell 4 _ rfl
  have hk1 := K1.out.lt
  have hz := B1.out.size
  clear hb1 H
  cases nd
  · go_wp2_with fail
    go_ret
    exact ⟨rfl, B1.out.alloc hz _⟩
  · cases b
    all_goals
      go_wp2_with fail
      go_ret
      exact ⟨by rw [HBB.out]; rfl, B1.out.alloc hz _⟩

theorem eq_an (x y : An) : (eqS x.q y.q && (x.n == y.n) && eqS x.o y.o && eqS x.w y.w) = true ↔ x = y := by
  simp only [Bool.and_eq_true, eqS_iff, beq_iff_eq]
  constructor
  · rintro ⟨⟨⟨h1, h2⟩, h3⟩, h4⟩
    obtain ⟨a, b, c, d⟩ := x
    obtain ⟨a', b', c', d'⟩ := y
    simp only at h1 h2 h3 h4
    rw [h1, h2, h3, h4]
  · rintro rfl; exact ⟨⟨⟨rfl, rfl⟩, rfl⟩, rfl⟩

/-- Whether two answers, or none, differ. -/
theorem differs_get (a b : List An) (k : ByteArray) (hk : keyL k.data.toList = true) :
    differs a b k = !(eqS ((toQ a k).getD zA).q ((toQ b k).getD zA).q && (((toQ a k).getD zA).n == ((toQ b k).getD zA).n) && eqS ((toQ a k).getD zA).o ((toQ b k).getD zA).o && eqS ((toQ a k).getD zA).w ((toQ b k).getD zA).w) := by
  have hne : ∀ (l : List An) (x : An), toQ l k = some x → eqS x.q zA.q = false ∧ eqS zA.q x.q = false := fun l x h => by
    have h1 := List.find?_some h
    have h2 : x.q = k := (eqS_iff _ _).1 h1
    have h3 : eqS k zA.q = false := by
      cases h4 : eqS k zA.q with
      | false => rfl
      | true =>
        have := (eqS_iff _ _).1 h4
        rw [this] at hk; cases hk
    rw [h2]; exact ⟨h3, by rw [eqS_comm]; exact h3⟩
  unfold differs
  cases h1 : toQ a k with
  | none =>
    cases h2 : toQ b k with
    | none => simp [eqS_self]
    | some y => simp [(hne b y h2).2]
  | some x =>
    cases h2 : toQ b k with
    | none => simp [(hne a x h1).1]
    | some y => rfl

set_option maxRecDepth 100000 in
set_option maxHeartbeats 4000000 in
theorem fn25 (C1 C2 : Nat) (A1 : Option Addr) (n1 c1 : Nat) (l1 : List An) (A2 : Option Addr) (n2 c2 : Nat) (l2 : List An) (w : World) (hC1 : w.cell? ⟨C1, 0, none⟩ = some (.slice A1 n1 c1)) (hlt1 : C1 < w.heap.size) (hC2 : w.cell? ⟨C2, 0, none⟩ = some (.slice A2 n2 c2)) (hlt2 : C2 < w.heap.size)
    (hq1 : AL w A1 l1) (hn1 : l1.length = n1) (h81 : n1 ≤ 1000) (hq2 : AL w A2 l2) (hn2 : l2.length = n2) (h82 : n2 ≤ 1000) (W : World) (hW : Below w.heap.size w W) (q : Qs) (hk : keyL q.k.data.toList = true) (Ao : Option Addr) (m co : Nat) :
    Calls Tryz.prog 25 #[.agg #[.string q.k, .int .i64 q.d, .int .i64 q.m, .slice Ao m co, .bool q.nd, .bool q.sc], .pointer (some ⟨C1, 0, none⟩), .pointer (some ⟨C2, 0, none⟩)] W fun e w' => e = .returned (.bool (differs l1 l2 q.k)) ∧ Below W.heap.size W w' := by
  rw [differs_get l1 l2 q.k hk]
  have hc1 := (hW.cell (p := ⟨C1, 0, none⟩) hlt1).trans hC1
  have hCW1 : C1 < W.heap.size := Nat.lt_of_lt_of_le hlt1 hW.size
  have hc2 := (hW.cell (p := ⟨C2, 0, none⟩) hlt2).trans hC2
  have hCW2 : C2 < W.heap.size := Nat.lt_of_lt_of_le hlt2 hW.size
  have hb0 : Below W.heap.size W (W.alloc (.cells #[.string q.k, .int .i64 q.d, .int .i64 q.m, .slice Ao m co, .bool q.nd, .bool q.sc] 45)) := (Below.refl W.heap.size W).alloc (Nat.le_refl _) _
  have H1 := Lib.hid (answerto_walk q.k A1 n1 c1 l1 _ (hq1.below (hW.trans (hb0.mono hW.size))) hn1 h81)
  have H2 := Lib.hid (fun (V : World) (hV : Below W.heap.size W V) => answerto_walk q.k A2 n2 c2 l2 V (hq2.below (hW.trans (hV.mono hW.size))) hn2 h82)
  have HC2 := Lib.hid (fun (V : World) (hV : Below W.heap.size W V) => (hV.cell (p := ⟨C2, 0, none⟩) hCW2).trans hc2)
  have K0 := Lib.hid (Blk.new W 45 #[.string q.k, .int .i64 q.d, .int .i64 q.m, .slice Ao m co, .bool q.nd, .bool q.sc])
  have HB := Lib.hid hb0
  obtain ⟨qk, qd, qm, qo, nd, sc⟩ := q
  simp only at H1 H2 K0 HB ⊢
  generalize toQ l1 qk = x at *
  generalize toQ l2 qk = y at *
  clear hC1 hlt1 hC2 hlt2 hW hb0 hq1 hn1 hq2 hn2 hc2 hk
  obtain ⟨b1, hb1⟩ : ∃ b, x.isSome = b := ⟨_, rfl⟩
  obtain ⟨b2, hb2⟩ : ∃ b, y.isSome = b := ⟨_, rfl⟩
  unfold ToRet at H1 H2
  rw [hb1] at H1
  rw [hb2] at H2
  clear hb1 hb2
  generalize x.getD zA = x' at *
  generalize y.getD zA = y' at *
  obtain ⟨xq, xn, xo, xw⟩ := x'
  obtain ⟨yq, yn, yo, yw⟩ := y'
  simp only at H1 H2 ⊢
  obtain ⟨r, hr⟩ : ∃ r, (!(eqS xq yq && (xn == yn) && eqS xo yo && eqS xw yw)) = r := ⟨_, rfl⟩
  rw [hr]
  have HR := Lib.hid hr
  clear hr
  go_enter Tryz.func25, Tryz.ntmps25
  go_wp2_with fail
  refine (H1.out).mono ?_; rintro e w1 ⟨rfl, hb1⟩
  have K1 := Lib.hid ((K0.out.below hb1 (by simp)).alloc (.cells #[.string xq, .int .i64 xn, .string xo, .string xw] 51))
  have B1' := HB.out.trans (hb1.mono HB.out.size)
  have B1 := Lib.hid (B1'.alloc B1'.size (.cells #[.string xq, .int .i64 xn, .string xo, .string xw] 51))
  have KX := Lib.hid (Blk.new w1 51 #[.string xq, .int .i64 xn, .string xo, .string xw])
  have e0 := K1.out.cell 0 _ rfl
  have hk1 := K1.out.lt
  have g2 := HC2.out _ B1.out
  clear hb1 H1 B1'
  go_wp2_with fail
  refine (H2.out _ B1.out).mono ?_; rintro e w2 ⟨rfl, hb2⟩
  have B2 := Lib.hid (B1.out.trans (hb2.mono B1.out.size))
  have KX2 := Lib.hid (KX.out.below hb2 (by simp))
  have d0 := KX2.out.cell 0 _ rfl
  have d1 := KX2.out.cell 1 _ rfl
  have d2 := KX2.out.cell 2 _ rfl
  have d3 := KX2.out.cell 3 _ rfl
  have hk2 := KX2.out.lt
  have hz2 := B2.out.size
  clear hb2 H2 HC2 g2 e0
  have HD : Hid (Below W.heap.size W (w2.alloc (.cells #[.string yq, .int .i64 yn, .string yo, .string yw] 51))) := Lib.hid (B2.out.alloc hz2 _)
  by_cases p2 : xn = yn
  · subst p2
    by_cases p1 : xq.toList = yq.toList
    · by_cases p3 : xo.toList = yo.toList
      · by_cases p4 : xw.toList = yw.toList
        · have HE : Hid (false = r) := Lib.hid (by have := HR.out; simpa [eqS, p1, p3, p4] using this)
          clear HR
          go_wp2_with fail
          go_ret; exact ⟨ret_bool HE.out, HD.out⟩
        · have HE : Hid (true = r) := Lib.hid (by have := HR.out; simpa [eqS, p1, p3, beq_eq_false_iff_ne.2 p4] using this)
          clear HR
          go_wp2_with fail
          go_ret; exact ⟨ret_bool HE.out, HD.out⟩
      · have HE : Hid (true = r) := Lib.hid (by have := HR.out; simpa [eqS, p1, beq_eq_false_iff_ne.2 p3] using this)
        clear HR
        go_wp2_with fail
        go_ret; exact ⟨ret_bool HE.out, HD.out⟩
    · have HE : Hid (true = r) := Lib.hid (by have := HR.out; simpa [eqS, beq_eq_false_iff_ne.2 p1] using this)
      clear HR
      go_wp2_with fail
      go_ret; exact ⟨ret_bool HE.out, HD.out⟩
  · have HE : Hid (true = r) := Lib.hid (by have := HR.out; simpa [eqS, beq_eq_false_iff_ne.2 p2] using this)
    clear HR
    go_wp2_with fail
    go_ret; exact ⟨ret_bool HE.out, HD.out⟩
end Go.Proofs.YthglfcfnejjpjaaGreatDoor.Rev
