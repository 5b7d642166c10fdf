/-
  THE CONTRACT OF THE REFERENCE'S NearOf; and that the reference's answers on a right forest are the program's.
-/
import Derived.Test.YtnjigaklkalebaaDoorRefAsk
import Derived.Test.YtnjigaklkalebaaDoorFractionGen
namespace Go.Proofs.YtnjigaklkalebaaDoor.For
open Go.ChangeShapes Go.WideShapes Go.ChangeAt Go.RowKit Stm Key
set_option linter.unusedVariables false

def nearRef (l : List Tp) (a b : ByteArray) : Nat × Nat :=
  if (meetR l a b).toList.isEmpty then (0, 1) else
    ((2 * (abv l (l.length + 1) (meetR l a b)).length) / Nat.gcd (2 * (abv l (l.length + 1) (meetR l a b)).length) ((abv l (l.length + 1) a).length + (abv l (l.length + 1) b).length),
     ((abv l (l.length + 1) a).length + (abv l (l.length + 1) b).length) / Nat.gcd (2 * (abv l (l.length + 1) (meetR l a b)).length) ((abv l (l.length + 1) a).length + (abv l (l.length + 1) b).length))

set_option maxRecDepth 100000 in
set_option maxHeartbeats 8000000 in
theorem nearof_walk (A : Option Addr) (n cap : Nat) (l : List Tp) (a b : ByteArray) (w : World) (hn : l.length = n) (hn2 : n ≤ 900) (hS : TL w A l) (ha : a.size ≤ 1000) (hb : b.size ≤ 1000) (h1 : 1 ≤ (abv l (n + 1) a).length) (hm : (meetR l a b).size ≤ 1000) (r : Nat × Nat) (hr : Hid (nearRef l a b = r)) :
    Calls Tryd.prog 40 #[.slice A n cap, .string a, .string b] w fun e w' => e = .returned (.agg #[.int .i64 r.1, .int .i64 r.2]) ∧ Below w.heap.size w w' := by
  have hr2 := hr.out
  unfold nearRef at hr2
  rw [hn] at hr2
  obtain ⟨m, hmm⟩ : ∃ m, meetR l a b = m := ⟨_, rfl⟩
  rw [hmm] at hr2 hm
  have HMW := Lib.hid (fun W (hW : Below w.heap.size w W) => meetof_walk A n cap l a b W hn hn2 (hS.below hW) ha hb m (Lib.hid hmm))
  obtain ⟨sm, hsm⟩ : ∃ s, abv l (n + 1) m = s := ⟨_, rfl⟩
  obtain ⟨sa, hsa⟩ : ∃ s, abv l (n + 1) a = s := ⟨_, rfl⟩
  obtain ⟨sb, hsb⟩ : ∃ s, abv l (n + 1) b = s := ⟨_, rfl⟩
  have l1 := abv_len l (n + 1) m
  have l2 := abv_len l (n + 1) a
  have l3 := abv_len l (n + 1) b
  rw [hsm, hsa, hsb] at hr2
  rw [hsm] at l1
  rw [hsa] at l2 h1
  rw [hsb] at l3
  have HA1 := Lib.hid (fun W (hW : Below w.heap.size w W) => aboveof_walk A n cap l m W hn (by omega) (hS.below hW) hm sm (Lib.hid hsm))
  have HA2 := Lib.hid (fun W (hW : Below w.heap.size w W) => aboveof_walk A n cap l a W hn (by omega) (hS.below hW) ha sa (Lib.hid hsa))
  have HA3 := Lib.hid (fun W (hW : Below w.heap.size w W) => aboveof_walk A n cap l b W hn (by omega) (hS.below hW) hb sb (Lib.hid hsb))
  clear hn hS hr hmm hsm hsa hsb
  generalize hx : sm.length = x at *
  generalize hy : sa.length = y at *
  generalize hz : sb.length = z at *
  have HX := Lib.hid hx
  have HY := Lib.hid hy
  have HZ := Lib.hid hz
  clear hx hy hz
  have B0 := Lib.hid ((Below.refl w.heap.size w).alloc (Nat.le_refl _) (.cells #[.int .i64 0, .int .i64 0] 53))
  cases he : m.toList.isEmpty
  · rw [he] at hr2
    have hp1 : 2 * (x : Int) = ((2 * x : Nat) : Int) := by push_cast; rfl
    have hp2 : (y : Int) + (z : Int) = ((y + z : Nat) : Int) := by push_cast; rfl
    have HPW := Lib.hid (fun W => Frac.part_any (2 * x) (y + z) W (by omega) (by omega) (by omega))
    simp only [Bool.false_eq_true, if_false] at hr2
    rw [← hp1, ← hp2] at HPW
    have HR := Lib.hid hr2
    clear hr2 hp1 hp2
    generalize 2 * x / Nat.gcd (2 * x) (y + z) = u at *
    generalize (y + z) / Nat.gcd (2 * x) (y + z) = v at *
    go_enter Tryd.func40, Tryd.ntmps40
    go_wp2_with fail
    refine (HMW.out _ B0.out).mono ?_; rintro e w1 ⟨rfl, hb1⟩
    obtain ⟨hc, hf⟩ := Frac.bcell hb1
    have r0 : w1.cell? ⟨w.heap.size, 0, none⟩ = some (.int .i64 0) := by rw [hc _ _ (by go_size)]; go_cell
    have r1 : w1.cell? ⟨w.heap.size, 1, none⟩ = some (.int .i64 0) := by rw [hc _ _ (by go_size)]; go_cell
    have f0 : w1.frozen? ⟨w.heap.size, 0, none⟩ = false := by rw [hf _ _ (by go_size)]; go_cell
    have f1 : w1.frozen? ⟨w.heap.size, 1, none⟩ = false := by rw [hf _ _ (by go_size)]; go_cell
    have z1 : w.heap.size < w1.heap.size := by have := hb1.size; simp at this; omega
    have B1 := Lib.hid (B0.out.trans (hb1.mono (by simp)))
    have K1 := Lib.hid (show Frac.Cells2 w.heap.size 0 0 w1 from ⟨r0, r1, f0, f1, z1⟩)
    clear hc hf hb1 r0 r1 f0 f1
    go_wp2_with fail
    refine (HA1.out _ B1.out).mono ?_; rintro e w2 ⟨A1, c1, rfl, hc1, _, hb2⟩
    rw [HX.out]
    have B2 := Lib.hid (B1.out.trans (hb2.mono (Nat.le_of_lt z1)))
    have K2 := Lib.hid (K1.out.below hb2)
    clear hb2 K1 B1 hc1
    go_wp2_with fail
    refine (HA2.out _ B2.out).mono ?_; rintro e w3 ⟨A2, c2, rfl, hc2, _, hb3⟩
    rw [HY.out]
    have B3 := Lib.hid (B2.out.trans (hb3.mono B2.out.size))
    have K3 := Lib.hid (K2.out.below hb3)
    clear hb3 K2 B2 hc2
    go_wp2_with fail
    refine (HA3.out _ B3.out).mono ?_; rintro e w4 ⟨A3, c3, rfl, hc3, _, hb4⟩
    rw [HZ.out]
    have B4 := Lib.hid (B3.out.trans (hb4.mono B3.out.size))
    have K4 := Lib.hid (K3.out.below hb4)
    clear hb4 K3 B3 hc3
    go_wp2_with fail
    refine (HPW.out _).mono ?_; rintro e w5 ⟨rfl, hb5⟩
    have B5 := Lib.hid (B4.out.trans (hb5.mono B4.out.size))
    obtain ⟨r0, r1, f0, f1, z5⟩ := K4.out.below hb5
    clear hb5
    go_wp2_with fail
    refine bodyPost_ret (v := .agg #[.int .i64 (u : Int), .int .i64 (v : Int)]) (by simp only [results, Tryd.results40]; go_simp) rfl ⟨by rw [← HR.out], ?_⟩
    exact (B5.out.setCell (by simp) _).setCell (by simp) _
  · rw [he] at hr2
    have HR := Lib.hid (show ((0, 1) : Nat × Nat) = r from hr2)
    clear hr2
    go_enter Tryd.func40, Tryd.ntmps40
    go_wp2_with fail
    refine (HMW.out _ B0.out).mono ?_; rintro e w1 ⟨rfl, hb1⟩
    obtain ⟨hc, hf⟩ := Frac.bcell hb1
    have r0 : w1.cell? ⟨w.heap.size, 0, none⟩ = some (.int .i64 0) := by rw [hc _ _ (by go_size)]; go_cell
    have r1 : w1.cell? ⟨w.heap.size, 1, none⟩ = some (.int .i64 0) := by rw [hc _ _ (by go_size)]; go_cell
    have f0 : w1.frozen? ⟨w.heap.size, 0, none⟩ = false := by rw [hf _ _ (by go_size)]; go_cell
    have f1 : w1.frozen? ⟨w.heap.size, 1, none⟩ = false := by rw [hf _ _ (by go_size)]; go_cell
    have z1 : w.heap.size < w1.heap.size := by have := hb1.size; simp at this; omega
    have B1 := Lib.hid (B0.out.trans (hb1.mono (by simp)))
    clear hc hf hb1
    go_wp2_with fail
    refine bodyPost_ret (v := .agg #[.int .i64 0, .int .i64 1]) (by simp only [results, Tryd.results40]; go_simp) rfl ⟨by rw [← HR.out]; try rfl, ?_⟩
    exact (B1.out.setCell (by simp) _).setCell (by simp) _

/- ON A RIGHT FOREST BOTH ANSWER ALIKE -/
structure RightF (l : List Tp) : Prop where
  dist : Dist l
  miss : l.any (misses l) = false
  nl : NL (pars l)
  deep : deeps (pars l) = false
theorem rightF {l : List Tp} (h : forestE l = 0) : RightF l := by
  obtain ⟨h1, _, h2, h3, h4⟩ := forest_parts h
  exact ⟨rising_dist l _ h1, h2, NL_of h3, h4⟩
theorem RightF.abv {l : List Tp} (h : RightF l) {i : Nat} (hi : i < l.length) : abv l (l.length + 1) l[i].k = keysOf l (way (pars l) i) := abv_way h.dist h.miss h.nl hi
theorem RightF.rng {l : List Tp} (h : RightF l) {i : Nat} (hi : i < l.length) : ∀ x ∈ way (pars l) (i : Nat), 0 ≤ x ∧ x < l.length := fun x hx => by
  have := way_range (pars_good l) (p := i) (by omega) (by rw [pars_len]; omega) hx
  rw [pars_len] at this; exact this
theorem RightF.above {l : List Tp} (h : RightF l) {s : ByteArray} {i : Nat} (hi : lk l s = some i) : For.abv l (l.length + 1) s = keysOf l (way (pars l) (i : Nat)) := by
  obtain ⟨h1, h2⟩ := lk_some l s i hi
  rw [← h2]; exact h.abv h1
theorem RightF.below {l : List Tp} (h : RightF l) {s : ByteArray} {i : Nat} (hi : lk l s = some i) : ∀ k, k ≤ l.length → belR l s k = belS l i k
  | 0, _ => by simp [belR, belS]
  | k + 1, hk => by
    obtain ⟨h1, h2⟩ := lk_some l s i hi
    have hkl : k < l.length := by omega
    rw [belR_next hkl, belS_next hkl, h.below hi k (by omega)]
    have e : has (For.abv l (l.length + 1) l[k].k) s = (way (pars l) (k : Nat)).contains (i : Int) := by
      rw [h.abv hkl, ← h2]; exact has_keys h.dist (h.rng hkl) h1
    rw [e]
theorem find_keys {l : List Tp} (p : ByteArray → Bool) (q : Int → Bool) : ∀ (W : List Int), (∀ x ∈ W, p (l.getD x.toNat ⟨⟨#[]⟩, ⟨#[]⟩⟩).k = q x) → (keysOf l W).find? p = (W.find? q).map (fun x => (l.getD x.toNat ⟨⟨#[]⟩, ⟨#[]⟩⟩).k)
  | [], _ => rfl
  | x :: t, h => by
    show ((l.getD x.toNat ⟨⟨#[]⟩, ⟨#[]⟩⟩).k :: keysOf l t).find? p = _
    rw [List.find?_cons, List.find?_cons, h x (by simp), find_keys p q t (fun y hy => h y (by simp [hy]))]
    cases q x <;> rfl
theorem RightF.meet {l : List Tp} (h : RightF l) {a b : ByteArray} {i j : Nat} (hi : lk l a = some i) (hj : lk l b = some j) : meetR l a b = if MF (pars l) i j = -1 then ⟨#[]⟩ else (l.getD (MF (pars l) i j).toNat ⟨⟨#[]⟩, ⟨#[]⟩⟩).k := by
  obtain ⟨h1, h2⟩ := lk_some l a i hi
  obtain ⟨h3, h4⟩ := lk_some l b j hj
  unfold meetR
  rw [h.above hi, h.above hj, find_keys (fun x => has (keysOf l (way (pars l) (j : Nat))) x) (fun x => (way (pars l) (j : Nat)).contains x) _ (fun x hx => by
    have hx2 := h.rng h1 x hx
    have hxl : x.toNat < l.length := by omega
    have e : (l.getD x.toNat ⟨⟨#[]⟩, ⟨#[]⟩⟩).k = l[x.toNat].k := by simp [List.getD, List.getElem?_eq_getElem hxl]
    have e2 : ((x.toNat : Nat) : Int) = x := by omega
    show has _ (l.getD x.toNat ⟨⟨#[]⟩, ⟨#[]⟩⟩).k = _
    rw [e, has_keys h.dist (h.rng h3) hxl, e2])]
  unfold MF
  cases hf : (way (pars l) (i : Nat)).find? (fun x => (way (pars l) (j : Nat)).contains x) with
  | none => simp
  | some m =>
    have hm := h.rng h1 m (List.mem_of_find?_eq_some hf)
    simp only [Option.map_some, Option.getD_some]
    rw [if_neg (by omega)]
theorem RightF.near {l : List Tp} (h : RightF l) {a b : ByteArray} {i j : Nat} (hi : lk l a = some i) (hj : lk l b = some j) : (((nearRef l a b).1 : Int), ((nearRef l a b).2 : Int)) = nearR l i j := by
  obtain ⟨h1, h2⟩ := lk_some l a i hi
  obtain ⟨h3, h4⟩ := lk_some l b j hj
  have hpl := pars_len l
  have hG := pars_good l
  have hm := h.meet hi hj
  by_cases hm1 : MF (pars l) i j = -1
  · rw [if_pos hm1] at hm
    unfold nearRef nearR nearI
    have he : (⟨#[]⟩ : ByteArray).toList.isEmpty = true := by rw [Lib.toList_data]; rfl
    rw [hm, if_pos hm1, if_pos he]; decide
  · rw [if_neg hm1] at hm
    have hmr := MF_range (b := j) hG (a := i) (by omega) (by omega)
    obtain ⟨c, hc⟩ : ∃ c : Nat, MF (pars l) i j = c := ⟨(MF (pars l) i j).toNat, by omega⟩
    have hd := MF_deep hG h.nl (a := i) (b := j) (by omega) (by omega) hm1
    rw [hc] at hmr hd
    have hcl : c < l.length := by omega
    have hck : meetR l a b = l[c].k := by rw [hm, hc]; simp [List.getD, List.getElem?_eq_getElem hcl]
    have hne : (meetR l a b).toList.isEmpty = false := by rw [hck]; exact h.dist.2 _ (List.getElem_mem hcl)
    have e1 : (For.abv l (l.length + 1) (meetR l a b)).length = (way (pars l) (c : Nat)).length := by rw [hck, h.abv hcl]; simp [keysOf]
    have e2 : (For.abv l (l.length + 1) a).length = (way (pars l) (i : Nat)).length := by rw [h.above hi]; simp [keysOf]
    have e3 : (For.abv l (l.length + 1) b).length = (way (pars l) (j : Nat)).length := by rw [h.above hj]; simp [keysOf]
    obtain ⟨q1, hq1⟩ := way_suffix hG h.nl (p := i) (by omega) (by omega) hd.1
    obtain ⟨q2, hq2⟩ := way_suffix hG h.nl (p := j) (by omega) (by omega) hd.2.1
    have s1 := congrArg List.length hq1
    have s2 := congrArg List.length hq2
    rw [List.length_append] at s1 s2
    have la := way_pos h.nl (i := i) (by omega)
    have lb := way_pos h.nl (i := j) (by omega)
    have ua := deep_le h.deep (i := i) (by omega)
    have ub := deep_le h.deep (i := j) (by omega)
    have uc := deep_le h.deep (i := c) (by omega)
    have hI : (nearI (pars l) i j).toNat = 2520 * 2 * (way (pars l) (c : Nat)).length / ((way (pars l) (i : Nat)).length + (way (pars l) (j : Nat)).length) := by
      unfold nearI
      rw [if_neg hm1, hc]
      generalize (way (pars l) (c : Nat)).length = s
      generalize (way (pars l) (i : Nat)).length = p
      generalize (way (pars l) (j : Nat)).length = q
      have : (5040 * (s : Int) / ((p : Int) + (q : Int))) = ((2520 * 2 * s / (p + q) : Nat) : Int) := by
        rw [Int.natCast_ediv, Int.natCast_add, Int.natCast_mul]; rfl
      rw [this]; rfl
    unfold nearRef nearR
    rw [hne, e1, e2, e3, hI]
    simp only [Bool.false_eq_true, if_false]
    generalize (way (pars l) (c : Nat)).length = s at *
    generalize (way (pars l) (i : Nat)).length = p at *
    generalize (way (pars l) (j : Nat)).length = q at *
    have hp := near_parts ⟨p + q, by omega⟩ ⟨s, by omega⟩ (by show 2 ≤ p + q; omega) (by show 2 * s ≤ p + q; omega)
    exact Prod.ext (congrArg (fun x : Nat => (x : Int)) hp.1.symm) (congrArg (fun x : Nat => (x : Int)) hp.2.symm)
end Go.Proofs.YtnjigaklkalebaaDoor.For
