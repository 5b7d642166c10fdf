/-
  HOW MUCH SOME TOPICS ARE KNOWN (package topic): affinity, Affinity.
-/
import Derived.Test.YtebfndiaiaegmaaGreatDoorKnow1
namespace Go.Proofs.YtebfndiaiaegmaaGreatDoor.For
open Go.ChangeShapes Go.WideShapes Go.ChangeAt Go.RowKit Stm Key
set_option linter.unusedVariables false

/-- How much some topics are known: a fraction in lowest terms. -/
def affN (l : List Tp) (s : List Sk) (ts : List ByteArray) : Nat × Nat := lowN (sumK l s ts) (252000 * max ts.length 1)
theorem knS_le {l : List Tp} (h : RightF l) {s : List Sk} (hok : ∀ x ∈ s, (lk l x.t).isSome = true ∧ 1 ≤ x.n ∧ x.n ≤ 100) (hsz : ∀ x ∈ s, x.t.size ≤ 1000) {i : Nat} (hi : i < l.length) : (knS l s i).1 ≤ 2520000 ∧ (knS l s i).2.size ≤ 1000 :=
  knS_bd h hi s (0, ⟨#[]⟩) (by decide) (by decide) hok hsz
theorem low_as2 (n d p q : Nat) (w : World) (hn : n ≤ 4611686018427387904) (hd : 1 ≤ d) (hd2 : d ≤ 4611686018427387904) (h : Hid (lowN n d = (p, q))) :
    Calls Tryz.prog 32 #[.int .i64 n, .int .i64 d] w fun e w' => e = .returned (.agg #[.int .i64 p, .int .i64 q]) ∧ Below w.heap.size w w' :=
  Frac.low_as n d p q w hn hd hd2 (Lib.hid (congrArg Prod.fst h.out)) (Lib.hid (congrArg Prod.snd h.out))

set_option maxRecDepth 100000 in
set_option maxHeartbeats 8000000 in
theorem affinity_walk (F n cap g : Nat) (A : Option Addr) (l : List Tp) (s : List Sk) (A3 : Option Addr) (n3 c3 : Nat) (ts : List ByteArray) (w : World) (hn : l.length = n) (hn2 : n ≤ 1000) (hF : FM w F A n cap l) (hK : KNs w g n (knS l s))
    (hbd : ∀ i, i < n → (knS l s i).1 ≤ 2520000) (ht : SL w A3 ts) (hkt : ts.length = n3) (h8 : n3 ≤ 8) (hok : ∀ x ∈ ts, (lk l x).isSome = true) (p q : Nat) (hpq : Hid (affN l s ts = (p, q))) :
    Calls Tryz.prog 30 #[.pointer (some ⟨F, 0, none⟩), .slice (some ⟨g, 0, none⟩) n n, .slice A3 n3 c3] w fun e w' => e = .returned (.agg #[.int .i64 p, .int .i64 q]) ∧ Below w.heap.size w w' := by
  have HF := Lib.hid hF
  have HT := Lib.hid ht
  have HL := Lib.hid hkt
  have HN := Lib.hid hn
  have HOK := Lib.hid hok
  have HBD := Lib.hid hbd
  have HKN := Lib.hid hK
  have hFlt := hF.lt
  have hglt := hK.1
  obtain ⟨M, gp, D, cd, k1, k2, k3, k4⟩ := hF
  have b0 : Below w.heap.size w (w.alloc (.cells #[.int .i64 0, .int .i64 0] 37)) := (Below.refl _ _).alloc (Nat.le_refl _) _
  have x1 : w.cell? ⟨F, 1, none⟩ = some (.map (some M)) := k1.cell 1 _ rfl
  have HM := Lib.hid (k2.below b0)
  have B0 := Lib.hid b0
  clear k1 k2 k3 k4 ht hkt hn hok hbd hK b0
  go_enter Tryz.func30, Tryz.ntmps30
  go_wp2_with fail
  go_loop [7, 12] (fun su i => ∃ k m : Nat, k ≤ n3 ∧ i = .int .i64 k ∧ su = .int .i64 m ∧ Hid (sumK l s (ts.take k) = m) ∧ m ≤ k * 2520000) (fun _ i => n3 - (intOf i).toNat)
  case atStart => exact ⟨0, 0, Nat.zero_le _, rfl, rfl, Lib.hid rfl, Nat.le_refl _⟩
  case round =>
    obtain ⟨k, m, hk, rfl, rfl, HSU, hm⟩ := hrel
    by_cases hlt : k < n3
    · have hkl : k < ts.length := by rw [HL.out]; exact hlt
      obtain ⟨g3, hA3, hgl, hc⟩ := HT.out.2 (by omega)
      subst hA3
      have c0 := hc k hkl
      have hx := HT.out.1 _ (List.getElem_mem hkl)
      have hxo := num_lt (HOK.out _ (List.getElem_mem hkl))
      have hst := sumK_next (l := l) (s := s) hkl
      rw [HSU.out] at hst
      have hlk := lkI_num l ts[k]
      generalize ts[k] = x at *
      have hqn : num l x < n := by have := HN.out; omega
      have HLK := Lib.hid (look_run M l x _ HM.out hx _ hlk)
      have hcb := HBD.out _ hqn
      have hkn := (HKN.out.2 _ hqn).1
      generalize num l x = q1 at *
      generalize (knS l s q1).1 = v at *
      have HST := Lib.hid hst
      have j0 : (0 : Int) ≤ (q1 : Int) := by omega
      have j1 : (q1 : Int) < (n : Int) := by omega
      have a0 : (0 : Int) ≤ (k : Int) := by omega
      have a1 : (k : Int) < (n3 : Int) := by omega
      have hm3 : m ≤ 20160000 := by omega
      have hv3 : v ≤ 2520000 := hcb
      clear hc hxo hst hlk HSU hx
      have hlk := HLK.out
      go_wp2_with fail
      clear hlk
      go_round
      case rel => exact ⟨k + 1, m + v, by omega, by go_num, by go_num, HST, by omega⟩
      case measure => simp [intOf]; omega
    · have hkn : k = n3 := by omega
      subst hkn
      have hfin := HSU.out
      rw [List.take_of_length_le (by rw [HL.out]; exact Nat.le_refl _)] at hfin
      have hpq2 := hpq.out
      unfold affN at hpq2
      rw [hfin, HL.out] at hpq2
      have hm3 : m ≤ 20160000 := by omega
      have HPQ := Lib.hid hpq2
      clear hpq2 hfin HSU hpq x1
      by_cases h0 : k = 0
      · subst h0
        have HPQ0 : Hid (lowN m 252000 = (p, q)) := Lib.hid HPQ.out
        have HLW := Lib.hid (fun W => low_as2 m 252000 p q W (by omega) (by omega) (by omega) HPQ0)
        rw [show ((252000 : Nat) : Int) = 252000 from rfl] at HLW
        have hmi : max (0 : Int) 1 = 1 := by decide
        clear HPQ
        go_wp2_with fail
        refine (HLW.out _).mono ?_; rintro e w1 ⟨rfl, hb1⟩
        obtain ⟨hc, hf⟩ := Frac.bcell hb1
        have r0 : w1.cell? ⟨w.heap.size, 0, none⟩ = some (.int .i64 0) := by rw [hc _ _ (by go_size)]; go_cell
        have r1 : w1.cell? ⟨w.heap.size, 1, none⟩ = some (.int .i64 0) := by rw [hc _ _ (by go_size)]; go_cell
        have f0 : w1.frozen? ⟨w.heap.size, 0, none⟩ = false := by rw [hf _ _ (by go_size)]; go_cell
        have f1 : w1.frozen? ⟨w.heap.size, 1, none⟩ = false := by rw [hf _ _ (by go_size)]; go_cell
        have z1 : w.heap.size < w1.heap.size := by have := hb1.size; simp at this; omega
        have B1 := Lib.hid (B0.out.trans (hb1.mono (by simp)))
        clear hc hf hb1
        go_wp2_with fail
        refine bodyPost_ret (v := .agg #[.int .i64 (p : Int), .int .i64 (q : Int)]) (by simp only [results, Tryz.results30]; go_simp) rfl ⟨rfl, ?_⟩
        exact (B1.out.setCell (by simp) _).setCell (by simp) _
      · have hmx : max k 1 = k := by omega
        have hmi : max (k : Int) 1 = (k : Int) := by omega
        rw [hmx] at HPQ
        have HLW := Lib.hid (fun W => low_as2 m (252000 * k) p q W (by omega) (by omega) (by omega) HPQ)
        rw [show ((252000 * k : Nat) : Int) = 252000 * (k : Int) from Int.natCast_mul 252000 k] at HLW
        go_wp2_with fail
        refine (HLW.out _).mono ?_; rintro e w1 ⟨rfl, hb1⟩
        obtain ⟨hc, hf⟩ := Frac.bcell hb1
        have r0 : w1.cell? ⟨w.heap.size, 0, none⟩ = some (.int .i64 0) := by rw [hc _ _ (by go_size)]; go_cell
        have r1 : w1.cell? ⟨w.heap.size, 1, none⟩ = some (.int .i64 0) := by rw [hc _ _ (by go_size)]; go_cell
        have f0 : w1.frozen? ⟨w.heap.size, 0, none⟩ = false := by rw [hf _ _ (by go_size)]; go_cell
        have f1 : w1.frozen? ⟨w.heap.size, 1, none⟩ = false := by rw [hf _ _ (by go_size)]; go_cell
        have z1 : w.heap.size < w1.heap.size := by have := hb1.size; simp at this; omega
        have B1 := Lib.hid (B0.out.trans (hb1.mono (by simp)))
        clear hc hf hb1
        go_wp2_with fail
        refine bodyPost_ret (v := .agg #[.int .i64 (p : Int), .int .i64 (q : Int)]) (by simp only [results, Tryz.results30]; go_simp) rfl ⟨rfl, ?_⟩
        exact (B1.out.setCell (by simp) _).setCell (by simp) _

/-- What Affinity hands back. -/
def AffRet (l : List Tp) (s : List Sk) (ts : List ByteArray) (r : Int) (w : World) (e : Ending) (w' : World) : Prop := ∃ (x y : Int), e = .returned (.tuple #[.agg #[.int .i64 x, .int .i64 y], .int .i64 r]) ∧
  (r = 0 → x = ((affN l s ts).1 : Nat) ∧ y = ((affN l s ts).2 : Nat)) ∧ Below w.heap.size w w'
theorem wantE_ok {l : List Tp} {s : List Sk} {ts : List ByteArray} (h : wantE l s ts = 0) : forestE l = 0 ∧ skE l ⟨#[]⟩ s = 0 ∧ waE l ⟨#[]⟩ ts = 0 := by
  unfold wantE at h
  by_cases h1 : withE l s = 0
  · rw [if_neg (by simpa using h1)] at h
    unfold withE at h1
    by_cases h2 : forestE l = 0
    · rw [if_neg (by simpa using h2)] at h1; exact ⟨h2, h1, h⟩
    · rw [if_pos h2] at h1; exact absurd h1 h2
  · rw [if_pos h1] at h; exact absurd h h1

set_option maxRecDepth 100000 in
set_option maxHeartbeats 8000000 in
theorem affinityf_walk (A : Option Addr) (n cap : Nat) (l : List Tp) (A2 : Option Addr) (n2 c2 : Nat) (s : List Sk) (A3 : Option Addr) (n3 c3 : Nat) (ts : List ByteArray) (w : World) (hn : l.length = n) (hn2 : n ≤ 1000) (hS : TL w A l) (hs : KL w A2 s) (hk : s.length = n2) (h100 : n2 ≤ 100)
    (ht : SL w A3 ts) (hkt : ts.length = n3) (h8 : n3 ≤ 8) (r : Int) (hr : Hid (wantE l s ts = r)) :
    Calls Tryz.prog 10 #[.slice A n cap, .slice A2 n2 c2, .slice A3 n3 c3] w (AffRet l s ts r w) := by
  have b0 : Below w.heap.size w (w.alloc (.cells #[.int .i64 0, .int .i64 0] 37)) := (Below.refl _ _).alloc (Nat.le_refl _) _
  have HWT := Lib.hid (withtopics_walk A n cap l A2 n2 c2 s A3 n3 c3 ts _ hn hn2 (hS.below b0) (hs.below b0) hk h100 (ht.below b0) hkt h8 r hr)
  have HS := Lib.hid hs
  have HT := Lib.hid ht
  have HK := Lib.hid hk
  have HKT := Lib.hid hkt
  have HN := Lib.hid hn
  have B0 := Lib.hid b0
  clear hS hs ht hk hkt hn b0
  go_enter Tryz.func10, Tryz.ntmps10
  go_wp2_with fail
  refine (HWT.out).mono ?_; rintro e w1 ⟨F, hor, hb1⟩
  obtain ⟨hc, hf⟩ := Frac.bcell hb1
  have r0 : w1.cell? ⟨w.heap.size, 0, none⟩ = some (.int .i64 0) := by rw [hc _ _ (by go_size)]; go_cell
  have r1 : w1.cell? ⟨w.heap.size, 1, none⟩ = some (.int .i64 0) := by rw [hc _ _ (by go_size)]; go_cell
  have f0 : w1.frozen? ⟨w.heap.size, 0, none⟩ = false := by rw [hf _ _ (by go_size)]; go_cell
  have f1 : w1.frozen? ⟨w.heap.size, 1, none⟩ = false := by rw [hf _ _ (by go_size)]; go_cell
  have z1 : w.heap.size < w1.heap.size := by have := hb1.size; simp at this; omega
  have B1 := Lib.hid (B0.out.trans (hb1.mono (by simp)))
  clear hc hf hb1
  rcases hor with ⟨h0, rfl⟩ | ⟨rfl, rfl, hF, hFM⟩
  · have H0 := Lib.hid h0
    have hbb : (r != 0) = true := by rw [bne_iff_ne]; exact h0
    clear h0
    go_wp2_with fail
    refine bodyPost_ret (v := .tuple #[.agg #[.int .i64 0, .int .i64 0], .int .i64 r]) (by simp only [results, Tryz.results10]; go_simp) rfl ⟨0, 0, rfl, fun h => absurd h H0.out, ?_⟩
    exact (B1.out.setCell (by simp) _).setCell (by simp) _
  · obtain ⟨e1, e2, e3⟩ := wantE_ok hr.out
    have HR := Lib.hid (rightF e1)
    have HOK := Lib.hid (skE_ok s _ e2)
    have HOT := Lib.hid (waE_ok ts _ e3)
    have K1 := Lib.hid (show Frac.Cells2 w.heap.size 0 0 w1 from ⟨r0, r1, f0, f1, z1⟩)
    have HFM := Lib.hid hFM
    obtain ⟨p, q, hpq⟩ : ∃ p q, affN l s ts = (p, q) := ⟨_, _, rfl⟩
    have HPQ := Lib.hid hpq
    have HBD := Lib.hid (fun i (hi : i < n) => (knS_le HR.out HOK.out (fun x hx => (HS.out.1 x hx).1) (show i < l.length by rw [HN.out]; exact hi)).1)
    have HKW := Lib.hid (knowledge_walk F n cap A l A2 n2 c2 s w1 HN.out hn2 HFM.out HR.out (HS.out.below B1.out) HK.out h100 HOK.out)
    clear e1 e2 e3 hFM hpq r0 r1 f0 f1
    go_wp2_with fail
    refine (HKW.out).mono ?_; rintro e w2 ⟨g, rfl, hkn, hb2⟩
    have B2 := Lib.hid (B1.out.trans (hb2.mono B1.out.size))
    have K2 := Lib.hid (K1.out.below hb2)
    have HAW := Lib.hid (affinity_walk F n cap g A l s A3 n3 c3 ts w2 HN.out hn2 (HFM.out.below hb2) hkn HBD.out (HT.out.below B2.out) HKT.out h8 HOT.out p q HPQ)
    clear hkn hb2 HKW
    go_wp2_with fail
    refine (HAW.out).mono ?_; rintro e w3 ⟨rfl, hb3⟩
    have B3 := Lib.hid (B2.out.trans (hb3.mono B2.out.size))
    obtain ⟨r0, r1, f0, f1, z3⟩ := K2.out.below hb3
    clear hb3 HAW
    go_wp2_with fail
    refine bodyPost_ret (v := .tuple #[.agg #[.int .i64 (p : Int), .int .i64 (q : Int)], .int .i64 0]) (by simp only [results, Tryz.results10]; go_simp) rfl ⟨p, q, rfl, fun _ => by rw [HPQ.out]; exact ⟨rfl, rfl⟩, ?_⟩
    exact (B3.out.setCell (by simp) _).setCell (by simp) _
end Go.Proofs.YtebfndiaiaegmaaGreatDoor.For
