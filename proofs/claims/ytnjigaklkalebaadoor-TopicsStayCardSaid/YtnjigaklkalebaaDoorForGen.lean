/-
  THE CONTRACTS OF THE MAKERS RightForest AND TopicKey; lists of topics that are made.
-/
import Derived.Test.YtnjigaklkalebaaDoorRefFault
import Derived.Test.YtnjigaklkalebaaDoorOne
namespace Go.Proofs.YtnjigaklkalebaaDoor.For
open Go.ChangeShapes Go.WideShapes Go.ChangeAt Go.RowKit Stm Key
set_option linter.unusedVariables false

/-- A list that is nil or lies at the head of a block that is not B. -/
def AtT (B : Nat) (A : Option Addr) (n : Nat) : Prop := (A = none ∧ n = 0) ∨ ∃ g, A = some ⟨g, 0, none⟩ ∧ g ≠ B
theorem TL.gr {w w' : World} {A : Option Addr} {l : List Tp} {B : Nat} (h : TL w A l) (ha : AtT B A l.length) (g : Gr B w w') : TL w' A l :=
  ⟨h.1, fun h0 => by
    obtain ⟨b, hA, hlt, hc⟩ := h.2 h0
    have hb : b ≠ B := by
      rcases ha with ⟨_, e⟩ | ⟨g, e, hg⟩
      · omega
      · rw [e] at hA; injection hA with hA; injection hA with h1; omega
    exact ⟨b, hA, Nat.lt_of_lt_of_le hlt g.size, fun i hi => ⟨(g.cell b _ hlt hb).trans (hc i hi).1, (g.cell b _ hlt hb).trans (hc i hi).2⟩⟩⟩
theorem TL.nil (w : World) (A : Option Addr) : TL w A [] := ⟨by simp, fun h => absurd h (by simp)⟩
def flatT (l : List Tp) : List Value := l.flatMap fun x => [.string x.k, .string x.a]
theorem flatT_snoc (l : List Tp) (x : Tp) : flatT (l ++ [x]) = flatT l ++ [.string x.k, .string x.a] := by simp [flatT]
theorem flatT_length (l : List Tp) : (flatT l).length = l.length * 2 := by
  induction l with
  | nil => rfl
  | cons x t ih => simp [flatT] at ih ⊢; omega
theorem flatT_get : ∀ (l : List Tp) (i : Nat) (h : i < l.length), (flatT l)[i * 2]? = some (.string l[i].k) ∧ (flatT l)[i * 2 + 1]? = some (.string l[i].a)
  | [], i, h => by simp at h
  | x :: t, 0, _ => ⟨rfl, rfl⟩
  | x :: t, i + 1, h => by
    have := flatT_get t i (by simpa using h)
    have e1 : (i + 1) * 2 = i * 2 + 1 + 1 := by omega
    rw [e1]
    simpa [flatT] using this
theorem blk_tl {w : World} {g : Nat} {cs : Array Value} {l : List Tp} (h : Blk w g 38 cs) (hsz : ∀ x ∈ l, x.k.size ≤ 1000 ∧ x.a.size ≤ 1000) (hc : ∀ (i : Nat) (hi : i < l.length), cs[i * 2]? = some (.string l[i].k) ∧ cs[i * 2 + 1]? = some (.string l[i].a)) : TL w (some ⟨g, 0, none⟩) l :=
  ⟨hsz, fun _ => ⟨g, rfl, h.lt, fun i hi => ⟨h.cell _ _ (hc i hi).1, h.cell _ _ (hc i hi).2⟩⟩⟩
theorem row_tl {w : World} {base n cap : Nat} {A : Option Addr} {l : List Tp} (h : w.ownsRow base 38 2 (.slice A n cap) n (flatT l)) (L : l.length = n) (hsz : ∀ x ∈ l, x.k.size ≤ 1000 ∧ x.a.size ≤ 1000) : TL w A l := by
  refine ⟨hsz, fun h0 => ?_⟩
  obtain ⟨g, cap', hv, _, hlt⟩ := h.form (by omega)
  have hA : A = some ⟨g, 0, none⟩ := by injection hv
  subst hA
  refine ⟨g, rfl, hlt, fun i hi => ?_⟩
  have hc := h.cells (g := g) rfl
  have e1 := hc (i * 2) _ (flatT_get l i hi).1
  have e2 := hc (i * 2 + 1) _ (flatT_get l i hi).2
  rw [row_add] at e1 e2
  exact ⟨e1, e2⟩
theorem row_at {w : World} {base n cap B : Nat} {E S : Nat} {A : Option Addr} {xs : List Value} (h : w.ownsRow base E S (.slice A n cap) n xs) (hB : B < base) : AtT B A n := by
  rcases h.2 with ⟨e, e2⟩ | ⟨g, cap', cur, e, hb, _⟩
  · injection e with e1; exact Or.inl ⟨e1, e2⟩
  · injection e with e1; exact Or.inr ⟨g, e1, by omega⟩
theorem row_only {w w' : World} {B base E S n : Nat} {v : Value} {xs : List Value} (h : w.ownsRow base E S v n xs) (ho : Only B w w') (hB : B < base) : w'.ownsRow base E S v n xs :=
  h.kept (Gr.only ho) (by
    rcases hb : v.ownBlock with _ | g
    · exact Or.inl rfl
    · refine Or.inr ?_; have := h.lt g hb; intro e; injection e; omega)
theorem row_gr {B : Nat} {w0 w w' : World} {row : Option Nat} (g : Gr B w0 w) (h : w.grownBy w' row) (hr : ∀ g, row = some g → w0.heap.size ≤ g) : Gr B w0 w' :=
  ⟨h.os.trans g.os, h.tape.trans g.tape, h.output.trans g.output, Nat.le_trans g.size h.size, fun i hi hne =>
    (h.block i (Nat.lt_of_lt_of_le hi g.size) (fun e => by have := hr i e.symm; omega)).trans (g.block i hi hne)⟩

/-- What the makers of forests hand back. -/
def FGRet (B k d M : Nat) (w : World) (e : Ending) (w' : World) : Prop := ∃ (A : Option Addr) (n c : Nat) (l : List Tp), e = .returned (.slice A n c) ∧ l.length = n ∧ n ≤ M ∧ n ≤ c ∧ TL w' A l ∧ AtT B A n ∧ Gr B w w' ∧ Strm w' B (k + d)

def six (d ro ry : ByteArray) : List Tp := [⟨⟨#[97, 114, 116]⟩, ⟨#[]⟩⟩, ⟨⟨#[98, 114, 101, 97, 100]⟩, ⟨#[]⟩⟩, ⟨⟨#[99, 97, 107, 101]⟩, ⟨#[98, 114, 101, 97, 100]⟩⟩, ⟨⟨#[100, 97, 114, 107]⟩, d⟩, ⟨⟨#[114, 111, 108, 108, 115]⟩, ro⟩, ⟨⟨#[114, 121, 101]⟩, ry⟩]
theorem six_le {d ro ry : ByteArray} (h1 : d.size ≤ 1000) (h2 : ro.size ≤ 1000) (h3 : ry.size ≤ 1000) : ∀ x ∈ six d ro ry, x.k.size ≤ 1000 ∧ x.a.size ≤ 1000 := by
  intro x hx
  simp only [six, List.mem_cons, List.mem_nil_iff, or_false] at hx
  rcases hx with rfl | rfl | rfl | rfl | rfl | rfl <;> refine ⟨Nat.le_of_ble_eq_true rfl, ?_⟩ <;> first | exact Nat.le_of_ble_eq_true rfl | assumption
def sixC (d ro ry : ByteArray) : Array Value := #[.string ⟨#[97, 114, 116]⟩, .string ⟨#[]⟩, .string ⟨#[98, 114, 101, 97, 100]⟩, .string ⟨#[]⟩, .string ⟨#[99, 97, 107, 101]⟩, .string ⟨#[98, 114, 101, 97, 100]⟩, .string ⟨#[100, 97, 114, 107]⟩, .string d, .string ⟨#[114, 111, 108, 108, 115]⟩, .string ro, .string ⟨#[114, 121, 101]⟩, .string ry]
theorem six_cells (d ro ry : ByteArray) (n : Nat) : ∀ (i : Nat) (hi : i < ((six d ro ry).take n).length), (sixC d ro ry)[i * 2]? = some (.string ((six d ro ry).take n)[i].k) ∧ (sixC d ro ry)[i * 2 + 1]? = some (.string ((six d ro ry).take n)[i].a) := by
  intro i hi
  rw [List.getElem_take]
  have hi6 : i < 6 := by rw [List.length_take] at hi; have : (six d ro ry).length = 6 := rfl; omega
  rcases (by omega : i = 0 ∨ i = 1 ∨ i = 2 ∨ i = 3 ∨ i = 4 ∨ i = 5) with rfl | rfl | rfl | rfl | rfl | rfl <;> exact ⟨rfl, rfl⟩

set_option maxRecDepth 100000 in
set_option maxHeartbeats 8000000 in
theorem rightforest_any (B k : Nat) (w : World) (hs : Strm w B k) (hk : k ≤ 900000) :
    Calls Tryd.prog 4 #[.pointer (some ⟨B, 0, none⟩)] w (FGRet B k 5 6 w) := by
  have hB := hs.lt
  have HS := Lib.hid hs
  clear hs
  go_enter Tryd.func4, Tryd.ntmps4
  go_wp2_with fail
  refine (h06_le 1000 B k _ _ [⟨#[114, 121, 101]⟩, ⟨#[98, 114, 101, 97, 100]⟩, ⟨#[]⟩] _ _ _ (HS.out.keep (by go_grown)) (by omega) (by omega) (new_at rfl) (by simp) (by simp) (le_all (by decide +kernel))).mono ?_
  rintro e w1 ⟨d, hd, rfl, ho, hs⟩
  have G1 := Lib.hid (((Gr.refl B w).alloc (.cells #[.string ⟨#[114, 121, 101]⟩, .string ⟨#[98, 114, 101, 97, 100]⟩, .string ⟨#[]⟩] 9)).trans (Gr.only ho))
  have S1 := Lib.hid hs
  have hB1 := hs.lt
  clear ho hs HS
  go_wp2_with fail
  refine (h06_le 1000 B (k + 1) _ _ [⟨#[98, 114, 101, 97, 100]⟩, ⟨#[97, 114, 116]⟩] _ _ _ (S1.out.keep (by go_grown)) (by omega) (by omega) (new_at rfl) (by simp) (by simp) (le_all (by decide +kernel))).mono ?_
  rintro e w2 ⟨ro, hro, rfl, ho, hs⟩
  have G2 := Lib.hid ((G1.out.alloc (.cells #[.string ⟨#[98, 114, 101, 97, 100]⟩, .string ⟨#[97, 114, 116]⟩] 9)).trans (Gr.only ho))
  have S2 := Lib.hid hs
  have hB2 := hs.lt
  clear ho hs S1 G1
  go_wp2_with fail
  refine (h06_le 1000 B (k + 1 + 1) _ _ [⟨#[98, 114, 101, 97, 100]⟩, ⟨#[114, 111, 108, 108, 115]⟩, ⟨#[]⟩] _ _ _ (S2.out.keep (by go_grown)) (by omega) (by omega) (new_at rfl) (by simp) (by simp) (le_all (by decide +kernel))).mono ?_
  rintro e w3 ⟨ry, hry, rfl, ho, hs⟩
  have G3 := Lib.hid (((G2.out.alloc (.cells #[.string ⟨#[98, 114, 101, 97, 100]⟩, .string ⟨#[114, 111, 108, 108, 115]⟩, .string ⟨#[]⟩] 9)).trans (Gr.only ho)).alloc (.cells (sixC d ro ry) 38))
  have hB3 := hs.lt
  have S3 := Lib.hid (hs.keep (show Below (B + 1) w3 (w3.alloc (.cells (sixC d ro ry) 38)) by go_grown))
  have K3 := Lib.hid (Blk.new w3 38 (sixC d ro ry))
  have SLE := Lib.hid (six_le hd hro hry)
  have SC := Lib.hid (six_cells d ro ry)
  clear ho hs S2 G2
  unfold sixC at G3 S3 K3
  go_wp2_with fail
  refine (flip_any B (k + 1 + 1 + 1) 3 _ S3.out (by omega) (by omega) (by omega)).mono ?_
  rintro e w4 ⟨fl, rfl, ho, hs⟩
  have G4 := Lib.hid (G3.out.trans (Gr.only ho))
  have S4 := Lib.hid hs
  have K4 := Lib.hid (K3.out.only ho (by omega))
  have hBK : w3.heap.size ≠ B := by omega
  clear ho hs G3 S3 K3
  cases fl
  · have TL4 := Lib.hid (blk_tl (l := (six d ro ry).take 6) K4.out (fun x hx => SLE.out x (List.mem_of_mem_take hx)) (SC.out 6))
    obtain ⟨r, hr⟩ : ∃ r, forestE ((six d ro ry).take 6) = r := ⟨_, rfl⟩
    have HFW := Lib.hid (faultE_walk (some ⟨w3.heap.size, 0, none⟩) 6 6 _ w4 rfl (by omega) (Nat.le_refl _) TL4.out r (Lib.hid hr))
    clear hr
    go_wp2_with fail
    refine (HFW.out).mono ?_; rintro e w5 ⟨rfl, hb5⟩
    have G5 := Lib.hid (G4.out.trans (Gr.below hb5))
    have S5 := Lib.hid (S4.out.keep (hb5.mono (by have := S4.out.lt; omega)))
    have TL5 := Lib.hid (TL4.out.below hb5)
    clear hb5
    cases hr0 : (r != 0)
    all_goals
      go_wp2_with fail
      go_ret
      first
        | exact ⟨_, 6, 6, _, rfl, rfl, by omega, by omega, TL5.out, Or.inr ⟨_, rfl, hBK⟩, G5.out, S5.out.mono (by omega)⟩
        | exact ⟨none, 0, 0, [], rfl, rfl, by omega, by omega, TL.nil _ _, Or.inl ⟨rfl, rfl⟩, G5.out, S5.out.mono (by omega)⟩
  · go_wp2_with fail
    refine (next_any B (k + 1 + 1 + 1 + 1) 3 _ S4.out (by omega) (by omega) (by omega)).mono ?_
    rintro e w5 ⟨z, z0, z1, rfl, ho, hs⟩
    obtain ⟨m, rfl⟩ : ∃ m : Nat, z = m := ⟨z.toNat, by omega⟩
    have G5 := Lib.hid (G4.out.trans (Gr.only ho))
    have S5 := Lib.hid hs
    have K5 := Lib.hid (K4.out.only ho hBK)
    have TL5 := Lib.hid (blk_tl (l := (six d ro ry).take m) K5.out (fun x hx => SLE.out x (List.mem_of_mem_take hx)) (SC.out m))
    have hlm : ((six d ro ry).take m).length = m := by rw [List.length_take]; have : (six d ro ry).length = 6 := rfl; omega
    have HLM := Lib.hid hlm
    obtain ⟨r, hr⟩ : ∃ r, forestE ((six d ro ry).take m) = r := ⟨_, rfl⟩
    have HFW := Lib.hid (faultE_walk (some ⟨w3.heap.size, 0, none⟩) m 6 _ w5 hlm (by omega) (by omega) TL5.out r (Lib.hid hr))
    clear hr ho hs hlm
    go_wp2_with fail
    refine (HFW.out).mono ?_; rintro e w6 ⟨rfl, hb6⟩
    have G6 := Lib.hid (G5.out.trans (Gr.below hb6))
    have S6 := Lib.hid (S5.out.keep (hb6.mono (by have := S5.out.lt; omega)))
    have TL6 := Lib.hid (TL5.out.below hb6)
    clear hb6
    cases hr0 : (r != 0)
    all_goals
      go_wp2_with fail
      go_ret
      first
        | exact ⟨_, m, 6, _, rfl, HLM.out, by omega, by omega, TL6.out, Or.inr ⟨_, rfl, hBK⟩, G6.out, S6.out.mono (by omega)⟩
        | exact ⟨none, 0, 0, [], rfl, rfl, by omega, by omega, TL.nil _ _, Or.inl ⟨rfl, rfl⟩, G6.out, S6.out.mono (by omega)⟩
end Go.Proofs.YtnjigaklkalebaaDoor.For
