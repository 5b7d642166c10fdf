/-
  THE MAKER RightForest, EXACTLY.
-/
import Derived.Test.YtnjigaklkalebaaDoorStrD
import Derived.Test.YtnjigaklkalebaaDoorForGen
namespace Go.Proofs.YtnjigaklkalebaaDoor.For
open Go.ChangeShapes Go.WideShapes Go.ChangeAt Go.RowKit Stm Key
set_option linter.unusedVariables false

def strE : ByteArray := ⟨#[]⟩
def ryeL : List ByteArray := [⟨#[114, 121, 101]⟩, ⟨#[98, 114, 101, 97, 100]⟩, ⟨#[]⟩]
def breL : List ByteArray := [⟨#[98, 114, 101, 97, 100]⟩, ⟨#[97, 114, 116]⟩]
def rolL : List ByteArray := [⟨#[98, 114, 101, 97, 100]⟩, ⟨#[114, 111, 108, 108, 115]⟩, ⟨#[]⟩]
theorem ov_le (S : List Int) (c : Nat) (zs : List ByteArray) (h : 1 ≤ zs.length) (hz : zs.all (fun s => decide (s.size ≤ 1000)) = true) : (OV S c zs).size ≤ 1000 := le_all hz _ (ov_in S c zs h)
def rf6 (S : List Int) (c : Nat) : List Tp := six (OV S c ryeL) (OV S (c + 1) breL) (OV S (c + 1 + 1) rolL)
def rfM (S : List Int) (c : Nat) : Nat := if FD S (c + 1 + 1 + 1) 3 then (NV S (c + 1 + 1 + 1 + 1) 3).toNat else 6
/-- The forest that is made, and how many numbers have been drawn behind it. -/
def rfL (S : List Int) (c : Nat) : List Tp := if forestE ((rf6 S c).take (rfM S c)) ≠ 0 then [] else (rf6 S c).take (rfM S c)
def rfC (S : List Int) (c : Nat) : Nat := if FD S (c + 1 + 1 + 1) 3 then c + 5 else c + 4
theorem rfC_le (S : List Int) (c : Nat) : rfC S c ≤ c + 5 := by unfold rfC; split <;> omega
theorem rfL_ok (S : List Int) (c : Nat) : forestE (rfL S c) = 0 := by
  unfold rfL
  by_cases h : forestE ((rf6 S c).take (rfM S c)) = 0
  · rw [if_neg (by simpa using h)]; exact h
  · rw [if_pos h]; decide
/-- A list that is nil or lies at the head of a block that is new. -/
def AtN (w : World) (A : Option Addr) (n : Nat) : Prop := (A = none ∧ n = 0) ∨ ∃ g, A = some ⟨g, 0, none⟩ ∧ w.heap.size ≤ g
theorem AtN.atT {w : World} {A : Option Addr} {n : Nat} (h : AtN w A n) {B : Nat} (hB : B < w.heap.size) : AtT B A n := by
  rcases h with h | ⟨g, h1, h2⟩
  · exact Or.inl h
  · exact Or.inr ⟨g, h1, by omega⟩
/-- What the maker hands back, exactly. -/
def FDRet (D : Nat) (S : List Int) (B c : Nat) (l : List Tp) (c' : Nat) (w : World) (e : Ending) (w' : World) : Prop := ∃ (A : Option Addr) (n cap : Nat), e = .returned (.slice A n cap) ∧ l.length = n ∧ n ≤ 6 ∧ n ≤ cap ∧ TL w' A l ∧ AtN w A n ∧ Gr B w w' ∧ StrD D S w' B c'

set_option maxRecDepth 100000 in
set_option maxHeartbeats 8000000 in
theorem rightforest_det (D : Nat) (S : List Int) (B c : Nat) (w : World) (hs : StrD D S w B c) (hk : c ≤ 900000) :
    Calls Tryd.prog 4 #[.pointer (some ⟨B, 0, none⟩)] w (FDRet D S B c (rfL S c) (rfC S c) w) := by
  have hB := hs.lt
  have HS := Lib.hid hs
  have h1 := ov_le S c ryeL (by decide) (by decide +kernel)
  have h2 := ov_le S (c + 1) breL (by decide) (by decide +kernel)
  have h3 := ov_le S (c + 1 + 1) rolL (by decide) (by decide +kernel)
  have HL : Hid (rf6 S c = six (OV S c ryeL) (OV S (c + 1) breL) (OV S (c + 1 + 1) rolL)) := Lib.hid rfl
  have HFC : Hid (rfC S c = if FD S (c + 1 + 1 + 1) 3 then c + 5 else c + 4) := Lib.hid rfl
  have HFM : Hid (rfM S c = if FD S (c + 1 + 1 + 1) 3 then (NV S (c + 1 + 1 + 1 + 1) 3).toNat else 6) := Lib.hid rfl
  have HFL : Hid (rfL S c = if forestE ((rf6 S c).take (rfM S c)) ≠ 0 then [] else (rf6 S c).take (rfM S c)) := Lib.hid rfl
  have H1 := Lib.hid (fun W (hW : StrD D S W B c) (b cap : Nat) (hb : b ≠ B) (hc : W.heap[b]? = some (.cells (ryeL.map Value.string).toArray 9 (0, 0))) => h06_det D S B c b cap ryeL 9 (0, 0) W hW (by omega) hb hc (by decide) (by decide))
  have H2 := Lib.hid (fun W (hW : StrD D S W B (c + 1)) (b cap : Nat) (hb : b ≠ B) (hc : W.heap[b]? = some (.cells (breL.map Value.string).toArray 9 (0, 0))) => h06_det D S B (c + 1) b cap breL 9 (0, 0) W hW (by omega) hb hc (by decide) (by decide))
  have H3 := Lib.hid (fun W (hW : StrD D S W B (c + 1 + 1)) (b cap : Nat) (hb : b ≠ B) (hc : W.heap[b]? = some (.cells (rolL.map Value.string).toArray 9 (0, 0))) => h06_det D S B (c + 1 + 1) b cap rolL 9 (0, 0) W hW (by omega) hb hc (by decide) (by decide))
  have H4 := Lib.hid (fun W (hW : StrD D S W B (c + 1 + 1 + 1)) => flip_det D S B (c + 1 + 1 + 1) 3 W hW (by omega) (by omega) (by omega))
  have H5 := Lib.hid (fun W (hW : StrD D S W B (c + 1 + 1 + 1 + 1)) => next_det D S B (c + 1 + 1 + 1 + 1) 3 W hW (by omega) (by omega) (by omega))
  have hv := NV_bd S (c + 1 + 1 + 1 + 1) 3 (by omega)
  generalize OV S c ryeL = d at *
  generalize OV S (c + 1) breL = ro at *
  generalize OV S (c + 1 + 1) rolL = ry at *
  generalize FD S (c + 1 + 1 + 1) 3 = fl at *
  generalize NV S (c + 1 + 1 + 1 + 1) 3 = z at *
  obtain ⟨m, rfl⟩ : ∃ m : Nat, z = m := ⟨z.toNat, by omega⟩
  generalize rf6 S c = l6 at *
  generalize rfM S c = rm at *
  generalize rfC S c = rc at *
  generalize rfL S c = rl at *
  clear hs
  go_enter Tryd.func4, Tryd.ntmps4
  go_wp2_with fail
  refine (H1.out _ (HS.out.keep (by go_grown)) _ _ (by omega) (new_at rfl)).mono ?_
  rintro e w1 ⟨rfl, ho, hs⟩
  have G1 := Lib.hid (((Gr.refl B w).alloc (.cells #[.string ⟨#[114, 121, 101]⟩, .string ⟨#[98, 114, 101, 97, 100]⟩, .string ⟨#[]⟩] 9)).trans (Gr.only ho))
  have S1 := Lib.hid hs
  have hB1 := hs.lt
  have hz1 : w.heap.size ≤ w1.heap.size := G1.out.size
  clear ho hs HS H1
  go_wp2_with fail
  refine (H2.out _ (S1.out.keep (by go_grown)) _ _ (by omega) (new_at rfl)).mono ?_
  rintro e w2 ⟨rfl, ho, hs⟩
  have G2 := Lib.hid ((G1.out.alloc (.cells #[.string ⟨#[98, 114, 101, 97, 100]⟩, .string ⟨#[97, 114, 116]⟩] 9)).trans (Gr.only ho))
  have S2 := Lib.hid hs
  have hB2 := hs.lt
  have hz2 : w.heap.size ≤ w2.heap.size := G2.out.size
  clear ho hs S1 G1 H2
  go_wp2_with fail
  refine (H3.out _ (S2.out.keep (by go_grown)) _ _ (by omega) (new_at rfl)).mono ?_
  rintro e w3 ⟨rfl, ho, hs⟩
  have G3 := Lib.hid (((G2.out.alloc (.cells #[.string ⟨#[98, 114, 101, 97, 100]⟩, .string ⟨#[114, 111, 108, 108, 115]⟩, .string ⟨#[]⟩] 9)).trans (Gr.only ho)).alloc (.cells (sixC d ro ry) 38))
  have hz3 : w.heap.size ≤ w3.heap.size := by have := G3.out.size; have := ho.size; simp at this; omega
  have hB3 := hs.lt
  have S3 := Lib.hid (hs.keep (show Below (B + 1) w3 (w3.alloc (.cells (sixC d ro ry) 38)) by go_grown))
  have K3 := Lib.hid (Blk.new w3 38 (sixC d ro ry))
  have SLE := Lib.hid (six_le h1 h2 h3)
  have SC := Lib.hid (six_cells d ro ry)
  clear ho hs S2 G2 H3
  unfold sixC at G3 S3 K3
  go_wp2_with fail
  refine (H4.out _ S3.out).mono ?_
  rintro e w4 ⟨rfl, ho, hs⟩
  have G4 := Lib.hid (G3.out.trans (Gr.only ho))
  have S4 := Lib.hid hs
  have K4 := Lib.hid (K3.out.only ho (by omega))
  have hBK : w3.heap.size ≠ B := by omega
  clear ho hs G3 S3 K3 H4
  cases fl
  · have TL4 := Lib.hid (blk_tl (l := (six d ro ry).take 6) K4.out (fun x hx => SLE.out x (List.mem_of_mem_take hx)) (SC.out 6))
    obtain ⟨r, hr⟩ : ∃ r, forestE ((six d ro ry).take 6) = r := ⟨_, rfl⟩
    have HFW := Lib.hid (faultE_walk (some ⟨w3.heap.size, 0, none⟩) 6 6 _ w4 rfl (by omega) (Nat.le_refl _) TL4.out r (Lib.hid hr))
    have hm6 : rm = 6 := HFM.out.trans (if_neg (by simp))
    have HRL : Hid (rl = if r ≠ 0 then [] else (six d ro ry).take 6) := Lib.hid (by rw [HFL.out, HL.out, hm6, hr])
    have HRC : Hid (rc = c + 4) := Lib.hid (HFC.out.trans (if_neg (by simp)))
    clear hm6 hr HFL HFM HFC HL
    go_wp2_with fail
    refine (HFW.out).mono ?_; rintro e w5 ⟨rfl, hb5⟩
    have G5 := Lib.hid (G4.out.trans (Gr.below hb5))
    have S5 := Lib.hid (S4.out.keep (hb5.mono (by have := S4.out.lt; omega)))
    have TL5 := Lib.hid (TL4.out.below hb5)
    clear hb5
    by_cases hr0 : r = 0
    · have hrb : (r != 0) = false := by simpa using hr0
      have HE := Lib.hid (show rl = (six d ro ry).take 6 by rw [HRL.out, if_neg (by simpa using hr0)])
      clear hr0
      go_wp2_with fail
      go_ret
      exact ⟨_, 6, 6, rfl, by rw [HE.out]; rfl, by omega, by omega, by rw [HE.out]; exact TL5.out, Or.inr ⟨_, rfl, hz3⟩, G5.out, by rw [HRC.out]; exact S5.out⟩
    · have hrb : (r != 0) = true := by simpa using hr0
      have HE := Lib.hid (show rl = [] by rw [HRL.out, if_pos hr0])
      clear hr0
      go_wp2_with fail
      go_ret
      exact ⟨none, 0, 0, rfl, by rw [HE.out]; rfl, by omega, by omega, by rw [HE.out]; exact TL.nil _ _, Or.inl ⟨rfl, rfl⟩, G5.out, by rw [HRC.out]; exact S5.out⟩
  · go_wp2_with fail
    refine (H5.out _ S4.out).mono ?_
    rintro e w5 ⟨rfl, ho, hs⟩
    have G5 := Lib.hid (G4.out.trans (Gr.only ho))
    have S5 := Lib.hid hs
    have K5 := Lib.hid (K4.out.only ho hBK)
    have TL5 := Lib.hid (blk_tl (l := (six d ro ry).take m) K5.out (fun x hx => SLE.out x (List.mem_of_mem_take hx)) (SC.out m))
    have hlm : ((six d ro ry).take m).length = m := by rw [List.length_take]; have : (six d ro ry).length = 6 := rfl; omega
    have HLM := Lib.hid hlm
    obtain ⟨r, hr⟩ : ∃ r, forestE ((six d ro ry).take m) = r := ⟨_, rfl⟩
    have HFW := Lib.hid (faultE_walk (some ⟨w3.heap.size, 0, none⟩) m 6 _ w5 hlm (by omega) (by omega) TL5.out r (Lib.hid hr))
    have hm6 : rm = m := HFM.out.trans ((if_pos (by simp)).trans (Int.toNat_natCast m))
    have HRL : Hid (rl = if r ≠ 0 then [] else (six d ro ry).take m) := Lib.hid (by rw [HFL.out, HL.out, hm6, hr])
    have HRC : Hid (rc = c + 5) := Lib.hid (HFC.out.trans (if_pos (by simp)))
    clear hm6 hr ho hs hlm HFL HFM HFC HL H5
    go_wp2_with fail
    refine (HFW.out).mono ?_; rintro e w6 ⟨rfl, hb6⟩
    have G6 := Lib.hid (G5.out.trans (Gr.below hb6))
    have S6 := Lib.hid (S5.out.keep (hb6.mono (by have := S5.out.lt; omega)))
    have TL6 := Lib.hid (TL5.out.below hb6)
    clear hb6
    by_cases hr0 : r = 0
    · have hrb : (r != 0) = false := by simpa using hr0
      have HE := Lib.hid (show rl = (six d ro ry).take m by rw [HRL.out, if_neg (by simpa using hr0)])
      clear hr0
      go_wp2_with fail
      go_ret
      exact ⟨_, m, 6, rfl, by rw [HE.out]; exact HLM.out, by omega, by omega, by rw [HE.out]; exact TL6.out, Or.inr ⟨_, rfl, hz3⟩, G6.out, by rw [HRC.out]; exact S6.out⟩
    · have hrb : (r != 0) = true := by simpa using hr0
      have HE := Lib.hid (show rl = [] by rw [HRL.out, if_pos hr0])
      clear hr0
      go_wp2_with fail
      go_ret
      exact ⟨none, 0, 0, rfl, by rw [HE.out]; rfl, by omega, by omega, by rw [HE.out]; exact TL.nil _ _, Or.inl ⟨rfl, rfl⟩, G6.out, by rw [HRC.out]; exact S6.out⟩
end Go.Proofs.YtnjigaklkalebaaDoor.For
