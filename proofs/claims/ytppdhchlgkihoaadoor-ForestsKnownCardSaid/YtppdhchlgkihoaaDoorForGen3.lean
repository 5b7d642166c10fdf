/-
  THE CONTRACT OF THE MAKER Forest.
-/
import Derived.Test.YtppdhchlgkihoaaDoorForGen2
import Derived.Deep.AppendLies
import Derived.Deep.DrawnRows
import Derived.OwnWalk
namespace Go.Proofs.YtppdhchlgkihoaaDoor.For
open Go.ChangeShapes Go.WideShapes Go.ChangeAt Go.RowKit Stm Key
set_option linter.unusedVariables false

theorem row_gr2 {w w' : World} {B base E S n : Nat} {v : Value} {xs : List Value} (h : w.ownsRow base E S v n xs) (hg : Gr B w w') (hB : B < base) : w'.ownsRow base E S v n xs :=
  h.kept hg (by
    rcases hb : v.ownBlock with _ | g
    · exact Or.inl rfl
    · refine Or.inr ?_; have := h.lt g hb; intro e; injection e; omega)
theorem TopB.gr {w w' : World} {B g n : Nat} (h : TopB w g n) (hg : Gr B w w') (hne : g ≠ B) : TopB w' g n := by
  obtain ⟨cs, hb, hc⟩ := h
  exact ⟨cs, (hg.block g hb.lt (by simpa using hne)).trans hb, hc⟩
theorem gr_bel {B : Nat} {a b c : World} (h : Gr B a b) (k : Below a.heap.size b c) : Gr B a c := ⟨k.os.trans h.os, k.tape.trans h.tape, k.output.trans h.output, Nat.le_trans h.size k.size, fun i hi hne => (k.block i hi).trans (h.block i hi hne)⟩
theorem enc6 (j : Nat) (h : j < 6) : (Utf8.encode (97 + (j : Int))).size ≤ 4 := by
  rcases (by omega : j = 0 ∨ j = 1 ∨ j = 2 ∨ j = 3 ∨ j = 4 ∨ j = 5) with rfl | rfl | rfl | rfl | rfl | rfl <;> decide
theorem enc6' (j : Nat) (h : j < 6) : (Utf8.encode (97 + (j : Int) - 1)).size ≤ 4 := by
  rcases (by omega : j = 0 ∨ j = 1 ∨ j = 2 ∨ j = 3 ∨ j = 4 ∨ j = 5) with rfl | rfl | rfl | rfl | rfl | rfl <;> decide
theorem snoc_le {l : List Tp} {x : Tp} (h : ∀ x ∈ l, x.k.size ≤ 1000 ∧ x.a.size ≤ 1000) (h1 : x.k.size ≤ 1000) (h2 : x.a.size ≤ 1000) : ∀ y ∈ l ++ [x], y.k.size ≤ 1000 ∧ y.a.size ≤ 1000 := fun y hy => by
  rcases List.mem_append.1 hy with h3 | h3
  · exact h y h3
  · simp at h3; subst h3; exact ⟨h1, h2⟩

set_option maxRecDepth 100000 in
set_option maxHeartbeats 8000000 in
theorem forest_any (B k : Nat) (w : World) (hs : Strm w B k) (hk : k ≤ 800000) :
    Calls Tryd.prog 4 #[.pointer (some ⟨B, 0, none⟩)] w (FGRet B k 20 12 w) := by
  have HS := Lib.hid hs
  have hB := hs.lt
  clear hs
  go_enter Tryd.func4, Tryd.ntmps4
  go_wp2_with fail
  refine (rightforest_any B k w HS.out (by omega)).mono ?_
  rintro e w1 ⟨A, n, c, l, rfl, hl, hn, hnc, htl, hat, hgr, hst⟩
  have HL := Lib.hid hl
  have T1 := Lib.hid htl
  have AT := Lib.hid hat
  have G1 := Lib.hid hgr
  have S1 := Lib.hid hst
  have hB1 := hst.lt
  clear hl htl hat hgr hst HS
  go_wp2_with fail
  refine (flip_any B (k + 5) 12 _ S1.out (by omega) (by omega) (by omega)).mono ?_
  rintro e w2 ⟨fl, rfl, ho, hs⟩
  have G2 := Lib.hid (G1.out.trans (Gr.only ho))
  have S2 := Lib.hid hs
  have hB2 := hs.lt
  have T2 := Lib.hid (T1.out.gr (by rw [HL.out]; exact AT.out) (Gr.only ho))
  clear ho hs G1 S1 T1
  cases fl
  · have FIN := Lib.hid (show FGRet B k 20 12 w (.returned (.slice A n c)) w2 from ⟨A, n, c, l, rfl, HL.out, by omega, hnc, T2.out, AT.out, G2.out, S2.out.mono (by omega)⟩)
    go_wp2_with fail
    go_ret
    exact FIN.out
  have HCL := Lib.hid (clonet_any A n c l w2 T2.out HL.out (by omega) (by
    rcases AT.out with h | ⟨g, h, _⟩
    · exact Or.inl h
    · exact Or.inr ⟨g, h⟩))
  go_wp2_with fail
  refine (HCL.out).mono ?_
  rintro e w3 ⟨A3, c3, rfl, ho, hb⟩
  have G3 := Lib.hid (G2.out.trans (Gr.below hb))
  have S3 := Lib.hid (S2.out.keep (hb.mono (by omega)))
  have O3 := Lib.hid ho
  have SZ := Lib.hid T2.out.1
  have z2 := G2.out.size
  have z23 : w2.heap.size ≤ w3.heap.size := hb.size
  have hBz : B < w2.heap.size := hB2
  clear ho hb AT T2 G2 S2 HCL hnc
  go_wp2_with fail
  refine (next_any B (k + 5 + 1) 4 _ S3.out (by omega) (by omega) (by omega)).mono ?_
  rintro e w4 ⟨z, zl, zh, rfl, ho, hs⟩
  have G4 := Lib.hid (G3.out.trans (Gr.only ho))
  have S4 := Lib.hid hs
  have hB4 := hs.lt
  have O4 := Lib.hid (row_only O3.out ho hBz)
  have z4 := G4.out.size
  have z24 : w2.heap.size ≤ w4.heap.size := by have := ho.size; omega
  clear z23
  clear ho hs G3 S3 O3
  rcases (by omega : z = 0 ∨ z = 1 ∨ z = 2 ∨ z = 3) with rfl | rfl | rfl | rfl
  · go_wp2_with fail
    refine (h06_le 1000 B (k + 5 + 1 + 1) _ _ [⟨#[]⟩, ⟨#[97]⟩, ⟨#[122, 101, 98, 114, 97]⟩, ⟨#[90]⟩] _ _ _ (S4.out.keep (by go_grown)) (by omega) (by omega) (new_at rfl) (by simp) (by simp) (le_all (by decide +kernel))).mono ?_
    rintro e w5 ⟨kx, hkx, rfl, ho, hs⟩
    have Q5 := Lib.hid (((Gr.refl B w4).alloc (.cells #[.string ⟨#[]⟩, .string ⟨#[97]⟩, .string ⟨#[122, 101, 98, 114, 97]⟩, .string ⟨#[90]⟩] 9)).trans (Gr.only ho))
    have S5 := Lib.hid hs
    have hB5 := hs.lt
    clear ho hs S4
    go_wp2_with fail
    refine (h06_le 1000 B (k + 5 + 1 + 1 + 1) _ _ [⟨#[]⟩, ⟨#[97, 114, 116]⟩, ⟨#[110, 111]⟩, ⟨#[78]⟩] _ _ _ (S5.out.keep (by go_grown)) (by omega) (by omega) (new_at rfl) (by simp) (by simp) (le_all (by decide +kernel))).mono ?_
    rintro e w6 ⟨ax, hax, rfl, ho, hs⟩
    have Q6 := Lib.hid (Q5.out.trans (((Gr.refl B w5).alloc (.cells #[.string ⟨#[]⟩, .string ⟨#[97, 114, 116]⟩, .string ⟨#[110, 111]⟩, .string ⟨#[78]⟩] 9)).trans (Gr.only ho)))
    have S6 := Lib.hid hs
    have hB6 := hs.lt
    have O6 := Lib.hid (row_gr2 O4.out Q6.out hBz)
    have G6 := Lib.hid (G4.out.trans Q6.out)
    have z6 := Q6.out.size
    have FL := Lib.hid (flatT_snoc l ⟨kx, ax⟩)
    clear ho hs S5 Q5 O4 G4
    obtain ⟨i0, hi0, hz0, hz1', hz2⟩ := info_parts infoT
    have HI := Lib.hid hi0
    have Z0 := Lib.hid hz0
    have Z1 := Lib.hid hz1'
    have Z2 := Lib.hid hz2
    clear hi0 hz0 hz1' hz2
    go_wp2_with (at_builtin; (refine wpList_append_lies _ rfl _ _ _ rfl w2.heap.size 50 i0 _ 2 32 Tryd.underlying26 HI.out Z0.out Z1.out Z2.out rfl (by omega) (.slice A3 n c3) n (flatT l) rfl (O6.out.alloc _) ⟨w6.heap.size, 0, none⟩ 1 1 [.string kx, .string ax] rfl rfl (World.news_of_block (cs := #[.string kx, .string ax]) (t := 50) (fr := (0, 0)) (heap_alloc_new w6 _)) (by simp [Value.oneCell']) (by omega) (by unfold maxLen; omega) (by omega) (by simp; omega) (w6.heap.size + 1) (by simp) ?_); intro gg cap' w7 hown hgrow hat hgl; (have O7 := Lib.hid (show w7.ownsRow w2.heap.size 50 2 _ (n + 1) (flatT (l ++ [(⟨kx, ax⟩ : Tp)])) by rw [FL.out]; exact hown)); (have G7 := Lib.hid (row_gr (G6.out.alloc (.cells #[.string kx, .string ax] 50)) hgrow (fun g e => by have := (O6.out.lt g e).1; omega))); (have S7 := Lib.hid (S6.out.keep (((Below.refl _ _).alloc (by omega) (.cells #[.string kx, .string ax] 50)).trans (grown_below hgrow (fun g e => by have := (O6.out.lt g e).1; omega) (by simp; omega))))); clear hown hgrow hat)
    have FIN := Lib.hid (show FGRet B k 20 12 w (.returned (.slice (some ⟨gg, 0, none⟩) (n + 1 : Nat) cap')) w7 from ⟨_, n + 1, cap', l ++ [⟨kx, ax⟩], rfl, by simp [HL.out], by omega, row_cap O7.out, row_tl O7.out (by simp [HL.out]) (snoc_le SZ.out hkx hax), row_at O7.out hBz, G7.out, S7.out.mono (by omega)⟩)
    go_wp2_with fail
    go_ret
    exact FIN.out
  · by_cases hn0 : n = 0
    · have FIN := Lib.hid (show FGRet B k 20 12 w (.returned (.slice A3 n c3)) w4 from ⟨A3, n, c3, l, rfl, HL.out, by omega, row_cap O4.out, row_tl O4.out HL.out SZ.out, row_at O4.out hBz, G4.out, S4.out.mono (by omega)⟩)
      subst hn0
      go_wp2_with fail
      go_ret
      exact FIN.out
    · obtain ⟨g, cap', hv, hgw, hlt2⟩ := O4.out.form (by omega)
      obtain ⟨rfl, _, rfl⟩ : A3 = some ⟨g, 0, none⟩ ∧ True ∧ c3 = cap' := by injection hv with a b c; exact ⟨a, trivial, c⟩
      have hcap := row_cap O4.out
      have K4 := Lib.hid (row_topb O4.out HL.out SZ.out)
      have hnp : (n : Int) > 0 := by omega
      clear hv O4
      go_wp2_with fail
      refine (next_any B (k + 5 + 1 + 1) n _ S4.out (by omega) (by omega) (by omega)).mono ?_
      rintro e w5 ⟨kk, h0, h1, rfl, ho, hs⟩
      obtain ⟨kk, rfl⟩ : ∃ z : Nat, kk = z := ⟨kk.toNat, by omega⟩
      have G5 := Lib.hid (G4.out.trans (Gr.only ho))
      have K5 := Lib.hid (K4.out.gr (Gr.only ho) (by omega))
      have S5 := Lib.hid hs
      have hB5 := hs.lt
      have hg5 := K5.out.lt
      clear ho hs G4 K4 S4
      go_wp2_with fail
      refine (h06_le 1000 B (k + 5 + 1 + 1 + 1) _ _ [⟨#[100, 97, 114, 107]⟩, ⟨#[114, 121, 101]⟩, ⟨#[114, 111, 108, 108, 115]⟩, ⟨#[99, 97, 107, 101]⟩, ⟨#[110, 111]⟩] _ _ _ (S5.out.keep (by go_grown)) (by omega) (by omega) (new_at rfl) (by simp) (by simp) (le_all (by decide +kernel))).mono ?_
      rintro e w6 ⟨ax, hax, rfl, ho, hs⟩
      have Q6 := Lib.hid (((Gr.refl B w5).alloc (.cells #[.string ⟨#[100, 97, 114, 107]⟩, .string ⟨#[114, 121, 101]⟩, .string ⟨#[114, 111, 108, 108, 115]⟩, .string ⟨#[99, 97, 107, 101]⟩, .string ⟨#[110, 111]⟩] 9)).trans (Gr.only ho))
      have G6 := Lib.hid (G5.out.trans Q6.out)
      have K6 := Lib.hid (K5.out.gr Q6.out (by omega))
      have S6 := Lib.hid hs
      have hB6 := hs.lt
      have hg6 := K6.out.lt
      clear ho hs G5 K5 S5 Q6
      obtain ⟨s0, hs0, c0⟩ := K6.out.cell (kk * 2 + 1) (by omega)
      have f0 := K6.out.frozen (kk * 2 + 1)
      have FIN : Hid (FGRet B k 20 12 w (.returned (.slice (some ⟨g, 0, none⟩) n c3)) (w6.setCell ⟨g, kk * 2 + 1, none⟩ (.string ax))) := by
        obtain ⟨l', hl', ht'⟩ := topb_tl (K6.out.set (kk * 2 + 1) ax hax)
        exact Lib.hid ⟨_, n, c3, l', rfl, hl', by omega, hcap, ht', Or.inr ⟨g, rfl, by omega⟩, G6.out.setCell (p := ⟨g, kk * 2 + 1, none⟩) (by show w.heap.size ≤ g; omega) _, (S6.out.keep ((Below.refl _ _).setCell (p := ⟨g, kk * 2 + 1, none⟩) (by show B + 1 ≤ g; omega) _)).mono (by omega)⟩
      go_wp2_with fail
      go_ret
      exact FIN.out
  · have HL3 := HL
    have SZ3 := SZ
    clear HL SZ
    obtain ⟨i0, hi0, hz0, hz1', hz2⟩ := info_parts infoT
    have HI := Lib.hid hi0
    have Z0 := Lib.hid hz0
    have Z1 := Lib.hid hz1'
    have Z2 := Lib.hid hz2
    clear hi0 hz0 hz1' hz2
    go_wp2_with fail
    go_loopw [3, 45] (fun a b wr => ∃ (j m : Nat) (Aj : Option Addr) (cj : Nat) (l' : List Tp), j ≤ 6 ∧ m ≤ n + j ∧ a = .slice Aj m cj ∧ b = .int .i64 j ∧ l'.length = m ∧ w2.heap.size ≤ wr.heap.size ∧ Hid (∀ x ∈ l', x.k.size ≤ 1000 ∧ x.a.size ≤ 1000) ∧ Hid (wr.ownsRow w2.heap.size 50 2 (.slice Aj m cj) m (flatT l')) ∧ Hid (Gr B w wr) ∧ Hid (Strm wr B (k + 5 + 1 + 1))) (fun _ b _ => 6 - (intOf b).toNat)
    case atStart => exact ⟨0, n, A3, c3, l, by omega, by omega, rfl, rfl, HL3.out, z24, SZ3, O4, G4, S4⟩
    case round =>
      obtain ⟨j, m, Aj, cj, l', hj, hm, rfl, rfl, hl', z2r, HX, HO, HG, HST⟩ := hrel
      have HL2 := Lib.hid hl'
      have hzr := HG.out.size
      have hBr := HST.out.lt
      clear hl' O4 G4 S4 HL3 SZ3
      by_cases hlt : j < 6
      · have hen := enc6 j hlt
        have hen2 := enc6' j hlt
        have h120 : (⟨#[120]⟩ : ByteArray).size = 1 := rfl
        have hsum : (⟨#[120]⟩ : ByteArray).size + (Utf8.encode (97 + (j : Int))).size ≤ 9223372036854775807 := by omega
        have hsum2 : (⟨#[120]⟩ : ByteArray).size + (Utf8.encode (97 + (j : Int) - 1)).size ≤ 9223372036854775807 := by omega
        have hkx : ((⟨#[120]⟩ : ByteArray) ++ Utf8.encode (97 + (j : Int))).size ≤ 1000 := by rw [ByteArray.size_append]; omega
        have hax : ((⟨#[120]⟩ : ByteArray) ++ Utf8.encode (97 + (j : Int) - 1)).size ≤ 1000 := by rw [ByteArray.size_append]; omega
        have hw32 : IntKind.i32.wrap (97 + (j : Int)) = 97 + (j : Int) := by
          rcases (by omega : j = 0 ∨ j = 1 ∨ j = 2 ∨ j = 3 ∨ j = 4 ∨ j = 5) with rfl | rfl | rfl | rfl | rfl | rfl <;> rfl
        have hw33 : IntKind.i32.wrap (97 + (j : Int) - 1) = 97 + (j : Int) - 1 := by
          rcases (by omega : j = 0 ∨ j = 1 ∨ j = 2 ∨ j = 3 ∨ j = 4 ∨ j = 5) with rfl | rfl | rfl | rfl | rfl | rfl <;> rfl
        clear h120
        have hd : (j : Int) < 6 := by omega
        have HJ0 : (0 : Int) ≤ (j : Int) := by omega
        have HLT := Lib.hid hlt
        have HM := Lib.hid hm
        have HK := Lib.hid hkx
        have HA := Lib.hid hax
        have HS2 := Lib.hid hsum2
        have HW3 := Lib.hid hw33
        clear hj hlt hm hen hen2 hsum2 hw33 hkx hax
        go_upto_region 15 with fail
        go_upto_region 16 with fail
        have hkx := HK.out
        clear HK hsum hw32
        generalize (⟨#[120]⟩ : ByteArray) ++ Utf8.encode (97 + (j : Int)) = kx at hkx ⊢
        by_cases hj0 : j = 0
        · have hjn : ¬ ((j : Int) > 0) := by omega
          have GW := Lib.hid (HG.out.alloc (.cells #[.string kx, .string ⟨#[]⟩] 50))
          have OWN := Lib.hid (HO.out.alloc (.cells #[.string kx, .string ⟨#[]⟩] 50))
          have SW := Lib.hid (HST.out.keep ((Below.refl (B + 1) wr).alloc (by omega) (.cells #[.string kx, .string ⟨#[]⟩] 50)))
          have FL := Lib.hid (flatT_snoc l' ⟨kx, ⟨#[]⟩⟩)
          have HJN := Lib.hid hj0
          clear HA HS2 HW3 HG HO HST hj0
          go_wp2_with (at_builtin; go_loud (refine wpList_append_lies _ rfl _ _ _ rfl w2.heap.size 50 i0 _ 2 32 Tryd.underlying26 HI.out Z0.out Z1.out Z2.out rfl (by omega) (.slice Aj m cj) m (flatT l') rfl (OWN.out.alloc _) ⟨wr.heap.size + 1, 0, none⟩ 1 1 [.string kx, .string ⟨#[]⟩] rfl rfl (World.news_of_block (cs := #[.string kx, .string ⟨#[]⟩]) (t := 50) (fr := (0, 0)) (fresh_at (w := wr.alloc (.cells #[.string kx, .string ⟨#[]⟩] 50)) (by simp))) (by simp [Value.oneCell']) (by have := HM.out; have := HLT.out; omega) (by have := HM.out; have := HLT.out; unfold maxLen; omega) (by have := HM.out; have := HLT.out; omega) (by have := HM.out; have := HLT.out; simp; omega) (wr.heap.size + 1 + 1) (by simp) ?_; intro gg cap' w7 hown hgrow hat hgl; (have O7 := Lib.hid (show w7.ownsRow w2.heap.size 50 2 _ (m + 1) (flatT (l' ++ [(⟨kx, ⟨#[]⟩⟩ : Tp)])) by rw [FL.out]; exact hown)); (have G7 := Lib.hid (row_gr (GW.out.alloc (.cells #[.string kx, .string ⟨#[]⟩] 50)) hgrow (fun g e => by have := (OWN.out.lt g e).1; omega))); (have S7 := Lib.hid (SW.out.keep (((Below.refl _ _).alloc (by simp; omega) (.cells #[.string kx, .string ⟨#[]⟩] 50)).trans (grown_below hgrow (fun g e => by have := (OWN.out.lt g e).1; omega) (by simp; omega))))); (have z27 : w2.heap.size ≤ w7.heap.size := by have := hgrow.size; simp at this; omega); clear hown hgrow hat))
          go_roundw
          case rel => exact ⟨j + 1, m + 1, some ⟨gg, 0, none⟩, cap', l' ++ [⟨kx, ⟨#[]⟩⟩], by have := HLT.out; omega, by have := HM.out; omega, by go_num, by go_num, by simp [HL2.out], z27, Lib.hid (snoc_le HX.out hkx (Nat.zero_le _)), O7, G7, S7⟩
          case measure => simp [intOf]; omega
        · have hjp : (j : Int) > 0 := by omega
          have hsum2 := HS2.out
          have hw33 := HW3.out
          have hax := HA.out
          have GW := Lib.hid (HG.out.alloc (.cells #[.string kx, .string ((⟨#[120]⟩ : ByteArray) ++ Utf8.encode (97 + (j : Int) - 1))] 50))
          have OWN := Lib.hid (HO.out.alloc (.cells #[.string kx, .string ((⟨#[120]⟩ : ByteArray) ++ Utf8.encode (97 + (j : Int) - 1))] 50))
          have SW := Lib.hid (HST.out.keep ((Below.refl (B + 1) wr).alloc (by omega) (.cells #[.string kx, .string ((⟨#[120]⟩ : ByteArray) ++ Utf8.encode (97 + (j : Int) - 1))] 50)))
          have FL := Lib.hid (flatT_snoc l' ⟨kx, ((⟨#[120]⟩ : ByteArray) ++ Utf8.encode (97 + (j : Int) - 1))⟩)
          clear HA HS2 HW3 HG HO HST hj0
          go_wp2_with (at_builtin; go_loud (refine wpList_append_lies _ rfl _ _ _ rfl w2.heap.size 50 i0 _ 2 32 Tryd.underlying26 HI.out Z0.out Z1.out Z2.out rfl (by omega) (.slice Aj m cj) m (flatT l') rfl (OWN.out.alloc _) ⟨wr.heap.size + 1, 0, none⟩ 1 1 [.string kx, .string ((⟨#[120]⟩ : ByteArray) ++ Utf8.encode (97 + (j : Int) - 1))] rfl rfl (World.news_of_block (cs := #[.string kx, .string ((⟨#[120]⟩ : ByteArray) ++ Utf8.encode (97 + (j : Int) - 1))]) (t := 50) (fr := (0, 0)) (fresh_at (w := wr.alloc (.cells #[.string kx, .string ((⟨#[120]⟩ : ByteArray) ++ Utf8.encode (97 + (j : Int) - 1))] 50)) (by simp))) (by simp [Value.oneCell']) (by have := HM.out; have := HLT.out; omega) (by have := HM.out; have := HLT.out; unfold maxLen; omega) (by have := HM.out; have := HLT.out; omega) (by have := HM.out; have := HLT.out; simp; omega) (wr.heap.size + 1 + 1) (by simp) ?_; intro gg cap' w7 hown hgrow hat hgl; (have O7 := Lib.hid (show w7.ownsRow w2.heap.size 50 2 _ (m + 1) (flatT (l' ++ [(⟨kx, ((⟨#[120]⟩ : ByteArray) ++ Utf8.encode (97 + (j : Int) - 1))⟩ : Tp)])) by rw [FL.out]; exact hown)); (have G7 := Lib.hid (row_gr (GW.out.alloc (.cells #[.string kx, .string ((⟨#[120]⟩ : ByteArray) ++ Utf8.encode (97 + (j : Int) - 1))] 50)) hgrow (fun g e => by have := (OWN.out.lt g e).1; omega))); (have S7 := Lib.hid (SW.out.keep (((Below.refl _ _).alloc (by simp; omega) (.cells #[.string kx, .string ((⟨#[120]⟩ : ByteArray) ++ Utf8.encode (97 + (j : Int) - 1))] 50)).trans (grown_below hgrow (fun g e => by have := (OWN.out.lt g e).1; omega) (by simp; omega))))); (have z27 : w2.heap.size ≤ w7.heap.size := by have := hgrow.size; simp at this; omega); clear hown hgrow hat))
          go_roundw
          case rel => exact ⟨j + 1, m + 1, some ⟨gg, 0, none⟩, cap', l' ++ [⟨kx, ((⟨#[120]⟩ : ByteArray) ++ Utf8.encode (97 + (j : Int) - 1))⟩], by have := HLT.out; omega, by have := HM.out; omega, by go_num, by go_num, by simp [HL2.out], z27, Lib.hid (snoc_le HX.out hkx hax), O7, G7, S7⟩
          case measure => simp [intOf]; omega
      · have hj6 : j = 6 := by omega
        subst hj6
        have FIN := Lib.hid (show FGRet B k 20 12 w (.returned (.slice Aj m cj)) wr from ⟨Aj, m, cj, l', rfl, HL2.out, by omega, row_cap HO.out, row_tl HO.out HL2.out HX.out, row_at HO.out hBz, HG.out, HST.out.mono (by omega)⟩)
        go_wp2_with fail
        go_ret
        exact FIN.out
  · have HR := Lib.hid (reverse_any A3 n c3 w4 (by omega) (by
      by_cases hn0 : n = 0
      · exact Or.inl hn0
      · obtain ⟨g, cap', hv, hgw, hlt2⟩ := O4.out.form (by omega)
        obtain ⟨rfl, _, rfl⟩ : A3 = some ⟨g, 0, none⟩ ∧ True ∧ c3 = cap' := by injection hv with a b c; exact ⟨a, trivial, c⟩
        exact Or.inr ⟨g, rfl, row_topb O4.out HL.out SZ.out⟩))
    go_wp2_with fail
    refine (HR.out).mono ?_
    rintro e w5 ⟨rfl, h⟩
    have FIN : Hid (FGRet B k 20 12 w (.returned (.slice A3 n c3)) w5) := by
      rcases h with ⟨h0, rfl⟩ | ⟨g, hA, ht, ho⟩
      · exact Lib.hid ⟨A3, n, c3, l, rfl, HL.out, by omega, row_cap O4.out, row_tl O4.out HL.out SZ.out, row_at O4.out hBz, G4.out, S4.out.mono (by omega)⟩
      · obtain ⟨l', hl', ht'⟩ := topb_tl ht
        subst hA
        have hg : w2.heap.size ≤ g := (O4.out.lt g rfl).1
        exact Lib.hid ⟨_, n, c3, l', rfl, hl', by omega, row_cap O4.out, ht', Or.inr ⟨g, rfl, by omega⟩, gr_bel G4.out (ho.below (by omega)), (S4.out.keep (ho.below (by omega))).mono (by omega)⟩
    clear h
    go_wp2_with fail
    go_ret
    exact FIN.out
end Go.Proofs.YtppdhchlgkihoaaDoor.For
