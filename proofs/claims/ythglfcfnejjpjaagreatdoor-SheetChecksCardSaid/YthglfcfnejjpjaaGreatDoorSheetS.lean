/-
  THE CONTRACTS OF missing, Missing AND Differ.
-/
import Derived.Test.YthglfcfnejjpjaaGreatDoorSheetR
namespace Go.Proofs.YthglfcfnejjpjaaGreatDoor.Rev
open Go.ChangeShapes Go.WideShapes Go.ChangeAt Go.RowKit Stm Key
set_option linter.unusedVariables false

set_option maxRecDepth 100000 in
theorem missing_walk (F B : Nat) (A : Option Addr) (n cap : Nat) (qs : List Qs) (A2 : Option Addr) (n2 c2 : Nat) (l : List An) (w : World) (hE : sheetE qs = 0) (hn : qs.length = n) (hq : QL B w A qs) (hF : SM w F A n cap qs) (hl : AL w A2 l) (hn2 : l.length = n2) (h8 : n2 ≤ 1000) :
    Calls Tryz.prog 23 #[.pointer (some ⟨F, 0, none⟩), .slice A2 n2 c2] w (StrRet (missS qs l) w) := by
  have hb0 : Below w.heap.size w (w.alloc (.cells #[.slice A2 n2 c2] 28)) := (Below.refl _ _).alloc (Nat.le_refl _) _
  have H := Lib.hid (keys44 w.heap.size l F B A n cap qs (w.alloc (.cells #[.slice A2 n2 c2] 28)) hE hn (hq.below hb0) (hF.below hb0) (fun W hW q hk Ao m co => fn44 w.heap.size A2 n2 c2 l _ ((Blk.new w 28 #[.slice A2 n2 c2]).cell 0 _ rfl) (by simp) (hl.below hb0) hn2 h8 W hW q Ao m co))
  have HB := Lib.hid hb0
  clear hE hn hq hF hl hn2 hb0
  go_enter Tryz.func23, Tryz.ntmps23
  go_wp2_with fail
  refine (H.out).mono ?_; rintro e w1 ⟨A3, m, c, rfl, hm, hs, hb⟩
  have HS := Lib.hid hs
  have HM := Lib.hid hm
  have B1 := Lib.hid (HB.out.trans (hb.mono HB.out.size))
  clear hm hs hb H
  go_wp2_with fail
  go_ret
  exact ⟨A3, m, c, rfl, HM.out, HS.out, B1.out⟩

/-- What Missing and Differ hand back. -/
def ErrRet (res : List ByteArray) (r : Int) (w : World) (e : Ending) (w' : World) : Prop := ∃ (A : Option Addr) (m c : Nat), e = .returned (.tuple #[.slice A m c, .int .i64 r]) ∧ (r = 0 → m = res.length ∧ SL w' A res) ∧ (r ≠ 0 → m = 0) ∧ Below w.heap.size w w'
def oneE (qs : List Qs) (l : List An) : Int := if sheetE qs = 0 then ansFault qs l else sheetE qs
def twoE (qs : List Qs) (a b : List An) : Int := if oneE qs a = 0 then ansFault qs b else oneE qs a

set_option maxRecDepth 100000 in
set_option maxHeartbeats 4000000 in
theorem missingp_walk (B : Nat) (A : Option Addr) (n cap : Nat) (qs : List Qs) (A2 : Option Addr) (n2 c2 : Nat) (l : List An) (w : World) (hn : qs.length = n) (hn8 : n ≤ 1000) (hnc : n ≤ cap) (hq : QL B w A qs) (hl : AL w A2 l) (hn2 : l.length = n2) (h8 : n2 ≤ 1000)
    (hT : Tabs w) (hg : gTop ≤ w.heap.size) : Calls Tryz.prog 6 #[.slice A n cap, .slice A2 n2 c2] w (ErrRet (missS qs l) (oneE qs l) w) := by
  obtain ⟨r, hr⟩ : ∃ r, sheetE qs = r := ⟨_, rfl⟩
  have HRR := Lib.hid hr
  have H1 := Lib.hid (newsheet_walk B A n cap qs w hn hn8 hnc hq r HRR)
  by_cases h0 : r = 0
  · subst h0
    obtain ⟨f, hf⟩ : ∃ f, ansFault qs l = f := ⟨_, rfl⟩
    have HF := Lib.hid hf
    have hone : oneE qs l = f := by unfold oneE; rw [hr, if_pos rfl]; exact hf
    rw [hone]
    have H2 := Lib.hid (fun (W : World) (hW : Below w.heap.size w W) (F : Nat) (hF : SM W F A n cap qs) => check_walk F B A n cap qs A2 n2 c2 l W hr hn (hq.below hW) hF (hl.below hW) hn2 h8 (hT.below (hW.mono hg)) (Nat.le_trans hg hW.size) f HF)
    have H3 := Lib.hid (fun (W : World) (hW : Below w.heap.size w W) (F : Nat) (hF : SM W F A n cap qs) => missing_walk F B A n cap qs A2 n2 c2 l W hr hn (hq.below hW) hF (hl.below hW) hn2 h8)
    clear hn hq hl hn2 hT hr hf hone
    go_enter Tryz.func6, Tryz.ntmps6
    go_wp2_with fail
    refine (H1.out).mono ?_; rintro e w1 ⟨F, hor, hb⟩
    have B1 := Lib.hid hb
    rcases hor with ⟨h, _⟩ | ⟨_, rfl, hF1, hsm⟩
    · exact absurd rfl h
    have SM1 := Lib.hid hsm
    clear hb hsm hF1
    go_wp2_with fail
    refine (H2.out _ B1.out F SM1.out).mono ?_; rintro e w2 ⟨rfl, hb⟩
    have B2 := Lib.hid (B1.out.trans (hb.mono B1.out.size))
    have SM2 := Lib.hid (SM1.out.below hb)
    clear hb SM1
    by_cases hf0 : f = 0
    · subst hf0
      go_wp2_with fail
      refine (H3.out _ B2.out F SM2.out).mono ?_; rintro e w3 ⟨A3, m, c, rfl, hm, hs, hb⟩
      have HS := Lib.hid hs
      have HM := Lib.hid hm
      have B3 := Lib.hid (B2.out.trans (hb.mono B2.out.size))
      clear hb hm hs
      go_wp2_with fail
      go_ret2
      exact ⟨A3, m, c, rfl, fun _ => ⟨HM.out, HS.out⟩, fun h => absurd rfl h, B3.out⟩
    · have hb0 : (f != 0) = true := by rw [bne_iff_ne]; exact hf0
      have HF0 := Lib.hid hf0
      clear hf0
      go_wp2_with fail
      go_ret2
      exact ⟨none, 0, 0, rfl, fun h => absurd h HF0.out, fun _ => rfl, B2.out⟩
  · have hone : oneE qs l = r := by unfold oneE; rw [hr, if_neg h0]
    rw [hone]
    have hb0 : (r != 0) = true := by rw [bne_iff_ne]; exact h0
    have HF0 := Lib.hid h0
    clear hn hq hl hn2 hT hr hone h0
    go_enter Tryz.func6, Tryz.ntmps6
    go_wp2_with fail
    refine (H1.out).mono ?_; rintro e w1 ⟨F, hor, hb⟩
    have B1 := Lib.hid hb
    rcases hor with ⟨_, rfl⟩ | ⟨h, _⟩
    · clear hb
      go_wp2_with fail
      go_ret2
      exact ⟨none, 0, 0, rfl, fun h => absurd h HF0.out, fun _ => rfl, B1.out⟩
    · exact absurd h HF0.out

set_option maxRecDepth 100000 in
set_option maxHeartbeats 8000000 in
theorem differp_walk (B : Nat) (A : Option Addr) (n cap : Nat) (qs : List Qs) (A1 : Option Addr) (n1 c1 : Nat) (a : List An) (A2 : Option Addr) (n2 c2 : Nat) (b : List An) (w : World) (hn : qs.length = n) (hn8 : n ≤ 1000) (hnc : n ≤ cap) (hq : QL B w A qs) (ha : AL w A1 a) (hn1 : a.length = n1) (h81 : n1 ≤ 1000) (hb : AL w A2 b) (hn2 : b.length = n2) (h82 : n2 ≤ 1000)
    (hT : Tabs w) (hg : gTop ≤ w.heap.size) : Calls Tryz.prog 7 #[.slice A n cap, .slice A1 n1 c1, .slice A2 n2 c2] w (ErrRet (diffS qs a b) (twoE qs a b) w) := by
  obtain ⟨r, hr⟩ : ∃ r, sheetE qs = r := ⟨_, rfl⟩
  have HRR := Lib.hid hr
  have hb0 : Below w.heap.size w ((w.alloc (.cells #[.slice A1 n1 c1] 28)).alloc (.cells #[.slice A2 n2 c2] 28)) := ((Below.refl _ _).alloc (Nat.le_refl _) _).alloc (by simp) _
  have H1 := Lib.hid (newsheet_walk B A n cap qs _ hn hn8 hnc (hq.below hb0) r HRR)
  have B0 := Lib.hid hb0
  have KA := Lib.hid ((Blk.new w 28 #[.slice A1 n1 c1]).alloc (.cells #[.slice A2 n2 c2] 28))
  have KB := Lib.hid (show Blk ((w.alloc (.cells #[.slice A1 n1 c1] 28)).alloc (.cells #[.slice A2 n2 c2] 28)) (w.heap.size + 1) 28 #[.slice A2 n2 c2] from by have h := Blk.new (w.alloc (.cells #[.slice A1 n1 c1] 28)) 28 #[.slice A2 n2 c2]; simp only [World.size_alloc] at h; exact h)
  by_cases h0 : r = 0
  · subst h0
    obtain ⟨f, hf⟩ : ∃ f, ansFault qs a = f := ⟨_, rfl⟩
    obtain ⟨g, hgg⟩ : ∃ g, ansFault qs b = g := ⟨_, rfl⟩
    have HF := Lib.hid hf
    have HG := Lib.hid hgg
    have htwo : twoE qs a b = if f = 0 then g else f := by unfold twoE oneE; rw [hr, if_pos rfl, hf, hgg]
    rw [htwo]
    obtain ⟨rr, hrr⟩ : ∃ rr, (if f = 0 then g else f) = rr := ⟨_, rfl⟩
    rw [hrr]
    have HRX := Lib.hid hrr
    clear hrr
    have H2 := Lib.hid (fun (W : World) (hW : Below w.heap.size w W) (F : Nat) (hF : SM W F A n cap qs) => check_walk F B A n cap qs A1 n1 c1 a W hr hn (hq.below hW) hF (ha.below hW) hn1 h81 (hT.below (hW.mono hg)) (Nat.le_trans hg hW.size) f HF)
    have H2b := Lib.hid (fun (W : World) (hW : Below w.heap.size w W) (F : Nat) (hF : SM W F A n cap qs) => check_walk F B A n cap qs A2 n2 c2 b W hr hn (hq.below hW) hF (hb.below hW) hn2 h82 (hT.below (hW.mono hg)) (Nat.le_trans hg hW.size) g HG)
    have H3 := Lib.hid (fun (W : World) (hW : Below w.heap.size w W) (F : Nat) (hF : SM W F A n cap qs) (k1 : W.cell? ⟨w.heap.size, 0, none⟩ = some (.slice A1 n1 c1) ∧ w.heap.size < W.heap.size) (k2 : W.cell? ⟨w.heap.size + 1, 0, none⟩ = some (.slice A2 n2 c2) ∧ w.heap.size + 1 < W.heap.size) =>
      keys25 w.heap.size (w.heap.size + 1) a b F B A n cap qs W hr hn (hq.below hW) hF (fun V hV q hk Ao m co => fn25 w.heap.size (w.heap.size + 1) A1 n1 c1 a A2 n2 c2 b W k1.1 k1.2 k2.1 k2.2 (ha.below hW) hn1 h81 (hb.below hW) hn2 h82 V hV q hk Ao m co))
    clear hn hq ha hb hn1 hn2 hT hr hf hgg htwo hb0
    go_enter Tryz.func7, Tryz.ntmps7
    go_wp2_with fail
    refine (H1.out).mono ?_; rintro e w1 ⟨F, hor, hb⟩
    have B1 := Lib.hid (B0.out.trans (hb.mono B0.out.size))
    have KA1 := Lib.hid (KA.out.below hb (by simp; omega))
    have KB1 := Lib.hid (KB.out.below hb (by simp))
    rcases hor with ⟨h, _⟩ | ⟨_, rfl, hF1, hsm⟩
    · exact absurd rfl h
    have SM1 := Lib.hid hsm
    have hz1 := B1.out.size
    have x0 := KA1.out.cell 0 _ rfl
    have x1 := KB1.out.cell 0 _ rfl
    have KL := Lib.hid (Blk.new w1 28 #[.slice A1 n1 c1, .slice A2 n2 c2])
    have Bn := (Below.refl w1.heap.size w1).alloc (Nat.le_refl _) (.cells #[.slice A1 n1 c1, .slice A2 n2 c2] 28)
    have SM2 := Lib.hid (SM1.out.below Bn)
    have B2 := Lib.hid (B1.out.trans (Bn.mono hz1))
    have KA2 := Lib.hid (KA1.out.below Bn KA1.out.lt)
    have KB2 := Lib.hid (KB1.out.below Bn KB1.out.lt)
    clear hb hsm hF1 SM1 KA1 KB1 Bn KA KB B0
    go_wp2_with fail
    clear x0 x1
    go_loopw [25] (fun i wr => ∃ (k : Nat), k ≤ 2 ∧ i = .int .i64 k ∧ Hid ((1 ≤ k → f = 0) ∧ (k = 2 → g = 0)) ∧ Hid (Blk wr w1.heap.size 28 #[.slice A1 n1 c1, .slice A2 n2 c2] ∧ SM wr F A n cap qs ∧ Blk wr w.heap.size 28 #[.slice A1 n1 c1] ∧ Blk wr (w.heap.size + 1) 28 #[.slice A2 n2 c2]) ∧ Hid (Below w.heap.size w wr)) (fun i _ => 2 - (intOf i).toNat)
    case atStart => exact ⟨0, Nat.zero_le _, rfl, Lib.hid ⟨fun h => by omega, fun h => by omega⟩, Lib.hid ⟨KL.out, SM2.out, KA2.out, KB2.out⟩, B2⟩
    case round =>
      obtain ⟨k, hk, rfl, HZ, HK, HB⟩ := hrel
      rename World => w3
      have hz3 := HB.out.size
      obtain ⟨kl, sm, ka, kb⟩ := HK.out
      by_cases hlt : k < 2
      · have hnext : ∀ (W : World), Below w3.heap.size w3 W → Blk W w1.heap.size 28 #[.slice A1 n1 c1, .slice A2 n2 c2] ∧ SM W F A n cap qs ∧ Blk W w.heap.size 28 #[.slice A1 n1 c1] ∧ Blk W (w.heap.size + 1) 28 #[.slice A2 n2 c2] := fun W hW => ⟨kl.below hW kl.lt, sm.below hW, ka.below hW ka.lt, kb.below hW kb.lt⟩
        have HNX := Lib.hid hnext
        have c0 := kl.cell 0 _ rfl
        have c1' := kl.cell 1 _ rfl
        have SM3 := Lib.hid sm
        clear hnext kl sm ka kb HK
        rcases (by omega : k = 0 ∨ k = 1) with rfl | rfl
        · go_wp2_with fail
          refine (H2.out _ HB.out F SM3.out).mono ?_; rintro e w4 ⟨rfl, hb⟩
          have B4 := Lib.hid (HB.out.trans (hb.mono hz3))
          have N4 := Lib.hid (HNX.out _ hb)
          clear hb
          by_cases hf0 : f = 0
          · subst hf0
            go_wp2_with fail
            go_roundw
            case rel => exact ⟨1, by omega, by go_num, Lib.hid (by simp), N4, B4⟩
            case measure => simp [intOf]
          · have hb0 : (f != 0) = true := by rw [bne_iff_ne]; exact hf0
            have HRY : Hid (f = rr) := Lib.hid (by have := HRX.out; rwa [if_neg hf0] at this)
            have HF0 := Lib.hid hf0
            clear hf0 HRX
            go_wp2_with fail
            go_ret2
            exact ⟨none, 0, 0, by rw [HRY.out]; try rfl, fun h => absurd (HRY.out.trans h) HF0.out, fun _ => rfl, B4.out⟩
        · have hf1 := HZ.out.1 (by omega)
          go_wp2_with fail
          refine (H2b.out _ HB.out F SM3.out).mono ?_; rintro e w4 ⟨rfl, hb⟩
          have B4 := Lib.hid (HB.out.trans (hb.mono hz3))
          have N4 := Lib.hid (HNX.out _ hb)
          have HF1 := Lib.hid hf1
          clear hb hf1
          by_cases hf0 : g = 0
          · have HG0 := Lib.hid hf0
            subst hf0
            go_wp2_with fail
            go_roundw
            case rel => exact ⟨2, by omega, by go_num, Lib.hid (by first | (simp; done) | (simp; exact HF1.out) | exact ⟨fun _ => HF1.out, fun _ => trivial⟩ | exact ⟨fun _ => HF1.out, trivial⟩), N4, B4⟩
            case measure => simp [intOf]
          · have hb0 : (g != 0) = true := by rw [bne_iff_ne]; exact hf0
            have HRY : Hid (g = rr) := Lib.hid (by have := HRX.out; rwa [if_pos HF1.out] at this)
            have HF0 := Lib.hid hf0
            clear hf0 HRX
            go_wp2_with fail
            go_ret2
            exact ⟨none, 0, 0, by rw [HRY.out]; try rfl, fun h => absurd (HRY.out.trans h) HF0.out, fun _ => rfl, B4.out⟩
      · obtain rfl : k = 2 := by omega
        have hrz : rr = 0 := by rw [← HRX.out, if_pos (HZ.out.1 (by omega))]; exact HZ.out.2 rfl
        have HRZ := Lib.hid hrz
        have HKY := Lib.hid (H3.out _ HB.out F sm ⟨ka.cell 0 _ rfl, ka.lt⟩ ⟨kb.cell 0 _ rfl, kb.lt⟩)
        clear hrz kl sm ka kb HK HZ HRX
        go_wp2_with fail
        refine (HKY.out).mono ?_; rintro e w5 ⟨A3, m, c, rfl, hm, hs, hb⟩
        have HS := Lib.hid hs
        have HM := Lib.hid hm
        have B5 := Lib.hid (HB.out.trans (hb.mono hz3))
        clear hb hm hs
        go_wp2_with fail
        go_ret2
        exact ⟨A3, m, c, by rw [HRZ.out]; try rfl, fun _ => ⟨HM.out, HS.out⟩, fun h => absurd HRZ.out h, B5.out⟩
  · have htwo : twoE qs a b = r := by unfold twoE oneE; rw [hr, if_neg h0, if_neg h0]
    rw [htwo]
    have hbb0 : (r != 0) = true := by rw [bne_iff_ne]; exact h0
    have HF0 := Lib.hid h0
    clear hn hq ha hb hn1 hn2 hT hr htwo h0 hb0
    go_enter Tryz.func7, Tryz.ntmps7
    go_wp2_with fail
    refine (H1.out).mono ?_; rintro e w1 ⟨F, hor, hb⟩
    have B1 := Lib.hid (B0.out.trans (hb.mono B0.out.size))
    rcases hor with ⟨_, rfl⟩ | ⟨h, _⟩
    · clear hb
      go_wp2_with fail
      go_ret2
      exact ⟨none, 0, 0, rfl, fun h => absurd h HF0.out, fun _ => rfl, B1.out⟩
    · exact absurd h HF0.out
end Go.Proofs.YthglfcfnejjpjaaGreatDoor.Rev
