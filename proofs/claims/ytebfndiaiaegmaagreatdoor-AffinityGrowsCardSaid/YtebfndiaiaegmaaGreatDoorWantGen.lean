/-
  THE CONTRACTS OF THE MAKERS some AND Wanted, beside a forest.
-/
import Derived.Test.YtebfndiaiaegmaaGreatDoorSkillGen
namespace Go.Proofs.YtebfndiaiaegmaaGreatDoor.For
open Go.ChangeShapes Go.WideShapes Go.ChangeAt Go.RowKit Stm Key
set_option linter.unusedVariables false

theorem snocB {l : List ByteArray} {x : ByteArray} (h : ∀ x ∈ l, x.size ≤ 1000) (h1 : x.size ≤ 1000) : ∀ y ∈ l ++ [x], y.size ≤ 1000 := fun y hy => by
  rcases List.mem_append.1 hy with h3 | h3
  · exact h y h3
  · simp at h3; subst h3; exact h1
theorem SL.gr {w w' : World} {A : Option Addr} {l : List ByteArray} {B : Nat} (h : SL w A l) (ha : AtT B A l.length) (g : Gr B w w') : SL w' A l :=
  ⟨h.1, fun h0 => by
    obtain ⟨b, hA, hlt, hc⟩ := h.2 h0
    have hb : b ≠ B := by
      rcases ha with ⟨_, e⟩ | ⟨g, e, hg⟩
      · omega
      · rw [e] at hA; injection hA with hA; injection hA with h1; omega
    exact ⟨b, hA, Nat.lt_of_lt_of_le hlt g.size, fun i hi => (g.cell b _ hlt hb).trans (hc i hi)⟩⟩
set_option maxHeartbeats 4000000 in
theorem some_any (B k b N cap : Nat) (odds : Int) (zs : List ByteArray) (t : TypeId) (fz : Nat × Nat) (w : World) (h : Strm w B k) (hk : k ≤ 1000000) (hbB : b ≠ B) (hblt : b < w.heap.size)
    (hb : w.heap[b]? = some (.cells (zs.map Value.string).toArray t fz)) (h2 : zs.length = N) (hN : N ≤ 1000) (ho1 : 1 ≤ odds) (ho2 : odds ≤ 1000) (hsz : ∀ x ∈ zs, x.size ≤ 1000) :
    Calls Tryz.prog 26 #[.pointer (some ⟨B, 0, none⟩), .int .i64 odds, .slice (some ⟨b, 0, none⟩) N cap] w fun e w' =>
      ∃ (A : Option Addr) (n c : Nat) (ss : List ByteArray), e = .returned (.slice A n c) ∧ ss.length = n ∧ n ≤ N ∧ (∀ x ∈ ss, x.size ≤ 1000) ∧
        w'.ownsRow w.heap.size 9 1 (.slice A n c) n (ss.map Value.string) ∧ Gr B w w' ∧ Strm w' B (k + N) := by
  have HS := Lib.hid h
  have HB := Lib.hid hb
  have HL := Lib.hid h2
  have HSZ := Lib.hid hsz
  have hBlt : B < w.heap.size := by obtain ⟨_, _, _, _, hh, _⟩ := h; exact lt_of_block hh
  clear h hb h2 hsz
  go_enter Tryz.func26, Tryz.ntmps26
  go_wp2_with fail
  go_loopw [7, 12] (fun out i wr => ∃ (j : Nat) (A : Option Addr) (m c : Nat) (ss : List ByteArray), j ≤ N ∧ i = .int .i64 j ∧ out = .slice A m c ∧ ss.length = m ∧ m ≤ j ∧ Hid (∀ x ∈ ss, x.size ≤ 1000) ∧
    Hid (wr.ownsRow w.heap.size 9 1 (.slice A m c) m (ss.map Value.string)) ∧ Hid (Gr B w wr) ∧ Hid (Strm wr B (k + j))) (fun _ i _ => N - (intOf i).toNat)
  case atStart => exact ⟨0, none, 0, 0, [], Nat.zero_le _, rfl, rfl, rfl, Nat.le_refl _, Lib.hid (by simp), Lib.hid (World.ownsRow_nil _ _ _ _), Lib.hid (Gr.refl _ _), HS⟩
  case round =>
    obtain ⟨j, A, m, c, ss, hj, rfl, rfl, hm, hmj, HM, HO, HG, HST⟩ := hrel
    by_cases hlt : j < N
    · have hjl : j < zs.length := by have := HL.out; omega
      have c1 : wr.cell? ⟨b, j, none⟩ = some (.string zs[j]) := (HG.out.cell b j hblt hbB).trans (str_cell HB.out j hjl)
      have hxs := HSZ.out zs[j] (List.getElem_mem hjl)
      generalize zs[j] = x at *
      have HMM := Lib.hid hm
      clear hm
      go_wp2_with fail
      refine (flip_any B (k + j) odds wr HST.out (by omega) ho1 (by omega)).mono ?_; rintro e w1 ⟨r, rfl, ho, hs⟩
      have O1 := Lib.hid (row_only HO.out ho hBlt)
      have G1 := Lib.hid (HG.out.trans (Gr.only ho))
      have S1 := Lib.hid hs
      have hz1 : w.heap.size ≤ w1.heap.size := G1.out.size
      clear ho hs c1
      cases r
      · go_wp2_with fail
        go_roundw
        case rel => exact ⟨j + 1, A, m, c, ss, by omega, by go_num, rfl, HMM.out, by omega, HM, O1, G1, Lib.hid (by have := S1.out; rwa [Nat.add_assoc] at this)⟩
        case measure => simp [intOf]; omega
      · obtain ⟨i0, hi0, hz0, hz1', hz2⟩ := info_parts infoS
        have HI := Lib.hid hi0
        have Z0 := Lib.hid hz0
        have Z1 := Lib.hid hz1'
        have Z2 := Lib.hid hz2
        clear hi0 hz0 hz1' hz2
        go_wp2_with (at_builtin; (refine wpList_append_lies _ rfl _ _ _ rfl w.heap.size 9 i0 _ 1 16 Tryz.underlying30 HI.out Z0.out Z1.out Z2.out rfl (by omega) (.slice A m c) m (ss.map Value.string) rfl (O1.out.alloc _) ⟨w1.heap.size, 0, none⟩ 1 1 [.string x] rfl rfl (World.news_of_block (cs := #[.string x]) (t := 9) (fr := (0, 0)) (heap_alloc_new w1 _)) (by simp [Value.oneCell']) (by omega) (by unfold maxLen; omega) (by omega) (by simp; omega) (w1.heap.size + 1) (by simp) ?_); intro gg cap' w2 hown hgrow hat hgl; (have O2 := Lib.hid (show w2.ownsRow w.heap.size 9 1 _ (m + 1) ((ss ++ [x]).map Value.string) by rw [List.map_append]; exact hown)); (have G2 := Lib.hid (row_gr (G1.out.alloc (.cells #[.string x] 9)) hgrow (fun g e => (O1.out.lt g e).1))); (have S2 := Lib.hid (S1.out.keep (((Below.refl _ _).alloc (by omega) (.cells #[.string x] 9)).trans (grown_below hgrow (fun g e => by have := (O1.out.lt g e).1; omega) (by simp; omega))))); clear hown hgrow hat)
        go_roundw
        case rel => exact ⟨j + 1, some ⟨gg, 0, none⟩, m + 1, cap', ss ++ [x], by omega, by go_num, rfl, by simp [HMM.out], by omega, Lib.hid (fun y hy => by rcases List.mem_append.1 hy with h | h; exact HM.out y h; (simp at h; subst h; exact hxs)), O2, G2, Lib.hid (by have := S2.out; rwa [Nat.add_assoc] at this)⟩
        case measure => simp [intOf]; omega
    · have hjN : j = N := by omega
      subst hjN
      go_wp2_with fail
      go_ret
      exact ⟨A, m, c, ss, rfl, hm, hmj, HM.out, HO.out, HG.out, HST.out⟩
def topics6 : List ByteArray := [⟨#[97, 114, 116]⟩, ⟨#[98, 114, 101, 97, 100]⟩, ⟨#[99, 97, 107, 101]⟩, ⟨#[100, 97, 114, 107]⟩, ⟨#[114, 111, 108, 108, 115]⟩, ⟨#[114, 121, 101]⟩]
theorem h06topics_any (w : World) : Calls Tryz.prog 27 #[] w fun e w' => e = .returned (.slice (some ⟨w.heap.size, 0, none⟩) 6 6) ∧ w' = w.alloc (.cells (topics6.map Value.string).toArray 9) := by
  go_enter Tryz.func27, Tryz.ntmps27
  go_wp2_with fail
  go_ret
  exact ⟨rfl, rfl⟩
theorem topics6_le : ∀ s ∈ topics6, s.size ≤ 1000 := le_all (by decide)
/-- What the maker of wanted topics hands back. -/
def WGRet (B k : Nat) (w : World) (e : Ending) (w' : World) : Prop := ∃ (A : Option Addr) (n c : Nat) (l : List ByteArray), e = .returned (.slice A n c) ∧ l.length = n ∧ n ≤ 7 ∧ n ≤ c ∧ SL w' A l ∧ AtT B A n ∧ Gr B w w' ∧ Strm w' B (k + 8)

set_option maxRecDepth 100000 in
set_option maxHeartbeats 8000000 in
theorem wanted_any (B k : Nat) (w : World) (hs : Strm w B k) (hk : k ≤ 800000) :
    Calls Tryz.prog 6 #[.pointer (some ⟨B, 0, none⟩)] w (WGRet B k w) := by
  have hB := hs.lt
  have HS := Lib.hid hs
  have HSM := Lib.hid (some_any B k w.heap.size 6 6 2 topics6 9 (0, 0) (w.alloc (.cells (topics6.map Value.string).toArray 9)) (hs.keep (show Below (B + 1) w (w.alloc (.cells (topics6.map Value.string).toArray 9)) by go_grown)) (by omega) (by omega) (by simp) (heap_alloc_new w _) rfl (by omega) (by omega) (by omega) topics6_le)
  clear hs
  go_enter Tryz.func6, Tryz.ntmps6
  go_wp2_with fail
  refine (h06topics_any _).mono ?_
  rintro e w1 ⟨rfl, rfl⟩
  go_wp2_with fail
  refine (HSM.out).mono ?_
  rintro e w2 ⟨A, m, c, l, rfl, hl, hm, hsz, hown, hgr, hs⟩
  have HL := Lib.hid hl
  have SZ := Lib.hid hsz
  have z1 : w.heap.size + 1 ≤ w2.heap.size := by have := hgr.size; simpa using this
  have O2 := Lib.hid (show w2.ownsRow (w.heap.size + 1) 9 1 (.slice A m c) m (l.map Value.string) by simpa using hown)
  have G2 := Lib.hid (((Gr.refl B w).alloc (.cells (topics6.map Value.string).toArray 9)).trans hgr)
  have S2 := Lib.hid hs
  clear hl hsz hown hgr hs HSM HS
  go_wp2_with fail
  refine (flip_any B (k + 6) 15 _ S2.out (by omega) (by omega) (by omega)).mono ?_
  rintro e w3 ⟨fl, rfl, ho, hs⟩
  have O3 := Lib.hid (row_only O2.out ho (by omega))
  have G3 := Lib.hid (G2.out.trans (Gr.only ho))
  have S3 := Lib.hid hs
  have hB3 := hs.lt
  have z3 : w.heap.size + 1 ≤ w3.heap.size := by have := ho.size; omega
  clear ho hs O2 G2 S2
  cases fl
  · have FIN := Lib.hid (show WGRet B k w (.returned (.slice A m c)) w3 from ⟨A, m, c, l, rfl, HL.out, by omega, row_cap O3.out, row_sl O3.out HL.out SZ.out, row_at O3.out (by omega), G3.out, S3.out.mono (by omega)⟩)
    go_wp2_with fail
    go_ret
    exact FIN.out
  · go_wp2_with fail
    refine (h06_le 1000 B (k + 6 + 1) _ _ [⟨#[97, 114, 116]⟩, ⟨#[122, 101, 98, 114, 97]⟩, ⟨#[]⟩] _ _ _ (S3.out.keep (by go_grown)) (by omega) (by omega) (new_at rfl) (by simp) (by simp) (le_all (by decide +kernel))).mono ?_
    rintro e w4 ⟨x, hxs, rfl, ho, hs⟩
    have Q4 := Lib.hid (((Gr.refl B w3).alloc (.cells #[.string ⟨#[97, 114, 116]⟩, .string ⟨#[122, 101, 98, 114, 97]⟩, .string ⟨#[]⟩] 9)).trans (Gr.only ho))
    have G4 := Lib.hid (G3.out.trans Q4.out)
    have O4 := Lib.hid (row_gr2 O3.out Q4.out (by omega))
    have S4 := Lib.hid hs
    have hB4 := hs.lt
    have z4 : w.heap.size + 1 ≤ w4.heap.size := by have := Q4.out.size; omega
    clear ho hs O3 G3 S3 Q4
    obtain ⟨i0, hi0, hz0, hz1', hz2⟩ := info_parts infoS
    have HI := Lib.hid hi0
    have Z0 := Lib.hid hz0
    have Z1 := Lib.hid hz1'
    have Z2 := Lib.hid hz2
    clear hi0 hz0 hz1' hz2
    go_wp2_with (at_builtin; go_loud (refine wpList_append_lies _ rfl _ _ _ rfl (w.heap.size + 1) 9 i0 _ 1 16 Tryz.underlying30 HI.out Z0.out Z1.out Z2.out rfl (by omega) (.slice A m c) m (l.map Value.string) rfl (O4.out.alloc _) ⟨w4.heap.size, 0, none⟩ 1 1 [.string x] rfl rfl (World.news_of_block (cs := #[.string x]) (t := 9) (fr := (0, 0)) (heap_alloc_new w4 _)) (by simp [Value.oneCell']) (by omega) (by unfold maxLen; omega) (by omega) (by simp; omega) (w4.heap.size + 1) (by simp) ?_; intro gg cap' w5 hown hgrow hat hgl; (have O7 := Lib.hid (show w5.ownsRow (w.heap.size + 1) 9 1 _ (m + 1) ((l ++ [x]).map Value.string) by rw [List.map_append]; exact hown)); (have G7 := Lib.hid (row_gr (G4.out.alloc (.cells #[.string x] 9)) hgrow (fun g e => by have := (O4.out.lt g e).1; omega))); (have S7 := Lib.hid (S4.out.keep (((Below.refl _ _).alloc (by omega) (.cells #[.string x] 9)).trans (grown_below hgrow (fun g e => by have := (O4.out.lt g e).1; omega) (by simp; omega))))); clear hown hgrow hat))
    have FIN := Lib.hid (show WGRet B k w (.returned (.slice (some ⟨gg, 0, none⟩) (m + 1 : Nat) cap')) w5 from ⟨_, m + 1, cap', l ++ [x], rfl, by simp [HL.out], by omega, row_cap O7.out, row_sl O7.out (by simp [HL.out]) (snocB SZ.out hxs), row_at O7.out (by omega), G7.out, S7.out.mono (by omega)⟩)
    go_wp2_with fail
    go_ret
    exact FIN.out
end Go.Proofs.YtebfndiaiaegmaaGreatDoor.For
