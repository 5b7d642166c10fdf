/-
  The maker of pairs (Stream.pairs10).
-/
import Derived.Test.YtmihbfmlnfhgcadGreatDoorPairN
import Derived.Test.YtmihbfmlnfhgcadGreatDoorSome10
import Derived.Test.YtmihbfmlnfhgcadGreatDoorMk
import Derived.Deep.RegionLaw
import Derived.Deep.AppendLies
namespace Go.Proofs.YtmihbfmlnfhgcadGreatDoor.Cal
open Go.ChangeShapes Go.WideShapes Go.ChangeAt Go.RowKit Stm Key
set_option linter.unusedVariables false

/-- A list of strings that the stream chooses from. -/
def Ch (w : World) (b : Nat) (zs : List ByteArray) : Prop := ∀ (i : Nat) (h : i < zs.length), w.cell? ⟨b, i, none⟩ = some (.string zs[i])
theorem Ch.only {w w' : World} {B b : Nat} {zs : List ByteArray} (h : Ch w b zs) (ho : Only B w w') (hb : b ≠ B) : Ch w' b zs := fun i hi => (ho.cell b i hb).trans (h i hi)
/-- The state in the loop: the stream, the row of pairs, the lists. -/
def PSt (w : World) (B b1 b2 : Nat) (zs1 zs2 : List ByteArray) (A : Option Addr) (m c : Nat) (l : List Pr) (q : Nat) (W : World) : Prop :=
  Strm W B q ∧ W.ownsRow w.heap.size 49 2 (.slice A m c) m (flatP l) ∧ Gr B w W ∧ Ch W b1 zs1 ∧ Ch W b2 zs2
theorem pst_next {w : World} {B b1 b2 : Nat} {zs1 zs2 : List ByteArray} {A : Option Addr} {m c : Nat} {l : List Pr} {q : Nat} {W : World} (h : PSt w B b1 b2 zs1 zs2 A m c l q W) (hB : B < w.heap.size) (h1 : b1 ≠ B) (h2 : b2 ≠ B) (hq : q ≤ 1000000) (n : Nat) (hn : 1 ≤ n) (hn2 : n ≤ 1000) :
    Calls Tryz.prog 18 #[.pointer (some ⟨B, 0, none⟩), .int .i64 n] W fun e w' => ∃ r : Nat, r < n ∧ e = .returned (.int .i64 (r : Int)) ∧ PSt w B b1 b2 zs1 zs2 A m c l (q + 1) w' ∧ Only B W w' := by
  refine (next_any B q n W h.1 (by omega) (by omega) (by omega)).mono ?_
  rintro e w' ⟨r, r0, r1, rfl, ho, hs⟩
  obtain ⟨r, rfl⟩ := Int.eq_ofNat_of_zero_le r0
  exact ⟨r, by omega, rfl, ⟨hs, own_gr h.2.1 (Gr.only ho) hB, h.2.2.1.trans (Gr.only ho), h.2.2.2.1.only ho h1, h.2.2.2.2.only ho h2⟩, ho⟩
theorem PSt.drew {w : World} {B b1 b2 : Nat} {zs1 zs2 : List ByteArray} {A : Option Addr} {m c : Nat} {l : List Pr} {q : Nat} {W : World} (h : PSt w B b1 b2 zs1 zs2 A m c l q W) : PSt w B b1 b2 zs1 zs2 A m c l q W.drew :=
  ⟨h.1.keep ((Below.refl _ _).drew), h.2.1, h.2.2.1.drew, h.2.2.2.1, h.2.2.2.2⟩
theorem infoP : (Tryz.prog.info? 49).map (fun i => (i.zero, i.size, i.bytes)) = some (some (.agg #[.string ⟨#[]⟩, .string ⟨#[]⟩]), 2, 32) := by kernel_rfl
theorem gr_far {w W w7 : World} {B : Nat} (h : Gr B w W) (hb : Below w.heap.size W w7) : Gr B w w7 :=
  ⟨hb.os.trans h.os, hb.tape.trans h.tape, hb.output.trans h.output, Nat.le_trans h.size hb.size, fun k hk hne => (hb.block k hk).trans (h.block k hk hne)⟩
theorem pst_far {w W w7 : World} {B b1 b2 : Nat} {zs1 zs2 : List ByteArray} {A A' : Option Addr} {m c m' c' : Nat} {l l' : List Pr} {q : Nat} (h : PSt w B b1 b2 zs1 zs2 A m c l q W) (hB : B < w.heap.size) (h1 : b1 < w.heap.size) (h2 : b2 < w.heap.size) (hb : Below w.heap.size W w7)
    (ho : w7.ownsRow w.heap.size 49 2 (.slice A' m' c') m' (flatP l')) : PSt w B b1 b2 zs1 zs2 A' m' c' l' q w7 :=
  ⟨h.1.keep (hb.mono hB), ho, gr_far h.2.2.1 hb, fun i hi => (hb.cell (p := ⟨b1, i, none⟩) h1).trans (h.2.2.2.1 i hi), fun i hi => (hb.cell (p := ⟨b2, i, none⟩) h2).trans (h.2.2.2.2 i hi)⟩
theorem pst_app {w : World} {B b1 b2 : Nat} {zs1 zs2 : List ByteArray} {A : Option Addr} {m c : Nat} {l : List Pr} {q : Nat} {W w7 : World} {gg cap7 : Nat} {o : Obj} (h : PSt w B b1 b2 zs1 zs2 A m c l q W) (hB : B < w.heap.size) (h1 : b1 < w.heap.size) (h2 : b2 < w.heap.size) (s5 s6 : ByteArray)
    (hown : w7.ownsRow w.heap.size 49 2 (.slice (some ⟨gg, 0, none⟩) (m + 1) cap7) (m + 1) (flatP l ++ [.string s5, .string s6])) (hgrow : (W.alloc o).grownBy w7 (Value.slice A m c).ownBlock) :
    PSt w B b1 b2 zs1 zs2 (some ⟨gg, 0, none⟩) (m + 1) cap7 (l ++ [⟨s5, s6⟩]) q w7 :=
  pst_far h hB h1 h2 ((((Below.refl W.heap.size W).mono h.2.2.1.size).alloc h.2.2.1.size o).grown hgrow (by simp; have := h.2.2.1.size; omega) (fun j hj => (h.2.1.lt j hj).1)) (by rw [flatP_snoc]; exact hown)
/-- Pairs handed back. -/
def PRet (B k many : Nat) (zs1 zs2 : List ByteArray) (w : World) (e : Ending) (w' : World) : Prop := ∃ (A : Option Addr) (m c : Nat) (l : List Pr), e = .returned (.slice A m c) ∧ l.length = m ∧ m ≤ many ∧ (∀ x ∈ l, x.p ∈ zs1 ∧ x.h ∈ zs2) ∧ (0 < m → ∃ g, A = some ⟨g, 0, none⟩ ∧ w.heap.size ≤ g ∧ PB w' g l) ∧ Strm w' B (k + 2 * many) ∧ Gr B w w'
set_option maxRecDepth 100000 in
set_option maxHeartbeats 4000000 in
theorem pairs10_any (B k b1 b2 c1 c2 n1 n2 many : Nat) (zs1 zs2 : List ByteArray) (w : World) (hS : Strm w B k) (hk : k ≤ 800000) (hz1 : zs1.length = n1) (hz2 : zs2.length = n2) (h11 : 1 ≤ n1) (h12 : n1 ≤ 1000) (h21 : 1 ≤ n2) (h22 : n2 ≤ 1000) (hm : many ≤ 14) (hb1 : b1 ≠ B) (hb2 : b2 ≠ B) (hC1 : Ch w b1 zs1) (hC2 : Ch w b2 zs2) (hl1 : b1 < w.heap.size) (hl2 : b2 < w.heap.size) :
    Calls Tryz.prog 15 #[.pointer (some ⟨B, 0, none⟩), .slice (some ⟨b1, 0, none⟩) n1 c1, .slice (some ⟨b2, 0, none⟩) n2 c2, .int .i64 many] w (PRet B k many zs1 zs2 w) := by
  have J := Lib.hid (show PSt w B b1 b2 zs1 zs2 none 0 0 [] k w from ⟨hS, World.ownsRow_nil _ _ _ _, Gr.refl _ _, hC1, hC2⟩)
  have HB := Lib.hid hS.lt
  have g1 : decide ((n1 : Int) > 0) = true := by simp; omega
  have g2 : decide ((n2 : Int) > 0) = true := by simp; omega
  obtain ⟨i0, hi0, hz0, hz1', hz2'⟩ := info_parts infoP
  have HI := Lib.hid hi0
  have Z0 := Lib.hid hz0
  have Z1 := Lib.hid hz1'
  have Z2 := Lib.hid hz2'
  clear hS hC1 hC2 hi0 hz0 hz1' hz2'
  go_enter Tryz.func15, Tryz.ntmps15
  go_wp2_with fail
  go_loopw [9, 11] (fun o i wr => ∃ (ii m : Nat) (A : Option Addr) (c : Nat) (l : List Pr), ii ≤ many ∧ m ≤ ii ∧ i = .int .i64 ii ∧ o = .slice A m c ∧ l.length = m ∧ Hid (∀ x ∈ l, x.p ∈ zs1 ∧ x.h ∈ zs2) ∧ Hid (PSt w B b1 b2 zs1 zs2 A m c l (k + 2 * ii) wr)) (fun _ i _ => many - (intOf i).toNat)
  case atStart => exact ⟨0, 0, none, 0, [], Nat.zero_le _, Nat.le_refl _, rfl, rfl, rfl, Lib.hid (by simp), J⟩
  case round =>
    clear J
    obtain ⟨ii, m, A, c, l, hii, hmi, rfl, rfl, hl, HX, J0⟩ := hrel
    have HL := Lib.hid hl
    by_cases hlt : ii < many
    · have a1 : (ii : Int) < (many : Int) := by omega
      clear hl
      go_wp2_with fail
      have J1 := Lib.hid J0.out.drew
      clear J0
      go_region_law ((first
        | (go_simp; go_at_call 18
           with_reducible refine (pst_next J1.out HB.out hb1 hb2 (by omega) n1 h11 h12).mono ?_
           rintro e w5 ⟨r5, q5, rfl, jj5, _⟩
           have J5 := Lib.hid jj5
           have x5 := jj5.2.2.2.1 r5 (by omega)
           have p5 : (0 : Int) ≤ (r5 : Int) := by omega
           have p6 : (r5 : Int) < (n1 : Int) := by omega
           clear jj5 J1)
        | (go_simp; go_at_call 18
           with_reducible refine (pst_next J5.out HB.out hb1 hb2 (by omega) n2 h21 h22).mono ?_
           rintro e w6 ⟨r6, q6, rfl, jj6, _⟩
           have J6 := Lib.hid jj6
           clear x5
           have x5 := jj6.2.2.2.1 r5 (by omega)
           have x6 := jj6.2.2.2.2 r6 (by omega)
           have p7 : (0 : Int) ≤ (r6 : Int) := by omega
           have p8 : (r6 : Int) < (n2 : Int) := by omega
           have hz6 : w.heap.size ≤ w6.heap.size := jj6.2.2.1.size
           have M5 := Lib.hid (List.getElem_mem (l := zs1) (n := r5) (by omega))
           have M6 := Lib.hid (List.getElem_mem (l := zs2) (n := r6) (by omega))
           generalize zs1[r5] = s5 at *
           generalize zs2[r6] = s6 at *
           clear jj6 J5)
        | (refine step_append_lies _ (by rfl) _ _ _ (by rfl) w.heap.size 49 i0 _ 2 32 Tryz.underlying45 HI.out Z0.out Z1.out Z2.out rfl (by omega) (.slice A m c) m (flatP l) (by rfl) (World.ownsRow.alloc J6.out.2.1 _)
               ⟨w6.heap.size, 0, none⟩ 1 1 [.string s5, .string s6] (by rfl) (by rfl) (World.news_of_block (cs := #[.string s5, .string s6]) (t := 49) (fr := (0, 0)) (new_at (by simp))) (by simp [Value.oneCell']) (by omega) (by unfold maxLen; omega) (by omega) (by simp; omega) (w6.heap.size + 1) (by simp) ?_
           intro gg7 cap7 w7 hown hgrow hat hgl
           have J7 := Lib.hid (pst_app J6.out HB.out hl1 hl2 s5 s6 hown hgrow)
           clear hown hgrow hat hgl)))
      all_goals
        have HX7 : Hid (∀ x ∈ l ++ [⟨s5, s6⟩], x.p ∈ zs1 ∧ x.h ∈ zs2) := Lib.hid (fun x hx => by
          rcases List.mem_append.1 hx with h | h
          · exact HX.out x h
          · obtain rfl := List.mem_singleton.1 h; exact ⟨M5.out, M6.out⟩)
        clear x5 x6 p5 p6 p7 p8 J6 hz6
        go_wp2_with fail
        go_roundw
        case rel => exact ⟨ii + 1, m + 1, _, _, l ++ [⟨s5, s6⟩], by omega, by omega, by go_num, rfl, by rw [List.length_append, HL.out]; rfl, HX7, J7⟩
        case measure => simp [intOf]; omega
    · obtain rfl : ii = many := by omega
      obtain ⟨j1, j2, j3, j4, j5⟩ := J0.out
      rcases j2.2 with ⟨e1, rfl⟩ | ⟨g, cap, cur, e1, hg, _, _⟩
      · injection e1 with e1 e2 e3
        subst e1
        subst e3
        have HR := Lib.hid (show PRet B k ii zs1 zs2 w (.returned (.slice none 0 0)) wr from ⟨none, 0, 0, l, rfl, hl, Nat.zero_le _, HX.out, fun h => absurd h (by omega), j1, j3⟩)
        clear j1 j2 j3 j4 j5 J0
        go_wp2_with fail
        refine (sortN_any 0 _ _).mono ?_; rintro e w1 ⟨rfl, rfl⟩
        go_wp2_with fail
        refine (compactN_any 0 _).mono ?_; rintro e w1 ⟨rfl, rfl⟩
        go_wp2_with fail
        go_ret
        exact HR.out
      · injection e1 with e1 e2 e3
        subst e1
        have HSO := Lib.hid (sortP_any w.heap.size g m c l wr hl (by omega) j2)
        have J := Lib.hid J0.out
        clear j1 j2 j3 j4 j5 e3 J0
        go_wp2_with fail
        refine (HSO.out).mono ?_; rintro e w1 ⟨rfl, s2, hpm, ho1, hg1⟩
        have hl2' : s2.length = m := by rw [hpm.length_eq, hl]
        obtain ⟨hpb, _, hmc⟩ := row_pb ho1 hl2'
        have K := Lib.hid (pst_far J.out HB.out hl1 hl2 (((Below.refl wr.heap.size wr).mono J.out.2.2.1.size).grown hg1 J.out.2.2.1.size (fun j hj => by have : g = j := Option.some.inj hj; omega)) ho1)
        have HCO := Lib.hid (compactP_any w.heap.size g m c s2 w1 hl2' (by omega) hmc hg hpb)
        have HP2 := Lib.hid hpm
        clear hpb ho1 hg1 hpm HSO
        go_wp2_with fail
        refine (HCO.out).mono ?_; rintro e w2 ⟨m2, d, rfl, hd1, hd2, hd3, hd4, hd5⟩
        have HR := Lib.hid (show PRet B k ii zs1 zs2 w (.returned (.slice (some ⟨g, 0, none⟩) m2 c)) w2 from ⟨_, m2, c, d, rfl, hd1, by omega, fun x hx => HX.out x (HP2.out.mem_iff.1 (hd3 x hx)), fun _ => ⟨g, rfl, hg, hd4⟩, K.out.1.keep (hd5.mono HB.out), gr_far K.out.2.2.1 hd5⟩)
        clear hd1 hd3 hd4 hd5 HCO
        go_wp2_with fail
        go_ret
        exact HR.out
end Go.Proofs.YtmihbfmlnfhgcadGreatDoor.Cal
