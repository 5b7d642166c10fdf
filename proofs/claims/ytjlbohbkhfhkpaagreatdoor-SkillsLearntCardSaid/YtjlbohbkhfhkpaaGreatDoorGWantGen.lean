/-
  THE CONTRACTS OF THE MAKERS some AND Wanted, beside a forest.
-/
import Derived.Test.YtjlbohbkhfhkpaaGreatDoorSkillGen
namespace Go.Proofs.YtjlbohbkhfhkpaaGreatDoor.For
open Go.ChangeShapes Go.WideShapes Go.ChangeAt Go.RowKit Stm Key
set_option linter.unusedVariables false

theorem snocB {l : List ByteArray} {x : ByteArray} (h : ∀ x ∈ l, x.size ≤ 1000) (h1 : x.size ≤ 1000) : ∀ y ∈ l ++ [x], y.size ≤ 1000 := fun y hy => by
  rcases List.mem_append.1 hy with h3 | h3
  · exact h y h3
  · simp at h3; subst h3; exact h1
theorem SL.gr {w w' : World} {A : Option Addr} {l : List ByteArray} {B : Nat} (h : SL w A l) (ha : AtT B A l.length) (g : Gr B w w') : SL w' A l :=
  ⟨h.1, fun h0 => by
    obtain ⟨b, hA, hlt, hc⟩ := h.2 h0
    have hb : b ≠ B := by
      rcases ha with ⟨_, e⟩ | ⟨g, e, hg⟩
      · omega
      · rw [e] at hA; injection hA with hA; injection hA with h1; omega
    exact ⟨b, hA, Nat.lt_of_lt_of_le hlt g.size, fun i hi => (g.cell b _ hlt hb).trans (hc i hi)⟩⟩
set_option maxHeartbeats 4000000 in
theorem some_any (B k b N cap : Nat) (odds : Int) (zs : List ByteArray) (t : TypeId) (fz : Nat × Nat) (w : World) (h : Strm w B k) (hk : k ≤ 1000000) (hbB : b ≠ B) (hblt : b < w.heap.size)
    (hb : w.heap[b]? = some (.cells (zs.map Value.string).toArray t fz)) (h2 : zs.length = N) (hN : N ≤ 1000) (ho1 : 1 ≤ odds) (ho2 : odds ≤ 1000) (hsz : ∀ x ∈ zs, x.size ≤ 1000) :
    Calls Tryz.prog 24 #[.pointer (some ⟨B, 0, none⟩), .int .i64 odds, .slice (some ⟨b, 0, none⟩) N cap] w fun e w' =>
      ∃ (A : Option Addr) (n c : Nat) (ss : List ByteArray), e = .returned (.slice A n c) ∧ ss.length = n ∧ n ≤ N ∧ (∀ x ∈ ss, x.size ≤ 1000) ∧
        w'.ownsRow w.heap.size 9 1 (.slice A n c) n (ss.map Value.string) ∧ Gr B w w' ∧ Strm w' B (k + N) := by
  have HS := Lib.hid h
  have HB := Lib.hid hb
  have HL := Lib.hid h2
  have HSZ := Lib.hid hsz
  have hBlt : B < w.heap.size := by obtain ⟨_, _, _, _, hh, _⟩ := h; exact lt_of_block hh
  clear h hb h2 hsz
  go_enter Tryz.func24, Tryz.ntmps24
  go_wp2_with fail
  go_loopw [7, 12] (fun out i wr => ∃ (j : Nat) (A : Option Addr) (m c : Nat) (ss : List ByteArray), j ≤ N ∧ i = .int .i64 j ∧ out = .slice A m c ∧ ss.length = m ∧ m ≤ j ∧ Hid (∀ x ∈ ss, x.size ≤ 1000) ∧
    Hid (wr.ownsRow w.heap.size 9 1 (.slice A m c) m (ss.map Value.string)) ∧ Hid (Gr B w wr) ∧ Hid (Strm wr B (k + j))) (fun _ i _ => N - (intOf i).toNat)
  case atStart => exact ⟨0, none, 0, 0, [], Nat.zero_le _, rfl, rfl, rfl, Nat.le_refl _, Lib.hid (by simp), Lib.hid (World.ownsRow_nil _ _ _ _), Lib.hid (Gr.refl _ _), HS⟩
  case round =>
    obtain ⟨j, A, m, c, ss, hj, rfl, rfl, hm, hmj, HM, HO, HG, HST⟩ := hrel
    by_cases hlt : j < N
    · have hjl : j < zs.length := by have := HL.out; omega
      have c1 : wr.cell? ⟨b, j, none⟩ = some (.string zs[j]) := (HG.out.cell b j hblt hbB).trans (str_cell HB.out j hjl)
      have hxs := HSZ.out zs[j] (List.getElem_mem hjl)
      generalize zs[j] = x at *
      have HMM := Lib.hid hm
      clear hm
      go_wp2_with fail
      refine (flip_any B (k + j) odds wr HST.out (by omega) ho1 (by omega)).mono ?_; rintro e w1 ⟨r, rfl, ho, hs⟩
      have O1 := Lib.hid (row_only HO.out ho hBlt)
      have G1 := Lib.hid (HG.out.trans (Gr.only ho))
      have S1 := Lib.hid hs
      have hz1 : w.heap.size ≤ w1.heap.size := G1.out.size
      clear ho hs c1
      cases r
      · go_wp2_with fail
        go_roundw
        case rel => exact ⟨j + 1, A, m, c, ss, by omega, by go_num, rfl, HMM.out, by omega, HM, O1, G1, Lib.hid (by have := S1.out; rwa [Nat.add_assoc] at this)⟩
        case measure => simp [intOf]; omega
      · obtain ⟨i0, hi0, hz0, hz1', hz2⟩ := info_parts infoS
        have HI := Lib.hid hi0
        have Z0 := Lib.hid hz0
        have Z1 := Lib.hid hz1'
        have Z2 := Lib.hid hz2
        clear hi0 hz0 hz1' hz2
        go_wp2_with (at_builtin; (refine wpList_append_lies _ rfl _ _ _ rfl w.heap.size 9 i0 _ 1 16 Tryz.underlying52 HI.out Z0.out Z1.out Z2.out rfl (by omega) (.slice A m c) m (ss.map Value.string) rfl (O1.out.alloc _) ⟨w1.heap.size, 0, none⟩ 1 1 [.string x] rfl rfl (World.news_of_block (cs := #[.string x]) (t := 9) (fr := (0, 0)) (heap_alloc_new w1 _)) (by simp [Value.oneCell']) (by omega) (by unfold maxLen; omega) (by omega) (by simp; omega) (w1.heap.size + 1) (by simp) ?_); intro gg cap' w2 hown hgrow hat hgl; (have O2 := Lib.hid (show w2.ownsRow w.heap.size 9 1 _ (m + 1) ((ss ++ [x]).map Value.string) by rw [List.map_append]; exact hown)); (have G2 := Lib.hid (row_gr (G1.out.alloc (.cells #[.string x] 9)) hgrow (fun g e => (O1.out.lt g e).1))); (have S2 := Lib.hid (S1.out.keep (((Below.refl _ _).alloc (by omega) (.cells #[.string x] 9)).trans (grown_below hgrow (fun g e => by have := (O1.out.lt g e).1; omega) (by simp; omega))))); clear hown hgrow hat)
        go_roundw
        case rel => exact ⟨j + 1, some ⟨gg, 0, none⟩, m + 1, cap', ss ++ [x], by omega, by go_num, rfl, by simp [HMM.out], by omega, Lib.hid (fun y hy => by rcases List.mem_append.1 hy with h | h; exact HM.out y h; (simp at h; subst h; exact hxs)), O2, G2, Lib.hid (by have := S2.out; rwa [Nat.add_assoc] at this)⟩
        case measure => simp [intOf]; omega
    · have hjN : j = N := by omega
      subst hjN
      go_wp2_with fail
      go_ret
      exact ⟨A, m, c, ss, rfl, hm, hmj, HM.out, HO.out, HG.out, HST.out⟩
def topics6 : List ByteArray := [⟨#[97, 114, 116]⟩, ⟨#[98, 114, 101, 97, 100]⟩, ⟨#[99, 97, 107, 101]⟩, ⟨#[100, 97, 114, 107]⟩, ⟨#[114, 111, 108, 108, 115]⟩, ⟨#[114, 121, 101]⟩]
theorem h06topics_any (w : World) : Calls Tryz.prog 25 #[] w fun e w' => e = .returned (.slice (some ⟨w.heap.size, 0, none⟩) 6 6) ∧ w' = w.alloc (.cells (topics6.map Value.string).toArray 9) := by
  go_enter Tryz.func25, Tryz.ntmps25
  go_wp2_with fail
  go_ret
  exact ⟨rfl, rfl⟩
theorem topics6_le : ∀ s ∈ topics6, s.size ≤ 1000 := le_all (by decide)
/-- What the maker of wanted topics hands back. -/
def WGRet (B k : Nat) (w : World) (e : Ending) (w' : World) : Prop := ∃ (A : Option Addr) (n c : Nat) (l : List ByteArray), e = .returned (.slice A n c) ∧ l.length = n ∧ n ≤ 7 ∧ n ≤ c ∧ SL w' A l ∧ AtT B A n ∧ Gr B w w' ∧ Strm w' B (k + 8)

end Go.Proofs.YtjlbohbkhfhkpaaGreatDoor.For

/-
  THE CHECK OF SKILLS (package topic): has, isPercent, checkSkills.
-/
namespace Go.Proofs.YtjlbohbkhfhkpaaGreatDoor.For
open Go.ChangeShapes Go.WideShapes Go.ChangeAt Go.RowKit Stm Key
set_option linter.unusedVariables false

def pct (n : Int) : Bool := decide (1 ≤ n) && decide (n ≤ 100)
/-- What is wrong with skills behind a topic. -/
def skE (l : List Tp) : ByteArray → List Sk → Int
  | _, [] => 0
  | last, x :: t => if (lk l x.t).isSome = false then 8 else if leB x.t last = true then 7 else if pct x.n = false then 1 else skE l x.t t

theorem has_walk (F : Nat) (A : Option Addr) (n cap : Nat) (l : List Tp) (a : ByteArray) (w : World) (hF : FM w F A n cap l) (ha : a.size ≤ 1000) (r : Bool) (hr : Hid ((lk l a).isSome = r)) :
    Calls Tryz.prog 60 #[.pointer (some ⟨F, 0, none⟩), .string a] w fun e w' => e = .returned (.bool r) ∧ w' = w := by
  obtain ⟨M, g, D, cd, k1, k2, k3, k4⟩ := hF
  have c1 : w.cell? ⟨F, 1, none⟩ = some (.map (some M)) := k1.cell 1 _ rfl
  have HN := Lib.hid (show w.ownsMap Tryz.prog 9 (plainElem Tryz.prog 3) M l.length (numD l l.length) from k2)
  have HA := Lib.hid (show keyOf Tryz.prog 9 (.string a) = some (.string a.data.toList) from Go.WideMaps.keyOf_string_mk Tryz.underlying9 (by unfold maxLen; omega))
  have LA := Lib.hid (look_any l a)
  rw [hr.out] at LA
  clear k1 k2 k3 k4 hr
  generalize numD l l.length = D at *
  go_enter Tryz.func60, Tryz.ntmps60
  cases r
  all_goals
    go_wp2_with (first
      | (at_lookup; refine wpList_lookup_own_ok_int _ rfl _ _ 68 rfl 9 3 .i64 keyLaw Tryz.underlying68 Tryz.underlying3 (zeroI _) M l.length D rfl HN.out (.string a) _ rfl HA.out ?_; intro c hat hwc; obtain rfl := LA.out.2 c hat; rw [LA.out.1]; clear hat hwc))
    go_ret
    exact ⟨rfl, rfl⟩

theorem pct_walk (n : Int) (w : World) (h0 : 0 ≤ n) (h1 : n ≤ 101) : Calls Tryz.prog 38 #[.int .i64 n] w fun e w' => e = .returned (.bool (pct n)) ∧ w' = w := by
  have hp : pct n = (decide (1 ≤ n) && decide (n ≤ 100)) := rfl
  rw [hp]
  clear hp
  go_enter Tryz.func38, Tryz.ntmps38
  by_cases a1 : 1 ≤ n
  · have e1 : decide (n ≥ 1) = true := by simpa using a1
    by_cases a2 : n ≤ 100
    · have e2 : decide (n ≤ 100) = true := by simpa using a2
      go_wp2_with fail
      go_ret
      exact ⟨by simp [a1, a2], rfl⟩
    · have e2 : decide (n ≤ 100) = false := by simpa using a2
      go_wp2_with fail
      go_ret
      exact ⟨by simp, rfl⟩
  · have e1 : decide (n ≥ 1) = false := by simpa using a1
    go_wp2_with fail
    go_ret
    exact ⟨by simp, rfl⟩

set_option maxRecDepth 100000 in
set_option maxHeartbeats 8000000 in
theorem checkskills_walk (F : Nat) (A : Option Addr) (n cap : Nat) (l : List Tp) (A2 : Option Addr) (n2 c2 : Nat) (s : List Sk) (w : World) (hF : FM w F A n cap l) (hs : KL w A2 s) (hn2 : s.length = n2) (h100 : n2 ≤ 100) (r : Int) (hr : Hid (skE l ⟨#[]⟩ s = r)) :
    Calls Tryz.prog 48 #[.pointer (some ⟨F, 0, none⟩), .slice A2 n2 c2] w fun e w' => e = .returned (.int .i64 r) ∧ Below w.heap.size w w' := by
  have HF := Lib.hid hF
  have HS := Lib.hid hs
  have HL := Lib.hid hn2
  have hbig : ¬ ((n2 : Int) > 100) := by omega
  clear hF hs hn2
  go_enter Tryz.func48, Tryz.ntmps48
  go_wp2_with fail
  go_loopw [5, 13] (fun la i wr => ∃ (k : Nat) (last : ByteArray), k ≤ n2 ∧ i = .int .i64 k ∧ la = .string last ∧ Hid (skE l last (s.drop k) = r) ∧ Hid (Below w.heap.size w wr)) (fun _ i _ => n2 - (intOf i).toNat)
  case atStart => exact ⟨0, ⟨#[]⟩, by omega, rfl, rfl, hr, Lib.hid (Below.refl _ _)⟩
  case round =>
    obtain ⟨k, last, hk, rfl, rfl, HQ, HB⟩ := hrel
    clear hr hbig
    have hz := HB.out.size
    by_cases hlt : k < n2
    · have hkl : k < s.length := by rw [HL.out]; exact hlt
      obtain ⟨g, hA, hgl, hc⟩ := (HS.out.below HB.out).2 (by omega)
      subst hA
      have c0 := (hc k hkl).1
      have c1 := (hc k hkl).2
      have hx := HS.out.1 _ (List.getElem_mem hkl)
      have HE := Lib.hid (show (if (lk l s[k].t).isSome = false then 8 else if leB s[k].t last = true then 7 else if pct s[k].n = false then 1 else skE l s[k].t (s.drop (k + 1))) = r by rw [← HQ.out, drop_step s k hkl]; rfl)
      generalize s[k] = x at *
      obtain ⟨h1, h2, h3⟩ := hx
      have B1 := Lib.hid (HB.out.alloc hz (.cells #[.string x.t, .int .i64 x.n] 41))
      have F1 := Lib.hid (HF.out.below B1.out)
      obtain ⟨ph, hph⟩ : ∃ b, (lk l x.t).isSome = b := ⟨_, rfl⟩
      have HH := Lib.hid (has_walk F A n cap l x.t _ F1.out h1 ph (Lib.hid hph))
      obtain ⟨pp, hpp⟩ : ∃ b, pct x.n = b := ⟨_, rfl⟩
      have HP := Lib.hid (fun W => pct_walk x.n W h2 h3)
      rw [hpp] at HP
      rw [hph, hpp] at HE
      clear hc hph hpp HQ HB
      have a0 : (0 : Int) ≤ (k : Int) := by omega
      have a1 : (k : Int) < (n2 : Int) := by omega
      go_wp2_with fail
      refine (HH.out).mono ?_; rintro e w5 ⟨rfl, rfl⟩
      cases ph
      · have HR : Hid ((8 : Int) = r) := Lib.hid (by have := HE.out; simpa using this)
        go_wp2_with fail
        go_ret
        exact ⟨(by rw [← HR.out]; try rfl), B1.out⟩
      · unfold leB at HE
        cases h7 : Op.bytesLess x.t.toList last.toList <;> cases h8 : (x.t.toList == last.toList)
        all_goals
          rw [h7, h8] at HE
          have hl := HE.out
          simp only [Bool.or_false, Bool.or_true, Bool.false_eq_true, Bool.true_eq_false, if_true, if_false] at hl
          have HFF := Lib.hid hl
          clear hl HE
          first
            | (go_wp2_with fail
               go_ret
               exact ⟨(by rw [← HFF.out]; try rfl), B1.out⟩)
            | (go_wp2_with fail
               refine (HP.out _).mono ?_; rintro e w6 ⟨rfl, rfl⟩
               cases pp
               · have HR : Hid ((1 : Int) = r) := Lib.hid (by have := HFF.out; simpa using this)
                 go_wp2_with fail
                 go_ret
                 exact ⟨(by rw [← HR.out]; try rfl), B1.out⟩
               · have HR : Hid (skE l x.t (s.drop (k + 1)) = r) := Lib.hid (by have := HFF.out; simpa using this)
                 go_wp2_with fail
                 go_roundw
                 case rel => exact ⟨k + 1, x.t, by omega, by go_num, rfl, HR, B1⟩
                 case measure => simp [intOf]; omega)
    · have hkn : k = n2 := by omega
      subst hkn
      have HR : Hid ((0 : Int) = r) := Lib.hid (by have := HQ.out; rw [List.drop_eq_nil_of_le (by rw [HL.out]; exact Nat.le_refl _)] at this; exact this)
      go_wp2_with fail
      go_ret
      exact ⟨(by rw [← HR.out]; try rfl), HB.out⟩
end Go.Proofs.YtjlbohbkhfhkpaaGreatDoor.For

/-
  withSkills AND withTopics (package topic): a forest behind its errors, those of skills, and those of topics that are wanted.
-/
namespace Go.Proofs.YtjlbohbkhfhkpaaGreatDoor.For
open Go.ChangeShapes Go.WideShapes Go.ChangeAt Go.RowKit Stm Key
set_option linter.unusedVariables false

def withE (l : List Tp) (s : List Sk) : Int := if forestE l ≠ 0 then forestE l else skE l ⟨#[]⟩ s
/-- What is wrong with wanted topics behind a topic. -/
def waE (l : List Tp) : ByteArray → List ByteArray → Int
  | _, [] => 0
  | last, x :: t => if (lk l x).isSome = false then 8 else if leB x last = true then 7 else waE l x t
def wantE (l : List Tp) (s : List Sk) (ts : List ByteArray) : Int := if withE l s ≠ 0 then withE l s else waE l ⟨#[]⟩ ts
def FRet (r : Int) (A : Option Addr) (n cap : Nat) (l : List Tp) (w : World) (e : Ending) (w' : World) : Prop := ∃ F : Nat,
  (r ≠ 0 ∧ e = .returned (.tuple #[.pointer none, .int .i64 r]) ∨ r = 0 ∧ e = .returned (.tuple #[.pointer (some ⟨F, 0, none⟩), .int .i64 0]) ∧ w.heap.size ≤ F ∧ FM w' F A n cap l) ∧ Below w.heap.size w w'

set_option maxRecDepth 100000 in
set_option maxHeartbeats 4000000 in
theorem withskills_walk (A : Option Addr) (n cap : Nat) (l : List Tp) (A2 : Option Addr) (n2 c2 : Nat) (s : List Sk) (w : World) (hn : l.length = n) (hn2 : n ≤ 1000) (hS : TL w A l) (hs : KL w A2 s) (hk : s.length = n2) (h100 : n2 ≤ 100) (r : Int) (hr : Hid (withE l s = r)) :
    Calls Tryz.prog 32 #[.slice A n cap, .slice A2 n2 c2] w (FRet r A n cap l w) := by
  obtain ⟨r1, hr1⟩ : ∃ r1, forestE l = r1 := ⟨_, rfl⟩
  have HR1 := Lib.hid hr1
  have HFW := Lib.hid (forest_walk A n cap l w hn hn2 hS r1 HR1)
  have HS := Lib.hid hs
  have HK := Lib.hid hk
  clear hn hS hs hk
  by_cases h1 : r1 ≠ 0
  · have HE := Lib.hid (show r1 = r by have := hr.out; unfold withE at this; rw [hr1, if_pos h1] at this; exact this)
    have hbb : (r1 != 0) = true := by rw [bne_iff_ne]; exact h1
    have H1 := Lib.hid h1
    clear hr1 h1
    go_enter Tryz.func32, Tryz.ntmps32
    go_wp2_with fail
    refine (HFW.out).mono ?_; rintro e w1 ⟨F, hor, hb1⟩
    rcases hor with ⟨_, rfl⟩ | ⟨h0, _⟩
    · go_wp2_with fail
      go_returns
      exact ⟨0, Or.inl ⟨by rw [← HE.out]; exact H1.out, by rw [HE.out]; try rfl⟩, hb1⟩
    · exact absurd h0 H1.out
  obtain rfl : r1 = 0 := by simpa using h1
  have HT := Lib.hid (show skE l ⟨#[]⟩ s = r by have := hr.out; unfold withE at this; rw [hr1] at this; simpa using this)
  clear hr h1 hr1
  by_cases h2 : r ≠ 0
  · have hbb : (r != 0) = true := by rw [bne_iff_ne]; exact h2
    have H2 := Lib.hid h2
    clear h2
    go_enter Tryz.func32, Tryz.ntmps32
    go_wp2_with fail
    refine (HFW.out).mono ?_; rintro e w1 ⟨F, hor, hb1⟩
    rcases hor with ⟨h0, _⟩ | ⟨_, rfl, hF, hFM⟩
    · exact absurd rfl h0
    have HCK := Lib.hid (checkskills_walk F A n cap l A2 n2 c2 s w1 hFM (HS.out.below hb1) HK.out h100 r HT)
    clear hFM
    go_wp2_with fail
    refine (HCK.out).mono ?_; rintro e w2 ⟨rfl, hb2⟩
    go_wp2_with fail
    go_returns
    exact ⟨0, Or.inl ⟨H2.out, rfl⟩, hb1.trans (hb2.mono hb1.size)⟩
  · obtain rfl : r = 0 := by simpa using h2
    clear h2
    go_enter Tryz.func32, Tryz.ntmps32
    go_wp2_with fail
    refine (HFW.out).mono ?_; rintro e w1 ⟨F, hor, hb1⟩
    rcases hor with ⟨h0, _⟩ | ⟨_, rfl, hF, hFM⟩
    · exact absurd rfl h0
    have HFM := Lib.hid hFM
    have HF0 := Lib.hid hF
    have HCK := Lib.hid (checkskills_walk F A n cap l A2 n2 c2 s w1 hFM (HS.out.below hb1) HK.out h100 0 HT)
    clear hFM hF
    go_wp2_with fail
    refine (HCK.out).mono ?_; rintro e w2 ⟨rfl, hb2⟩
    go_wp2_with fail
    go_returns
    exact ⟨F, Or.inr ⟨rfl, rfl, HF0.out, HFM.out.below hb2⟩, hb1.trans (hb2.mono hb1.size)⟩

end Go.Proofs.YtjlbohbkhfhkpaaGreatDoor.For
