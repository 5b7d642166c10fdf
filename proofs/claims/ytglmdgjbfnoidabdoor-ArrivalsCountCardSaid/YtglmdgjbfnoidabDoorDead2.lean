/-
  THE CONTRACTS OF DEADLINES, the second part: the program's deadline, Deadline; the reference's DeadlineOf.
-/
import Derived.Test.YtglmdgjbfnoidabDoorDead
namespace Go.Proofs.YtglmdgjbfnoidabDoor.Key
open Go.ChangeShapes Go.WideShapes Go.ChangeAt Go.RowKit
set_option linter.unusedVariables false

theorem reasonsE_ok : ∀ (rs : List (ByteArray × Int)) (last : ByteArray), reasonsE last rs = 0 → ∀ x ∈ rs, 1 ≤ x.2 ∧ x.2 ≤ 5761440
  | [], _, _, _, h => by simp at h
  | x :: t, last, h, y, hy => by
    unfold reasonsE at h
    by_cases h1 : afterE x.1 last = 0
    · rw [if_pos h1] at h
      by_cases h2 : (decide (x.2 < 1) || decide (x.2 > 5761440)) = true
      · rw [if_pos h2] at h; omega
      · rw [if_neg h2] at h
        simp at h2
        rcases List.mem_cons.1 hy with rfl | hy
        · omega
        · exact reasonsE_ok t x.1 h y hy
    · rw [if_neg h1] at h; exact absurd h h1
theorem callE_ok {o a f : Int} {rs : List (ByteArray × Int)} (h : callE o a f rs = 0) : 0 ≤ o ∧ o < a ∧ a ≤ f ∧ f < 5761440 ∧ ∀ x ∈ rs, 1 ≤ x.2 ∧ x.2 ≤ 5761440 := by
  unfold callE momentI at h
  by_cases h1 : decide (0 ≤ o ∧ o < 5761440) = true
  · rw [if_pos h1] at h
    by_cases h2 : (decide (a ≤ o) || decide (f < a)) = true
    · rw [if_pos h2] at h; omega
    · rw [if_neg h2] at h
      by_cases h3 : decide (f ≥ 5761440) = true
      · rw [if_pos h3] at h; omega
      · rw [if_neg h3] at h
        by_cases h4 : decide ((rs.length : Int) > 20) = true
        · rw [if_pos h4] at h; omega
        · rw [if_neg h4] at h
          simp at h1 h2 h3
          exact ⟨h1.1, h2.1, h2.2, h3, reasonsE_ok _ _ h⟩
  · rw [if_neg h1] at h; omega
theorem delayO_ok : ∀ (rs : List (ByteArray × Int)) (s : ByteArray) (m : Int), delayO s rs = some m → ∃ x ∈ rs, x.2 = m
  | [], _, _, h => by simp [delayO] at h
  | x :: t, s, m, h => by
    unfold delayO at h
    split at h
    · exact ⟨x, by simp, by simpa using h⟩
    · obtain ⟨y, hy, e⟩ := delayO_ok t s m h; exact ⟨y, by simp [hy], e⟩
theorem moreO_ok {o a f : Int} {rs : List (ByteArray × Int)} (h : callE o a f rs = 0) (s : ByteArray) (m : Int) (hm : moreO s rs = some m) : 0 ≤ m ∧ m ≤ 5761440 := by
  unfold moreO at hm
  split at hm
  · simp at hm; omega
  · obtain ⟨x, hx, rfl⟩ := delayO_ok rs s m hm; have := (callE_ok h).2.2.2.2 x hx; omega

/-- The moment before which something must come. -/
def dlI (a f k m : Int) : Int := min ((if k = 1 then a else if k = 2 then f else 5761440) + m) 5761440

theorem ret_pair {x y : Int} {b : Bool} (h : x = y) : Ending.returned (.tuple #[.int .i64 x, .bool b]) = .returned (.tuple #[.int .i64 y, .bool b]) := by rw [h]
theorem ret_ii {x y u v : Int} (h : x = y) (g : u = v) : Ending.returned (.tuple #[.int .i64 x, .int .i64 u]) = .returned (.tuple #[.int .i64 y, .int .i64 v]) := by rw [h, g]

set_option maxHeartbeats 4000000 in
theorem deadline_walk (o a f : Int) (A : Option Addr) (n cap : Nat) (rs : List (ByteArray × Int)) (k : Int) (s : ByteArray) (w : World) (hn : rs.length = n) (hn2 : n ≤ 1000000) (hR : Rsn w A rs) (hok : callE o a f rs = 0) (hk : 1 ≤ k ∧ k ≤ 3)
    (r : Option Int) (hr : Hid (moreO s rs = r)) :
    Calls Tryd.prog 30 #[.agg #[.int .i64 o, .int .i64 a, .int .i64 f, .slice A n cap], .int .i64 k, .string s] w fun e w' =>
      e = .returned (.tuple #[.int .i64 ((r.map (dlI a f k)).getD 0), .bool r.isSome]) ∧ Below w.heap.size w w' := by
  have hb0 := (Below.refl w.heap.size w).alloc (Nat.le_refl _) (.cells #[.int .i64 o, .int .i64 a, .int .i64 f, .slice A n cap] 28)
  have HD := Lib.hid (delay_walk A n cap rs s (w.alloc (.cells #[.int .i64 o, .int .i64 a, .int .i64 f, .slice A n cap] 28)) hn hn2 (hR.below hb0) r hr)
  have HB := Lib.hid hb0
  have HBK := Lib.hid (Blk.new w 28 #[.int .i64 o, .int .i64 a, .int .i64 f, .slice A n cap])
  obtain ⟨p1, p2, p3, p4, _⟩ := callE_ok hok
  have HMO : Hid (∀ m, r = some m → 0 ≤ m ∧ m ≤ 5761440) := Lib.hid fun m hm => moreO_ok hok s m (by rw [hr.out, hm])
  clear hb0 hn hR hr hok
  rcases r with _ | m
  · go_enter Tryd.func30, Tryd.ntmps30
    go_wp2_with fail
    refine (HD.out).mono ?_; rintro e w1 ⟨rfl, hB⟩
    have HB2 := Lib.hid (HB.out.trans (hB.mono HB.out.size))
    clear hB
    simp only [Option.getD_none, Option.isSome_none]
    go_wp2_with fail
    go_returns; exact ⟨rfl, HB2.out⟩
  · obtain ⟨m0, m1⟩ := HMO.out m rfl
    have hw1 : IntKind.i64.wrap (a + m) = a + m := IntWalk.i64_in _ (by omega)
    have hw2 : IntKind.i64.wrap (f + m) = f + m := IntWalk.i64_in _ (by omega)
    rcases (by omega : k = 1 ∨ k = 2 ∨ k = 3) with rfl | rfl | rfl
    all_goals
      go_enter Tryd.func30, Tryd.ntmps30
      go_wp2_with fail
      refine (HD.out).mono ?_; rintro e w1 ⟨rfl, hB⟩
      have HB2 := Lib.hid (HB.out.trans (hB.mono HB.out.size))
      have c1 := (HBK.out.below hB HBK.out.lt).cell 1 _ rfl
      have c2 := (HBK.out.below hB HBK.out.lt).cell 2 _ rfl
      clear hB
      simp only [Option.getD_some, Option.isSome_some]
      go_wp2_with fail
      go_returns
      exact ⟨ret_pair (by first | rfl | (show _ = dlI _ _ _ _; unfold dlI; simp; done) | (show _ = dlI _ _ _ _; unfold dlI; simp; omega)), HB2.out⟩

/-- What the reference's DeadlineOf returns: a moment and an error. -/
def dlE (a f k : Int) (r : Option Int) : Int × Int := if kindI k then (match r with | none => (0, 8) | some m => (dlI a f k m, 0)) else (0, 4)

set_option maxHeartbeats 4000000 in
theorem deadlineR_walk (o a f : Int) (A : Option Addr) (n cap : Nat) (rs : List (ByteArray × Int)) (k : Int) (s : ByteArray) (w : World) (hn : rs.length = n) (hn2 : n ≤ 1000000) (hR : Rsn w A rs) (hok : callE o a f rs = 0)
    (r : Option Int) (hr : Hid (moreO s rs = r)) :
    Calls Tryd.prog 15 #[.agg #[.int .i64 o, .int .i64 a, .int .i64 f, .slice A n cap], .int .i64 k, .string s] w fun e w' =>
      e = .returned (.tuple #[.int .i64 (dlE a f k r).1, .int .i64 (dlE a f k r).2]) ∧ Below w.heap.size w w' := by
  have hb0 := (Below.refl w.heap.size w).alloc (Nat.le_refl _) (.cells #[.int .i64 o, .int .i64 a, .int .i64 f, .slice A n cap] 28)
  have HD := Lib.hid (more_walk o a f A n cap rs s (w.alloc (.cells #[.int .i64 o, .int .i64 a, .int .i64 f, .slice A n cap] 28)) hn hn2 (hR.below hb0) r hr)
  have HB := Lib.hid hb0
  have HBK := Lib.hid (Blk.new w 28 #[.int .i64 o, .int .i64 a, .int .i64 f, .slice A n cap])
  obtain ⟨p1, p2, p3, p4, _⟩ := callE_ok hok
  have HMO : Hid (∀ m, r = some m → 0 ≤ m ∧ m ≤ 5761440) := Lib.hid fun m hm => moreO_ok hok s m (by rw [hr.out, hm])
  clear hb0 hn hR hr hok
  by_cases hk : 1 ≤ k ∧ k ≤ 3
  · have hki : kindI k = true := by unfold kindI; simp; omega
    rcases r with _ | m
    · have HE : Hid (dlE a f k none = (0, 8)) := Lib.hid (by unfold dlE; rw [hki]; rfl)
      have d1 : decide (k < 1) = false := by simp; omega
      have d2 : decide (k > 3) = false := by simp; omega
      clear hki hk
      go_enter Tryd.func15, Tryd.ntmps15
      go_wp2_with fail
      refine (HD.out).mono ?_; rintro e w1 ⟨rfl, hB⟩
      have HB2 := Lib.hid (HB.out.trans (hB.mono HB.out.size))
      clear hB
      simp only [Option.getD_none, Option.isSome_none]
      go_wp2_with fail
      go_returns; exact ⟨ret_ii (by rw [HE.out]) (by rw [HE.out]), HB2.out⟩
    · obtain ⟨m0, m1⟩ := HMO.out m rfl
      have HE : Hid (dlE a f k (some m) = (dlI a f k m, 0)) := Lib.hid (by unfold dlE; rw [hki]; rfl)
      clear hki
      have hw1 : IntKind.i64.wrap (a + m) = a + m := IntWalk.i64_in _ (by omega)
      have hw2 : IntKind.i64.wrap (f + m) = f + m := IntWalk.i64_in _ (by omega)
      rcases (by omega : k = 1 ∨ k = 2 ∨ k = 3) with rfl | rfl | rfl
      all_goals
        go_enter Tryd.func15, Tryd.ntmps15
        go_wp2_with fail
        refine (HD.out).mono ?_; rintro e w1 ⟨rfl, hB⟩
        have HB2 := Lib.hid (HB.out.trans (hB.mono HB.out.size))
        have c1 := (HBK.out.below hB HBK.out.lt).cell 1 _ rfl
        have c2 := (HBK.out.below hB HBK.out.lt).cell 2 _ rfl
        clear hB
        simp only [Option.getD_some, Option.isSome_some]
        go_wp2_with fail
        go_returns
        exact ⟨ret_ii (by rw [HE.out]; first | rfl | (show _ = dlI _ _ _ _; unfold dlI; simp; done) | (show _ = dlI _ _ _ _; unfold dlI; simp; omega)) (by rw [HE.out]), HB2.out.alloc HB2.out.size _⟩
  · have HE : Hid (dlE a f k r = (0, 4)) := Lib.hid (by unfold dlE kindI; rw [decide_eq_false hk]; rfl)
    cases d1 : decide (k < 1) <;> cases d2 : decide (k > 3)
    case false.false => exfalso; simp at d1 d2; omega
    all_goals
      go_enter Tryd.func15, Tryd.ntmps15
      go_wp2_with fail
      go_returns; exact ⟨ret_ii (by rw [HE.out]) (by rw [HE.out]), HB.out⟩

/-- What the program's Deadline returns. -/
def dlP (o a f : Int) (rs : List (ByteArray × Int)) (k : Int) (r : Option Int) : Int × Int := if callE o a f rs = 0 then dlE a f k r else (0, callE o a f rs)

set_option maxHeartbeats 4000000 in
theorem deadlineP_walk (o a f : Int) (A : Option Addr) (n cap : Nat) (rs : List (ByteArray × Int)) (k : Int) (s : ByteArray) (w : World) (hn : rs.length = n) (hn2 : n ≤ 1000000) (hR : Rsn w A rs)
    (r : Option Int) (hr : Hid (moreO s rs = r)) :
    Calls Tryd.prog 12 #[.agg #[.int .i64 o, .int .i64 a, .int .i64 f, .slice A n cap], .int .i64 k, .string s] w fun e w' =>
      e = .returned (.tuple #[.int .i64 (dlP o a f rs k r).1, .int .i64 (dlP o a f rs k r).2]) ∧ Below w.heap.size w w' := by
  have hb0 := (Below.refl w.heap.size w).alloc (Nat.le_refl _) (.cells #[.int .i64 o, .int .i64 a, .int .i64 f, .slice A n cap] 28)
  have HC := Lib.hid (call_walk o a f A n cap rs (w.alloc (.cells #[.int .i64 o, .int .i64 a, .int .i64 f, .slice A n cap] 28)) hn hn2 (hR.below hb0) _ (Lib.hid rfl))
  have HB := Lib.hid hb0
  have HBK := Lib.hid (Blk.new w 28 #[.int .i64 o, .int .i64 a, .int .i64 f, .slice A n cap])
  by_cases hok : callE o a f rs = 0
  · have HD : Hid (∀ W, Below w.heap.size w W → kindI k = true → Calls Tryd.prog 30 #[.agg #[.int .i64 o, .int .i64 a, .int .i64 f, .slice A n cap], .int .i64 k, .string s] W fun e w' =>
        e = .returned (.tuple #[.int .i64 ((r.map (dlI a f k)).getD 0), .bool r.isSome]) ∧ Below W.heap.size W w') :=
      Lib.hid fun W hW hk => deadline_walk o a f A n cap rs k s W hn hn2 (hR.below hW) hok (by unfold kindI at hk; simpa using hk) r hr
    have HE : Hid (dlP o a f rs k r = dlE a f k r) := Lib.hid (by unfold dlP; rw [if_pos hok])
    rw [hok] at HC
    clear hb0 hn hR hr hok
    cases hk : kindI k
    · have HK := Lib.hid hk
      clear hk
      go_enter Tryd.func12, Tryd.ntmps12
      go_wp2_with fail
      refine (HC.out).mono ?_; rintro e w1 ⟨rfl, hB⟩
      have HB2 := Lib.hid (HB.out.trans (hB.mono HB.out.size))
      clear hB
      go_wp2_with fail
      refine (isKind_any _ _).mono ?_; rintro e w2 ⟨rfl, rfl⟩; rw [HK.out]
      go_wp2_with fail
      go_returns; exact ⟨ret_ii (by rw [HE.out]; unfold dlE; rw [HK.out]; rfl) (by rw [HE.out]; unfold dlE; rw [HK.out]; rfl), HB2.out⟩
    · have HK := Lib.hid hk
      clear hk
      rcases r with _ | m
      all_goals
        go_enter Tryd.func12, Tryd.ntmps12
        go_wp2_with fail
        refine (HC.out).mono ?_; rintro e w1 ⟨rfl, hB⟩
        have HB2 := Lib.hid (HB.out.trans (hB.mono HB.out.size))
        have c0 := (HBK.out.below hB HBK.out.lt).cell 0 _ rfl
        have c1 := (HBK.out.below hB HBK.out.lt).cell 1 _ rfl
        have c2 := (HBK.out.below hB HBK.out.lt).cell 2 _ rfl
        have c3 := (HBK.out.below hB HBK.out.lt).cell 3 _ rfl
        clear hB
        go_wp2_with fail
        refine (isKind_any _ _).mono ?_; rintro e w2 ⟨rfl, rfl⟩; rw [HK.out]
        go_wp2_with fail
        refine (HD.out _ HB2.out HK.out).mono ?_; rintro e w3 ⟨rfl, hB⟩
        have HB3 := Lib.hid (HB2.out.trans (hB.mono HB2.out.size))
        clear hB c0 c1 c2 c3
        simp only [Option.isSome_some, Option.isSome_none]
        go_wp2_with fail
        go_returns; exact ⟨ret_ii (by rw [HE.out]; unfold dlE; rw [HK.out]; rfl) (by rw [HE.out]; unfold dlE; rw [HK.out]; rfl), HB3.out⟩
  · have hne : (callE o a f rs != 0) = true := by rw [bne_iff_ne]; exact hok
    have HE : Hid (dlP o a f rs k r = (0, callE o a f rs)) := Lib.hid (by unfold dlP; rw [if_neg hok])
    clear hb0 hn hR hr hok
    generalize callE o a f rs = z at *
    go_enter Tryd.func12, Tryd.ntmps12
    go_wp2_with fail
    refine (HC.out).mono ?_; rintro e w1 ⟨rfl, hB⟩
    have HB2 := Lib.hid (HB.out.trans (hB.mono HB.out.size))
    clear hB
    go_wp2_with fail
    go_returns; exact ⟨ret_ii (by rw [HE.out]) (by rw [HE.out]), HB2.out⟩
end Go.Proofs.YtglmdgjbfnoidabDoor.Key
