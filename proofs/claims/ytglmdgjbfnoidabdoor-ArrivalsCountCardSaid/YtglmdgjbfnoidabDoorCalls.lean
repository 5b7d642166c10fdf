/-
  THE CONTRACT OF A CALL's CHECK: syntax.After, submit.CheckCall: a function of the call's numbers and reasons.
-/
import Derived.Test.YtglmdgjbfnoidabDoorArrive
import Derived.Test.YtglmdgjbfnoidabDoorLess
import Derived.Laws.Cover1
namespace Go.Proofs.YtglmdgjbfnoidabDoor.Key
open Go.ChangeShapes Go.WideShapes Go.ChangeAt Go.RowKit
set_option linter.unusedVariables false

def afterE (key last : ByteArray) : Int := if keyL key.data.toList then (if leB key last then 7 else 0) else 5

theorem after_any (key last : ByteArray) (w : World) (hs : key.size ≤ 9223372036854775807) :
    Calls Tryd.prog 25 #[.string key, .string last] w fun e w' => e = .returned (.int .i64 (afterE key last)) ∧ w' = w := by
  obtain ⟨kp, hkp⟩ : ∃ b, keyL key.data.toList = b := ⟨_, rfl⟩
  have HE : Hid (afterE key last = if kp then (if leB key last then 7 else 0) else 5) := Lib.hid (by unfold afterE; rw [hkp])
  have HP := Lib.hid hkp; clear hkp
  unfold leB at HE
  cases kp
  · go_enter Tryd.func25, Tryd.ntmps25
    go_wp2_with fail
    refine (key_any _ _ hs).mono ?_; rintro e w1 ⟨rfl, rfl⟩; rw [HP.out]
    go_wp2_with fail
    go_ret; exact ⟨ret_int (by rw [HE.out]; rfl), rfl⟩
  cases h1 : Op.bytesLess key.toList last.toList <;> cases h2 : (key.toList == last.toList)
  all_goals
    rw [h1, h2] at HE
    go_enter Tryd.func25, Tryd.ntmps25
    go_wp2_with fail
    refine (key_any _ _ hs).mono ?_; rintro e w1 ⟨rfl, rfl⟩; rw [HP.out]
    go_wp2_with fail
    go_ret; exact ⟨ret_int (by rw [HE.out]; rfl), rfl⟩

/-- What is wrong with reasons behind a last key. -/
def reasonsE (last : ByteArray) : List (ByteArray × Int) → Int
  | [] => 0
  | x :: t => if afterE x.1 last = 0 then (if decide (x.2 < 1) || decide (x.2 > 5761440) then 1 else reasonsE x.1 t) else afterE x.1 last
/-- What is wrong with a call. -/
def callE (o a f : Int) (rs : List (ByteArray × Int)) : Int :=
  if momentI o then
    if decide (a ≤ o) || decide (f < a) then 7
    else if decide (f ≥ 5761440) then 1
    else if decide ((rs.length : Int) > 20) then 2
    else reasonsE ⟨#[]⟩ rs
  else 1

/-- A slice's cells are these reasons. -/
def Rsn (w : World) (A : Option Addr) (rs : List (ByteArray × Int)) : Prop :=
  (∀ x ∈ rs, x.1.size ≤ 1000) ∧ (0 < rs.length → ∃ b, A = some ⟨b, 0, none⟩ ∧ b < w.heap.size ∧
    ∀ (i : Nat) (h : i < rs.length), w.cell? ⟨b, i * 2, none⟩ = some (.string rs[i].1) ∧ w.cell? ⟨b, i * 2 + 1, none⟩ = some (.int .i64 rs[i].2))
theorem Rsn.below {w w' : World} {A : Option Addr} {rs : List (ByteArray × Int)} (h : Rsn w A rs) (hb : Below w.heap.size w w') : Rsn w' A rs :=
  ⟨h.1, fun h0 => by
    obtain ⟨b, hA, hlt, hc⟩ := h.2 h0
    exact ⟨b, hA, Nat.lt_of_lt_of_le hlt hb.size, fun i hi => ⟨(hb.cell (p := ⟨b, i * 2, none⟩) hlt).trans (hc i hi).1, (hb.cell (p := ⟨b, i * 2 + 1, none⟩) hlt).trans (hc i hi).2⟩⟩⟩

set_option maxHeartbeats 4000000 in
theorem call_walk (o a f : Int) (A : Option Addr) (n cap : Nat) (rs : List (ByteArray × Int)) (w : World) (hn : rs.length = n) (hn2 : n ≤ 1000000) (hR : Rsn w A rs) (r : Int) (hr : Hid (callE o a f rs = r)) :
    Calls Tryd.prog 9 #[.agg #[.int .i64 o, .int .i64 a, .int .i64 f, .slice A n cap]] w fun e w' => e = .returned (.int .i64 r) ∧ Below w.heap.size w w' := by
  have hb0 : Below w.heap.size w (w.alloc (.cells #[.int .i64 o, .int .i64 a, .int .i64 f, .slice A n cap] 28)) := (Below.refl _ _).alloc (Nat.le_refl _) _
  have HB := Lib.hid hb0
  have HRS := Lib.hid hR
  clear hb0 hR
  obtain ⟨m, hm⟩ : ∃ b, momentI o = b := ⟨_, rfl⟩
  have HR := hr.out
  unfold callE at HR
  rw [hm, hn] at HR
  have HM := Lib.hid hm
  have HL := Lib.hid hn
  have HRR := Lib.hid HR
  clear hr HR hm hn
  cases m
  · go_enter Tryd.func9, Tryd.ntmps9
    go_wp2_with fail
    refine (moment_any _ _).mono ?_; rintro e w1 ⟨rfl, rfl⟩; rw [HM.out]
    go_wp2_with fail
    go_ret; exact ⟨ret_int (by rw [← HRR.out]; rfl), HB.out⟩
  cases h1 : decide (a ≤ o) <;> cases h2 : decide (f < a) <;> cases h3 : decide (f ≥ 5761440) <;> cases h4 : decide ((n : Int) > 20)
  all_goals
    rw [h1, h2, h3, h4] at HRR
  case false.false.false.false =>
    go_enter Tryd.func9, Tryd.ntmps9
    go_wp2_with fail
    refine (moment_any _ _).mono ?_; rintro e w1 ⟨rfl, rfl⟩; rw [HM.out]
    go_wp2_with fail
    go_loopw [3, 33] (fun l i wr => ∃ (k : Nat) (s : ByteArray), k ≤ n ∧ i = .int .i64 k ∧ l = .string s ∧ Hid (reasonsE s (rs.drop k) = r) ∧ Hid (Below w.heap.size w wr)) (fun _ i _ => n - (intOf i).toNat)
    case atStart => exact ⟨0, ⟨#[]⟩, Nat.zero_le _, rfl, rfl, Lib.hid (by rw [← HRR.out]; rfl), HB⟩
    case round =>
      obtain ⟨k, s, hk, rfl, rfl, HK, HBW⟩ := hrel
      by_cases hlt : k < n
      · obtain ⟨hsz, hcells⟩ := HRS.out
        obtain ⟨b, hA, hbl, hc⟩ := hcells (by have := HL.out; omega)
        have hkl : k < rs.length := by have := HL.out; omega
        have hzz := hsz rs[k] (List.getElem_mem hkl)
        have c1 : wr.cell? ⟨b, k * 2, none⟩ = some (.string rs[k].1) := (HBW.out.cell (p := ⟨b, k * 2, none⟩) hbl).trans (hc k hkl).1
        have c2 : wr.cell? ⟨b, k * 2 + 1, none⟩ = some (.int .i64 rs[k].2) := (HBW.out.cell (p := ⟨b, k * 2 + 1, none⟩) hbl).trans (hc k hkl).2
        have HK2 := HK.out
        rw [drop_step rs k hkl] at HK2
        unfold reasonsE at HK2
        generalize rs[k].1 = x at *
        generalize rs[k].2 = y at *
        have HKK := Lib.hid HK2
        subst hA
        clear HK2 hsz hcells hc
        cases h5 : decide (y < 1) <;> cases h6 : decide (y > 5761440)
        all_goals
          rw [h5, h6] at HKK
        all_goals
          have hbw : Below w.heap.size w (wr.alloc (.cells #[.string x, .int .i64 y] 48)) := HBW.out.alloc HBW.out.size _
          have HBN := Lib.hid hbw; clear hbw
          by_cases ha : afterE x s = 0
          · have HA := Lib.hid ha
            have hk3 := HKK.out
            rw [if_pos ha] at hk3
            have HK3 := Lib.hid hk3
            clear HKK ha hk3
            go_wp2_with fail
            refine (after_any _ _ _ (by omega)).mono ?_; rintro e w1 ⟨rfl, rfl⟩; rw [HA.out]
            go_wp2_with fail
            first
              | (go_roundw
                 case rel => exact ⟨k + 1, x, by omega, by go_num, rfl, Lib.hid (by have := HK3.out; simpa using this), HBN⟩
                 case measure => simp [intOf]; omega)
              | (go_ret; exact ⟨ret_int (by rw [← HK3.out]; rfl), HBN.out⟩)
          · have hk3 := HKK.out
            rw [if_neg ha] at hk3
            have HK3 := Lib.hid hk3
            have hne : (afterE x s != 0) = true := by rw [bne_iff_ne]; exact ha
            clear HKK hk3 ha
            go_wp2_with fail
            refine (after_any _ _ _ (by omega)).mono ?_; rintro e w1 ⟨rfl, rfl⟩
            generalize afterE x s = z at *
            go_wp2_with fail
            go_ret; exact ⟨ret_int HK3.out, HBN.out⟩
      · have HE : Hid (0 = r) := Lib.hid (by have := HK.out; rw [List.drop_of_length_le (by have := HL.out; omega)] at this; exact this)
        clear HK
        go_wp2_with fail
        go_ret; exact ⟨ret_int HE.out, HBW.out⟩
  all_goals
    go_enter Tryd.func9, Tryd.ntmps9
    go_wp2_with fail
    refine (moment_any _ _).mono ?_; rintro e w1 ⟨rfl, rfl⟩; rw [HM.out]
    go_wp2_with fail
    go_ret; exact ⟨ret_int (by rw [← HRR.out]; rfl), HB.out⟩
end Go.Proofs.YtglmdgjbfnoidabDoor.Key
