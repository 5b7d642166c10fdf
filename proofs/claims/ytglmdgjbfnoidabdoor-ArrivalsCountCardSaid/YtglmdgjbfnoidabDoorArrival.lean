/-
  THE CONTRACT OF THE MAKER OF ARRIVALS: whatever the numbers are, some strings of bounded size and some numbers.
-/
import Derived.Test.YtglmdgjbfnoidabDoorOne
import Derived.Test.YtglmdgjbfnoidabDoorRefArrive
import Derived.Test.YtglmdgjbfnoidabDoorBlk
import Derived.Deep.RegionHeld3
import Derived.Shelf.Strings.Repeat
namespace Go.Proofs.YtglmdgjbfnoidabDoor.Key
open Go.ChangeShapes Go.WideShapes Go.ChangeAt Go.RowKit Stm
set_option linter.unusedVariables false

end Go.Proofs.YtglmdgjbfnoidabDoor.Key
namespace Go.Proofs.YtglmdgjbfnoidabDoor.Stm
open Go.ChangeShapes Go.WideShapes Go.ChangeAt Go.RowKit Key

def AJ (w : World) (B K Ba : Nat) (wx : World) : Prop := ∃ (p : ByteArray) (a kd : Int) (r t : ByteArray), p.size ≤ 100 ∧ r.size ≤ 100 ∧ t.size ≤ 30000 ∧
  Blk wx Ba 31 #[.string p, .int .i64 a, .int .i64 kd, .string r, .string t] ∧ Blk wx w.heap.size 31 #[.string ⟨#[]⟩, .int .i64 0, .int .i64 0, .string ⟨#[]⟩, .string ⟨#[]⟩] ∧ Gr B w wx ∧ Strm wx B K

theorem long_all {x : ByteArray} (h : x.size ≤ 30000) : ∀ s ∈ [(⟨#[120]⟩ : ByteArray), ⟨#[97, 9, 98, 10]⟩, ⟨#[120, 10]⟩, x], s.size ≤ 30000 := by
  intro s hs
  simp only [List.mem_cons, List.mem_nil_iff, or_false] at hs
  rcases hs with rfl | rfl | rfl | rfl
  · decide
  · decide
  · decide
  · exact h
theorem below_set5 {C : Nat} (w : World) (Y : Nat) (v0 v1 v2 v3 v4 : Value) (hY : C ≤ Y) :
    Below C w (((((w.setCell ⟨Y, 0, none⟩ v0).setCell ⟨Y, 1, none⟩ v1).setCell ⟨Y, 2, none⟩ v2).setCell ⟨Y, 3, none⟩ v3).setCell ⟨Y, 4, none⟩ v4) :=
  (((((Below.refl _ _).setCell hY _).setCell hY _).setCell hY _).setCell hY _).setCell hY _
theorem gr_set5 {B : Nat} {a w : World} (h : Gr B a w) (Y : Nat) (v0 v1 v2 v3 v4 : Value) (hY : a.heap.size ≤ Y) :
    Gr B a (((((w.setCell ⟨Y, 0, none⟩ v0).setCell ⟨Y, 1, none⟩ v1).setCell ⟨Y, 2, none⟩ v2).setCell ⟨Y, 3, none⟩ v3).setCell ⟨Y, 4, none⟩ v4) :=
  (((((h.setCell (p := ⟨Y, 0, none⟩) hY _).setCell (p := ⟨Y, 1, none⟩) hY _).setCell (p := ⟨Y, 2, none⟩) hY _).setCell (p := ⟨Y, 3, none⟩) hY _).setCell (p := ⟨Y, 4, none⟩) hY _)
theorem repeat_any (w : World) : Calls Tryd.prog 21 #[.string ⟨#[116]⟩, .int .i64 20000] w fun e w' => ∃ r : ByteArray, r.size = 20000 ∧ e = .returned (.string r) ∧ Below w.heap.size w w' :=
  (Any.strings_Repeat Tryd.lays105 Tryd.Builder_Extra_105 ⟨#[116]⟩ 20000 w (by omega) (by decide)).mono fun e w' ⟨he, hb⟩ => ⟨_, by rw [Lib.size_eq, Lib.repeatL_length]; rfl, he, hb⟩
theorem append_size (r : ByteArray) (h : r.size = 20000) : (r ++ (⟨#[10]⟩ : ByteArray)).size ≤ 30000 := by rw [ByteArray.size_append, h]; decide

set_option maxHeartbeats 4000000 in
theorem arrival_any (B k : Nat) (w : World) (hs : Strm w B k) (hk : k ≤ 1000000) :
    Calls Tryd.prog 5 #[.pointer (some ⟨B, 0, none⟩)] w fun e w' =>
      ∃ (p : ByteArray) (a kd : Int) (r t : ByteArray), p.size ≤ 100 ∧ r.size ≤ 100 ∧ t.size ≤ 30000 ∧ e = .returned (.agg #[.string p, .int .i64 a, .int .i64 kd, .string r, .string t]) ∧ Gr B w w' ∧ Strm w' B (k + 20) := by
  have hB := hs.lt
  have HS := Lib.hid hs
  have G := Lib.hid ((Gr.refl B w).alloc (.cells #[.string ⟨#[]⟩, .int .i64 0, .int .i64 0, .string ⟨#[]⟩, .string ⟨#[]⟩] 31))
  have R := Lib.hid (Blk.new w 31 #[.string ⟨#[]⟩, .int .i64 0, .int .i64 0, .string ⟨#[]⟩, .string ⟨#[]⟩])
  clear hs
  go_enter Tryd.func5, Tryd.ntmps5
  go_wp2_with fail
  refine (h06_le 100 B k _ _ [⟨#[112, 97]⟩, ⟨#[112, 97]⟩, ⟨#[112, 98]⟩, ⟨#[112, 99]⟩] _ _ _ (HS.out.keep (by go_grown)) (by omega) (by omega) (new_at (by simp)) (by simp) (by simp) (le_all (by decide +kernel))).mono ?_
  rintro e w1 ⟨p, hp, rfl, ho, hs⟩
  replace R := Lib.hid ((R.out.alloc _).only ho (by omega))
  replace G := Lib.hid ((G.out.alloc _).trans (Gr.only ho))
  replace HS := Lib.hid hs
  have hB1 := hs.lt
  have hW1 := R.out.lt
  clear ho hs
  go_wp2_with fail
  refine (pick_le B (k + 1) _ _ [0, 9, 10, 40, 49, 50, 99, 100, 120, 150, 199, 200, 300] _ _ _ (HS.out.keep (by go_grown)) (by omega) (by omega) (new_at (by simp)) (by simp) (by simp)).mono ?_
  rintro e w2 ⟨a, rfl, ho, hs⟩
  replace R := Lib.hid ((R.out.alloc _).only ho (by omega))
  replace G := Lib.hid ((G.out.alloc _).trans (Gr.only ho))
  replace HS := Lib.hid hs
  have hB2 := hs.lt
  have hW2 := R.out.lt
  clear ho hs hB1 hW1
  go_wp2_with fail
  refine (pick_le B (k + 1 + 1) _ _ [1, 1, 2, 2, 3] _ _ _ (HS.out.keep (by go_grown)) (by omega) (by omega) (new_at (by simp)) (by simp) (by simp)).mono ?_
  rintro e w3 ⟨kd, rfl, ho, hs⟩
  replace R := Lib.hid ((R.out.alloc _).only ho (by omega))
  replace G := Lib.hid ((G.out.alloc _).trans (Gr.only ho))
  have hB3 := hs.lt
  have hW3 := R.out.lt
  replace R := Lib.hid (R.out.alloc (.cells #[.string p, .int .i64 a, .int .i64 kd, .string ⟨#[]⟩, .string ⟨#[]⟩] 31))
  replace G := Lib.hid (G.out.alloc (.cells #[.string p, .int .i64 a, .int .i64 kd, .string ⟨#[]⟩, .string ⟨#[]⟩] 31))
  have C := Lib.hid (Blk.new w3 31 #[.string p, .int .i64 a, .int .i64 kd, .string ⟨#[]⟩, .string ⟨#[]⟩])
  replace HS := Lib.hid (hs.keep (show Below (B + 1) w3 (w3.alloc (.cells #[.string p, .int .i64 a, .int .i64 kd, .string ⟨#[]⟩, .string ⟨#[]⟩] 31)) by go_grown))
  clear ho hs hB2 hW2
  have c2 := C.out.cell 2 _ rfl
  go_upto_if 16 with fail
  go_cut [] (fun wx => AJ w B (k + 5) w3.heap.size wx)
  case first =>
    cases hk3 : (kd == 3)
    · have hk3' : (kd != 3) = true := by unfold bne; rw [hk3]; rfl
      go_wp2_with fail
      refine (h06_le 100 B (k + 3) _ _ [⟨#[97, 98, 111, 117, 116, 10]⟩, ⟨#[111, 116, 104, 101, 114, 10]⟩, ⟨#[]⟩] _ _ _ ((HS.out.mono (by omega)).keep (by go_grown)) (by omega) (by omega) (new_at (by simp)) (by simp) (by simp) (le_all (by decide +kernel))).mono ?_
      rintro e w4 ⟨t, ht, rfl, ho, hs⟩
      replace R := Lib.hid ((R.out.alloc _).only ho (by omega))
      replace G := Lib.hid ((G.out.alloc _).trans (Gr.only ho))
      replace C := Lib.hid ((C.out.alloc _).only ho (by omega))
      have hW4 := R.out.lt
      have hA4 := C.out.lt
      have x4 := C.out.cell 4 _ rfl
      have y4 := C.out.frozen 4
      replace R := Lib.hid (R.out.far (p := ⟨w3.heap.size, 4, none⟩) (by simp; omega) (.string t))
      replace G := Lib.hid (G.out.setCell (p := ⟨w3.heap.size, 4, none⟩) (by simp; omega) (.string t))
      replace C : Hid (Blk _ w3.heap.size 31 #[.string p, .int .i64 a, .int .i64 kd, .string ⟨#[]⟩, .string t]) := Lib.hid (C.out.set_ 4 (.string t))
      replace HS := Lib.hid (hs.keep (show Below (B + 1) w4 (w4.setCell ⟨w3.heap.size, 4, none⟩ (.string t)) from (Below.refl _ _).setCell (by simp; omega) _))
      clear ho hs c2
      go_wp2_with fail
      refine (h06_le 100 B (k + 3 + 1) _ _ [⟨#[]⟩, ⟨#[]⟩, ⟨#[105, 108, 108]⟩, ⟨#[119, 97, 114]⟩, ⟨#[115, 97, 100]⟩] _ _ _ (HS.out.keep (by go_grown)) (by omega) (by simp; omega) (new_at (by simp)) (by simp) (by simp) (le_all (by decide +kernel))).mono ?_
      rintro e w5 ⟨r, hr, rfl, ho, hs⟩
      replace R := Lib.hid ((R.out.alloc _).only ho (by omega))
      replace G := Lib.hid ((G.out.alloc _).trans (Gr.only ho))
      replace C := Lib.hid ((C.out.alloc _).only ho (by omega))
      have x3 := C.out.cell 3 _ rfl
      have y3 := C.out.frozen 3
      clear x4 y4
      go_wp2_with fail
      go_meet
      refine ⟨p, a, kd, r, t, by omega, by omega, by omega, C.out.set_ 3 _, R.out.far (by simp; omega) _, G.out.setCell (by simp; omega) _, (hs.keep ?_).mono (by omega)⟩
      exact (Below.refl _ _).setCell (by simp; omega) _
    · have hk3' : (kd != 3) = false := by unfold bne; rw [hk3]; rfl
      go_wp2_with fail
      go_meet
      exact ⟨p, a, kd, ⟨#[]⟩, ⟨#[]⟩, by omega, by decide, by decide, C.out, R.out, G.out, HS.out.mono (by omega)⟩
  case rest =>
    obtain ⟨p, a, kd, r, t, q1, q2, q3, C1, R1, G1, hs⟩ := hcut
    replace C := Lib.hid C1
    replace R := Lib.hid R1
    replace G := Lib.hid G1
    clear C1 R1 G1 c2 HS
    go_wp2_with fail
    refine (flip_any B (k + 5) 25 _ hs (by omega) (by omega) (by omega)).mono ?_
    rintro e w4 ⟨fl, rfl, ho, hs'⟩
    replace R := Lib.hid (R.out.only ho (by omega))
    replace G := Lib.hid (G.out.trans (Gr.only ho))
    replace C := Lib.hid (C.out.only ho (by omega))
    have hB4 := hs'.lt
    have hW4 := R.out.lt
    have hA4 := C.out.lt
    have HS := Lib.hid hs'
    clear ho hs hs'
    cases fl
    · have x0 := C.out.cell 0 _ rfl
      have x1 := C.out.cell 1 _ rfl
      have x2 := C.out.cell 2 _ rfl
      have x3 := C.out.cell 3 _ rfl
      have x4 := C.out.cell 4 _ rfl
      have r0 := R.out.cell 0 _ rfl
      have r1 := R.out.cell 1 _ rfl
      have r2 := R.out.cell 2 _ rfl
      have r3 := R.out.cell 3 _ rfl
      have r4 := R.out.cell 4 _ rfl
      have f0 := R.out.frozen 0
      have f1 := R.out.frozen 1
      have f2 := R.out.frozen 2
      have f3 := R.out.frozen 3
      have f4 := R.out.frozen 4
      go_wp2_with fail
      refine bodyPost_ret (v := .agg #[.string p, .int .i64 a, .int .i64 kd, .string r, .string t]) (by simp only [results, Tryd.results5]; go_simp) rfl ⟨p, a, kd, r, t, q1, q2, q3, rfl, ?_, ?_⟩
      · exact gr_set5 G.out _ _ _ _ _ _ (Nat.le_refl _)
      · exact (HS.out.keep (below_set5 _ _ _ _ _ _ _ hB)).mono (by omega)
    · go_wp2_with fail
      refine (next_any B (k + 5 + 1) 5 _ HS.out (by omega) (by omega) (by omega)).mono ?_
      rintro e w5 ⟨sw, s0, s1, rfl, ho, hs⟩
      replace R := Lib.hid (R.out.only ho (by omega))
      replace G := Lib.hid (G.out.trans (Gr.only ho))
      replace C := Lib.hid (C.out.only ho (by omega))
      replace HS := Lib.hid hs
      have hB5 := hs.lt
      have hW5 := R.out.lt
      have hA5 := C.out.lt
      clear ho hs hB4 hW4 hA4
      rcases (by omega : sw = 0 ∨ sw = 1 ∨ sw = 2 ∨ sw = 3 ∨ sw = 4) with rfl | rfl | rfl | rfl | rfl
      · go_wp2_with fail
        refine (h06_le 100 B (k + 5 + 1 + 1) _ _ [⟨#[]⟩, ⟨#[80]⟩] _ _ _ (HS.out.keep (by go_grown)) (by omega) (by omega) (new_at (by simp)) (by simp) (by simp) (le_all (by decide +kernel))).mono ?_
        rintro e w6 ⟨u, hu, rfl, ho, hs⟩
        replace R := Lib.hid ((R.out.alloc _).only ho (by omega))
        replace G := Lib.hid ((G.out.alloc _).trans (Gr.only ho))
        replace C := Lib.hid ((C.out.alloc _).only ho (by omega))
        replace HS := Lib.hid hs
        have hB6 := hs.lt
        have hW6 := R.out.lt
        have hA6 := C.out.lt
        clear ho hs
        have x0 := C.out.cell 0 _ rfl
        have x1 := C.out.cell 1 _ rfl
        have x2 := C.out.cell 2 _ rfl
        have x3 := C.out.cell 3 _ rfl
        have x4 := C.out.cell 4 _ rfl
        have y := C.out.frozen 0
        have r0 := R.out.cell 0 _ rfl
        have r1 := R.out.cell 1 _ rfl
        have r2 := R.out.cell 2 _ rfl
        have r3 := R.out.cell 3 _ rfl
        have r4 := R.out.cell 4 _ rfl
        have f0 := R.out.frozen 0
        have f1 := R.out.frozen 1
        have f2 := R.out.frozen 2
        have f3 := R.out.frozen 3
        have f4 := R.out.frozen 4
        go_wp2_with fail
        refine bodyPost_ret (v := .agg #[.string u, .int .i64 a, .int .i64 kd, .string r, .string t]) (by simp only [results, Tryd.results5]; go_simp) rfl ⟨u, a, kd, r, t, by omega, by omega, by omega, rfl, ?_, ?_⟩
        · exact gr_set5 (G.out.setCell (p := ⟨w3.heap.size, 0, none⟩) (Nat.le_of_lt hW3) _) _ _ _ _ _ _ (Nat.le_refl _)
        · exact (HS.out.keep (((Below.refl _ _).setCell (p := ⟨w3.heap.size, 0, none⟩) hB3 _).trans (below_set5 _ _ _ _ _ _ _ hB))).mono (by omega)
      · go_wp2_with fail
        refine (pick_le B (k + 5 + 1 + 1) _ _ [-1, 5761440] _ _ _ (HS.out.keep (by go_grown)) (by omega) (by omega) (new_at (by simp)) (by simp) (by simp)).mono ?_
        rintro e w6 ⟨u, rfl, ho, hs⟩
        replace R := Lib.hid ((R.out.alloc _).only ho (by omega))
        replace G := Lib.hid ((G.out.alloc _).trans (Gr.only ho))
        replace C := Lib.hid ((C.out.alloc _).only ho (by omega))
        replace HS := Lib.hid hs
        have hB6 := hs.lt
        have hW6 := R.out.lt
        have hA6 := C.out.lt
        clear ho hs
        have x0 := C.out.cell 0 _ rfl
        have x1 := C.out.cell 1 _ rfl
        have x2 := C.out.cell 2 _ rfl
        have x3 := C.out.cell 3 _ rfl
        have x4 := C.out.cell 4 _ rfl
        have y := C.out.frozen 1
        have r0 := R.out.cell 0 _ rfl
        have r1 := R.out.cell 1 _ rfl
        have r2 := R.out.cell 2 _ rfl
        have r3 := R.out.cell 3 _ rfl
        have r4 := R.out.cell 4 _ rfl
        have f0 := R.out.frozen 0
        have f1 := R.out.frozen 1
        have f2 := R.out.frozen 2
        have f3 := R.out.frozen 3
        have f4 := R.out.frozen 4
        go_wp2_with fail
        refine bodyPost_ret (v := .agg #[.string p, .int .i64 u, .int .i64 kd, .string r, .string t]) (by simp only [results, Tryd.results5]; go_simp) rfl ⟨p, u, kd, r, t, by omega, by omega, by omega, rfl, ?_, ?_⟩
        · exact gr_set5 (G.out.setCell (p := ⟨w3.heap.size, 1, none⟩) (Nat.le_of_lt hW3) _) _ _ _ _ _ _ (Nat.le_refl _)
        · exact (HS.out.keep (((Below.refl _ _).setCell (p := ⟨w3.heap.size, 1, none⟩) hB3 _).trans (below_set5 _ _ _ _ _ _ _ hB))).mono (by omega)
      · go_wp2_with fail
        refine (pick_le B (k + 5 + 1 + 1) _ _ [0, 4] _ _ _ (HS.out.keep (by go_grown)) (by omega) (by omega) (new_at (by simp)) (by simp) (by simp)).mono ?_
        rintro e w6 ⟨u, rfl, ho, hs⟩
        replace R := Lib.hid ((R.out.alloc _).only ho (by omega))
        replace G := Lib.hid ((G.out.alloc _).trans (Gr.only ho))
        replace C := Lib.hid ((C.out.alloc _).only ho (by omega))
        replace HS := Lib.hid hs
        have hB6 := hs.lt
        have hW6 := R.out.lt
        have hA6 := C.out.lt
        clear ho hs
        have x0 := C.out.cell 0 _ rfl
        have x1 := C.out.cell 1 _ rfl
        have x2 := C.out.cell 2 _ rfl
        have x3 := C.out.cell 3 _ rfl
        have x4 := C.out.cell 4 _ rfl
        have y := C.out.frozen 2
        have r0 := R.out.cell 0 _ rfl
        have r1 := R.out.cell 1 _ rfl
        have r2 := R.out.cell 2 _ rfl
        have r3 := R.out.cell 3 _ rfl
        have r4 := R.out.cell 4 _ rfl
        have f0 := R.out.frozen 0
        have f1 := R.out.frozen 1
        have f2 := R.out.frozen 2
        have f3 := R.out.frozen 3
        have f4 := R.out.frozen 4
        go_wp2_with fail
        refine bodyPost_ret (v := .agg #[.string p, .int .i64 a, .int .i64 u, .string r, .string t]) (by simp only [results, Tryd.results5]; go_simp) rfl ⟨p, a, u, r, t, by omega, by omega, by omega, rfl, ?_, ?_⟩
        · exact gr_set5 (G.out.setCell (p := ⟨w3.heap.size, 2, none⟩) (Nat.le_of_lt hW3) _) _ _ _ _ _ _ (Nat.le_refl _)
        · exact (HS.out.keep (((Below.refl _ _).setCell (p := ⟨w3.heap.size, 2, none⟩) hB3 _).trans (below_set5 _ _ _ _ _ _ _ hB))).mono (by omega)
      · go_wp2_with fail
        refine (h06_le 100 B (k + 5 + 1 + 1) _ _ [⟨#[73, 108, 108]⟩, ⟨#[120]⟩] _ _ _ (HS.out.keep (by go_grown)) (by omega) (by omega) (new_at (by simp)) (by simp) (by simp) (le_all (by decide +kernel))).mono ?_
        rintro e w6 ⟨u, hu, rfl, ho, hs⟩
        replace R := Lib.hid ((R.out.alloc _).only ho (by omega))
        replace G := Lib.hid ((G.out.alloc _).trans (Gr.only ho))
        replace C := Lib.hid ((C.out.alloc _).only ho (by omega))
        replace HS := Lib.hid hs
        have hB6 := hs.lt
        have hW6 := R.out.lt
        have hA6 := C.out.lt
        clear ho hs
        have x0 := C.out.cell 0 _ rfl
        have x1 := C.out.cell 1 _ rfl
        have x2 := C.out.cell 2 _ rfl
        have x3 := C.out.cell 3 _ rfl
        have x4 := C.out.cell 4 _ rfl
        have y := C.out.frozen 3
        have r0 := R.out.cell 0 _ rfl
        have r1 := R.out.cell 1 _ rfl
        have r2 := R.out.cell 2 _ rfl
        have r3 := R.out.cell 3 _ rfl
        have r4 := R.out.cell 4 _ rfl
        have f0 := R.out.frozen 0
        have f1 := R.out.frozen 1
        have f2 := R.out.frozen 2
        have f3 := R.out.frozen 3
        have f4 := R.out.frozen 4
        go_wp2_with fail
        refine bodyPost_ret (v := .agg #[.string p, .int .i64 a, .int .i64 kd, .string u, .string t]) (by simp only [results, Tryd.results5]; go_simp) rfl ⟨p, a, kd, u, t, by omega, by omega, by omega, rfl, ?_, ?_⟩
        · exact gr_set5 (G.out.setCell (p := ⟨w3.heap.size, 3, none⟩) (Nat.le_of_lt hW3) _) _ _ _ _ _ _ (Nat.le_refl _)
        · exact (HS.out.keep (((Below.refl _ _).setCell (p := ⟨w3.heap.size, 3, none⟩) hB3 _).trans (below_set5 _ _ _ _ _ _ _ hB))).mono (by omega)
      · go_wp2_with fail
        refine (repeat_any _).mono ?_
        rintro e wr ⟨tt, htt, rfl, hb⟩
        replace R := Lib.hid (R.out.below hb R.out.lt)
        replace C := Lib.hid (C.out.below hb C.out.lt)
        replace G := Lib.hid (G.out.trans (Gr.below hb))
        replace HS := Lib.hid (HS.out.keep (hb.mono (by omega)))
        have hB7 := HS.out.lt
        have hW7 := R.out.lt
        have hA7 := C.out.lt
        have hlong := append_size tt htt
        clear hb hB5 hW5 hA5
        have hsz1 : tt.size + (⟨#[10]⟩ : ByteArray).size ≤ 9223372036854775807 := by rw [htt]; decide
        go_wp2_with fail
        clear hsz1 htt
        generalize tt ++ (⟨#[10]⟩ : ByteArray) = x at hlong ⊢
        refine (h06_le 30000 B (k + 5 + 1 + 1) wr.heap.size _ [⟨#[120]⟩, ⟨#[97, 9, 98, 10]⟩, ⟨#[120, 10]⟩, x] _ _ _ (HS.out.keep (by go_grown)) (by omega) (by omega) (new_at (by simp)) (by simp) (by simp) (long_all hlong)).mono ?_
        rintro e w6 ⟨u, hu, rfl, ho, hs⟩
        replace R := Lib.hid ((R.out.alloc _).only ho (by omega))
        replace G := Lib.hid ((G.out.alloc _).trans (Gr.only ho))
        replace C := Lib.hid ((C.out.alloc _).only ho (by omega))
        replace HS := Lib.hid hs
        have hB6 := hs.lt
        have hW6 := R.out.lt
        have hA6 := C.out.lt
        clear ho hs
        have x0 := C.out.cell 0 _ rfl
        have x1 := C.out.cell 1 _ rfl
        have x2 := C.out.cell 2 _ rfl
        have x3 := C.out.cell 3 _ rfl
        have x4 := C.out.cell 4 _ rfl
        have y := C.out.frozen 4
        have r0 := R.out.cell 0 _ rfl
        have r1 := R.out.cell 1 _ rfl
        have r2 := R.out.cell 2 _ rfl
        have r3 := R.out.cell 3 _ rfl
        have r4 := R.out.cell 4 _ rfl
        have f0 := R.out.frozen 0
        have f1 := R.out.frozen 1
        have f2 := R.out.frozen 2
        have f3 := R.out.frozen 3
        have f4 := R.out.frozen 4
        go_wp2_with fail
        refine bodyPost_ret (v := .agg #[.string p, .int .i64 a, .int .i64 kd, .string r, .string u]) (by simp only [results, Tryd.results5]; go_simp) rfl ⟨p, a, kd, r, u, by omega, by omega, by omega, rfl, ?_, ?_⟩
        · exact gr_set5 (G.out.setCell (p := ⟨w3.heap.size, 4, none⟩) (Nat.le_of_lt hW3) _) _ _ _ _ _ _ (Nat.le_refl _)
        · exact (HS.out.keep (((Below.refl _ _).setCell (p := ⟨w3.heap.size, 4, none⟩) hB3 _).trans (below_set5 _ _ _ _ _ _ _ hB))).mono (by omega)
end Go.Proofs.YtglmdgjbfnoidabDoor.Stm
