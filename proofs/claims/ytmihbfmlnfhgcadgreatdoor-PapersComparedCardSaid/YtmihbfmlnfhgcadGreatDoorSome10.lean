/-
  THE CONTRACTS OF some10 AND odd10: one of some strings; a number nearly always within a range.
-/
import Derived.Test.YtmihbfmlnfhgcadGreatDoorOne
namespace Go.Proofs.YtmihbfmlnfhgcadGreatDoor.Stm
open Go.ChangeShapes Go.WideShapes Go.ChangeAt Go.RowKit
set_option linter.unusedVariables false

set_option maxHeartbeats 400000 in
theorem some10_any (B k b cap : Nat) (zs : List ByteArray) (t : TypeId) (fz : Nat × Nat) (w : World) (h : Strm w B k) (hk : k ≤ 1099511627776) (hbB : b ≠ B)
    (hb : w.heap[b]? = some (.cells (zs.map Value.string).toArray t fz)) (h1 : 1 ≤ zs.length) (h2 : zs.length ≤ 1099511627) :
    Calls Tryz.prog 20 #[.pointer (some ⟨B, 0, none⟩), .slice (some ⟨b, 0, none⟩) zs.length cap] w fun e w' =>
      ∃ r : ByteArray, r ∈ zs ∧ e = .returned (.string r) ∧ Only B w w' ∧ Strm w' B (k + 1) := by
  go_enter Tryz.func20, Tryz.ntmps20
  go_wp2_with fail
  refine (next_any _ _ _ _ h hk (by omega) (by omega)).mono ?_
  rintro e w' ⟨r, r0, r1, rfl, ho, hs⟩
  obtain ⟨m, rfl⟩ := Int.eq_ofNat_of_zero_le r0
  have hm : m < zs.length := by omega
  have hc : w'.cell? ⟨b, m, none⟩ = some (.string zs[m]) := (ho.cell b m hbB).trans (str_cell hb m hm)
  go_wp2
  go_ret
  exact ⟨zs[m], by simp, rfl, ho, hs⟩
theorem some10_le (m B k b cap : Nat) (zs : List ByteArray) (t : TypeId) (fz : Nat × Nat) (w : World) (h : Strm w B k) (hk : k ≤ 1099511627776) (hbB : b ≠ B)
    (hb : w.heap[b]? = some (.cells (zs.map Value.string).toArray t fz)) (h1 : 1 ≤ zs.length) (h2 : zs.length ≤ 1099511627) (hm : ∀ s ∈ zs, s.size ≤ m) :
    Calls Tryz.prog 20 #[.pointer (some ⟨B, 0, none⟩), .slice (some ⟨b, 0, none⟩) zs.length cap] w fun e w' =>
      ∃ r : ByteArray, r.size ≤ m ∧ e = .returned (.string r) ∧ Only B w w' ∧ Strm w' B (k + 1) :=
  (some10_any B k b cap zs t fz w h hk hbB hb h1 h2).mono fun e w' ⟨r, hr, he, ho, hs⟩ => ⟨r, hm r hr, he, ho, hs⟩

set_option maxHeartbeats 1000000 in
theorem odd10_any (B k : Nat) (lo hi : Int) (w : World) (h : Strm w B k) (hk : k ≤ 1000000) (h1 : lo ≤ hi) (h2 : -1000000000 ≤ lo) (h3 : hi ≤ 1000000000) :
    Calls Tryz.prog 19 #[.pointer (some ⟨B, 0, none⟩), .int .i64 lo, .int .i64 hi] w fun e w' =>
      ∃ r : Int, -1099511627776 ≤ r ∧ r ≤ 1099511627776 ∧ e = .returned (.int .i64 r) ∧ Gr B w w' ∧ Strm w' B (k + 2) := by
  have H0 := Lib.hid h
  clear h
  go_enter Tryz.func19, Tryz.ntmps19
  go_wp2_with fail
  refine (flip_any B k 12 _ H0.out (by omega) (by omega) (by omega)).mono ?_
  rintro e w1 ⟨fl, rfl, ho, hs⟩
  have O1 := Lib.hid ho
  have S1 := Lib.hid hs
  have hB1 := hs.lt
  clear ho hs H0
  cases fl
  · go_wp2_with fail
    refine (range_any B (k + 1) lo hi _ S1.out (by omega) h1 (by omega) (by omega)).mono ?_
    rintro e w2 ⟨r, r0, r1, rfl, ho, hs⟩
    go_wp2_with fail
    go_ret
    exact ⟨r, by omega, by omega, rfl, (Gr.only O1.out).trans (Gr.only ho), hs⟩
  · go_wp2_with fail
    refine (pick_any B (k + 1) _ _ [lo - 1, hi + 1, lo, hi, -1099511627776, 1099511627776] _ _ _ (S1.out.keep (by go_grown)) (by omega) (by omega) (new_at rfl) (by simp) (by simp)).mono ?_
    rintro e w2 ⟨r, hr, rfl, ho, hs⟩
    go_wp2_with fail
    go_ret
    refine ⟨r, ?_, ?_, rfl, ((Gr.only O1.out).alloc _).trans (Gr.only ho), hs⟩
    · simp at hr; omega
    · simp at hr; omega
end Go.Proofs.YtmihbfmlnfhgcadGreatDoor.Stm
