/-
  THE STREAM OF DRAWN NUMBERS, EXACTLY: which number comes is a function of the numbers that were handed in and of how many were drawn before: Next, Flip, Pick, h06one.
-/
import Derived.Test.YtnjigaklkalebaaDoorOne
import Derived.Test.YtnjigaklkalebaaDoorLaw
namespace Go.Proofs.YtnjigaklkalebaaDoor.Stm
open Go.ChangeShapes Go.WideShapes Go.ChangeAt Go.RowKit
set_option linter.unusedVariables false

/-- The number that is drawn behind c others. -/
def NV (S : List Int) (c : Nat) (n : Int) : Int :=
  if S.length = 0 then below (((c : Int) + 1) * 7919) n
  else below (below (S.getD (c % S.length) 0) 1073741824 + (c : Int) / (S.length : Int) * (7919 + (c : Int) % (S.length : Int))) n
theorem NV_bd (S : List Int) (c : Nat) (n : Int) (h : 1 ≤ n) : 0 ≤ NV S c n ∧ NV S c n < n := by
  unfold NV; split <;> exact below_bd _ n h
/-- A stream at block B of the numbers S, behind c draws. -/
def StrD (D : Nat) (S : List Int) (w : World) (B c : Nat) : Prop :=
  ∃ (a : Option Addr) (cap : Nat), w.heap[B]? = some (.cells #[.slice a S.length cap, .int .i64 c] 25 (0, 0)) ∧
    (S.length = 0 ∨ ∃ b o, a = some ⟨b, o, none⟩ ∧ b < D ∧ D ≤ B ∧ S.length ≤ cap ∧ S.length ≤ 9223372036854775807 ∧ ∀ i, i < S.length → w.cell? ⟨b, o + i, none⟩ = some (.int .i64 (S.getD i 0)) ∧ -9223372036854775808 ≤ S.getD i 0 ∧ S.getD i 0 ≤ 9223372036854775807)
theorem StrD.lt {D : Nat} {S : List Int} {w : World} {B c : Nat} (h : StrD D S w B c) : B < w.heap.size := by
  obtain ⟨a, cap, h1, _⟩ := h; exact lt_of_block h1
theorem StrD.keep {D : Nat} {S : List Int} {w w' : World} {B c : Nat} (h : StrD D S w B c) (hb : Below (B + 1) w w') : StrD D S w' B c := by
  obtain ⟨a, cap, h1, h3⟩ := h
  refine ⟨a, cap, by rw [hb.block B (by omega)]; exact h1, ?_⟩
  rcases h3 with h3 | ⟨b, o, ha, hbB, hDB, hl1, hl2, hz⟩
  · exact Or.inl h3
  · exact Or.inr ⟨b, o, ha, hbB, hDB, hl1, hl2, fun i hi => ⟨(hb.cell (p := ⟨b, o + i, none⟩) (show b < B + 1 by omega)).trans (hz i hi).1, (hz i hi).2⟩⟩
/-- It stays while another stream draws, that was made behind the numbers. -/
theorem StrD.gr {D : Nat} {S : List Int} {w w' : World} {B C c : Nat} (h : StrD D S w B c) (hg : Gr C w w') (hne : B ≠ C) (hC : D ≤ C) : StrD D S w' B c := by
  have hlt := h.lt
  obtain ⟨a, cap, h1, h3⟩ := h
  refine ⟨a, cap, by rw [hg.block B hlt (by simpa using hne)]; exact h1, ?_⟩
  rcases h3 with h3 | ⟨b, o, ha, hbB, hDB, hl1, hl2, hz⟩
  · exact Or.inl h3
  · exact Or.inr ⟨b, o, ha, hbB, hDB, hl1, hl2, fun i hi => ⟨(hg.cell b (o + i) (by omega) (by omega)).trans (hz i hi).1, (hz i hi).2⟩⟩

set_option maxHeartbeats 1000000 in
theorem nextd_none (B : Nat) (a : Option Addr) (cap c : Nat) (n : Int) (w : World) (h : w.heap[B]? = some (.cells #[.slice a 0 cap, .int .i64 c] 25 (0, 0)))
    (hc : c ≤ 1099511627776) (hn : 1 ≤ n) (hn2 : n ≤ 1099511627776) :
    Calls Tryd.prog 16 #[.pointer (some ⟨B, 0, none⟩), .int .i64 n] w fun e w' =>
      e = .returned (.int .i64 (below (((c : Int) + 1) * 7919) n)) ∧ w' = w.setCell ⟨B, 1, none⟩ (.int .i64 ((c : Int) + 1)) := by
  obtain ⟨h0, h1, h2, h3⟩ := strm_cells h
  go_enter Tryd.func16, Tryd.ntmps16
  go_wp2_with (go_at_call 28; refine (below_any _ _ _ (by omega) (by omega) (by omega) (by omega)).mono ?_; rintro e w' ⟨rfl, rfl⟩)
  go_ret
  exact ⟨rfl, rfl⟩
set_option maxHeartbeats 1000000 in
theorem nextd_some (B b o len cap c : Nat) (n : Int) (w : World) (h : w.heap[B]? = some (.cells #[.slice (some ⟨b, o, none⟩) len cap, .int .i64 c] 25 (0, 0)))
    (hb : b ≠ B) (hl : 0 < len) (hl2 : len ≤ 9223372036854775807)
    (z : Int) (hz : w.cell? ⟨b, o + c % len, none⟩ = some (.int .i64 z)) (hz1 : -9223372036854775808 ≤ z) (hz2 : z ≤ 9223372036854775807)
    (hc : c ≤ 1099511627776) (hn : 1 ≤ n) (hn2 : n ≤ 1099511627776) :
    Calls Tryd.prog 16 #[.pointer (some ⟨B, 0, none⟩), .int .i64 n] w fun e w' =>
      e = .returned (.int .i64 (below (below z 1073741824 + (c : Int) / len * (7919 + (c : Int) % len)) n)) ∧ ∃ k, w' = (w.setCell ⟨B, 1, none⟩ (.int .i64 ((c : Int) + 1))).drewN k := by
  obtain ⟨h0, h1, h2, h3⟩ := strm_cells h
  have hlb : ((len : Int) == 0) = false := by simp; omega
  obtain ⟨q1, q2, q7, q3, q4, q5, q6⟩ := round_bd c len hl
  have b1 := below_bd z 1073741824 (by omega)
  have hw1 : wrap64 ((c : Int) / len) = (c : Int) / len := IntWalk.wrap64_in _ (by omega)
  go_enter Tryd.func16, Tryd.ntmps16
  go_wp2
  go_quiet (fail)
  go_wp2
  go_quiet (fail)
  go_wp2_with fail
  refine (below_any _ _ _ (by omega) (by omega) (by omega) (by omega)).mono ?_
  rintro e w' ⟨rfl, rfl⟩
  go_wp2_with fail
  refine (below_any _ _ _ (by omega) (by omega) (by omega) (by omega)).mono ?_
  rintro e w' ⟨rfl, rfl⟩
  go_wp2
  go_ret
  exact ⟨rfl, _, rfl⟩
/-- Next, exactly. -/
theorem next_det (D : Nat) (S : List Int) (B c : Nat) (n : Int) (w : World) (h : StrD D S w B c) (hk : c ≤ 1099511627776) (hn : 1 ≤ n) (hn2 : n ≤ 1099511627776) :
    Calls Tryd.prog 16 #[.pointer (some ⟨B, 0, none⟩), .int .i64 n] w fun e w' =>
      e = .returned (.int .i64 (NV S c n)) ∧ Only B w w' ∧ StrD D S w' B (c + 1) := by
  obtain ⟨a, cap, h1, h3⟩ := h
  by_cases h0 : S.length = 0
  · rw [h0] at h1
    refine (nextd_none B a cap c n w h1 hk hn hn2).mono fun e w' ⟨he, hw⟩ => ?_
    subst hw
    exact ⟨by rw [he]; unfold NV; rw [if_pos h0], (Only.refl _ _).setCell _ none _, a, cap, by rw [h0]; exact heap_setCell_two h1, Or.inl h0⟩
  · rcases h3 with h3 | ⟨b, o, rfl, hb, hDB, hcap, hl2, hz⟩
    · exact absurd h3 h0
    obtain ⟨hz0, hz1, hz2⟩ := hz (c % S.length) (Nat.mod_lt _ (by omega))
    refine (nextd_some B b o S.length cap c n w h1 (by omega) (by omega) hl2 _ hz0 hz1 hz2 hk hn hn2).mono fun e w' ⟨he, m, hw⟩ => ?_
    subst hw
    refine ⟨by rw [he]; unfold NV; rw [if_neg h0], ((Only.refl _ _).setCell _ none _).drewN _, some ⟨b, o, none⟩, cap, heap_setCell_two h1, Or.inr ⟨b, o, rfl, hb, hDB, hcap, hl2, fun i hi => ?_⟩⟩
    exact ⟨(Only.cell ((Only.refl B w).setCell 1 none _) b (o + i) (by omega)).trans (hz i hi).1, (hz i hi).2⟩
def FD (S : List Int) (c : Nat) (n : Int) : Bool := NV S c n == 0
theorem flip_det (D : Nat) (S : List Int) (B c : Nat) (n : Int) (w : World) (h : StrD D S w B c) (hk : c ≤ 1099511627776) (hn : 1 ≤ n) (hn2 : n ≤ 1099511627776) :
    Calls Tryd.prog 15 #[.pointer (some ⟨B, 0, none⟩), .int .i64 n] w fun e w' => e = .returned (.bool (FD S c n)) ∧ Only B w w' ∧ StrD D S w' B (c + 1) := by
  have H := Lib.hid (next_det D S B c n w h hk hn hn2)
  have HF : Hid (FD S c n = (NV S c n == 0)) := Lib.hid rfl
  generalize NV S c n = v at *
  generalize FD S c n = f at *
  clear h
  go_enter Tryd.func15, Tryd.ntmps15
  go_wp2_with fail
  refine (H.out).mono ?_; rintro e w1 ⟨rfl, ho, hs⟩
  go_wp2_with fail
  go_ret
  exact ⟨by rw [HF.out]; try rfl, ho, hs⟩
/-- One of some numbers; of some strings. -/
def PV (S : List Int) (c : Nat) (zs : List Int) : Int := zs.getD (NV S c zs.length).toNat 0
def OV (S : List Int) (c : Nat) (zs : List ByteArray) : ByteArray := zs.getD (NV S c zs.length).toNat ⟨#[]⟩
theorem pv_in (S : List Int) (c : Nat) (zs : List Int) (h : 1 ≤ zs.length) : PV S c zs ∈ zs := by
  have := NV_bd S c zs.length (by omega)
  unfold PV
  rw [List.getD_eq_getElem?_getD, List.getElem?_eq_getElem (by omega : (NV S c zs.length).toNat < zs.length)]
  exact List.getElem_mem _
theorem ov_in (S : List Int) (c : Nat) (zs : List ByteArray) (h : 1 ≤ zs.length) : OV S c zs ∈ zs := by
  have := NV_bd S c zs.length (by omega)
  unfold OV
  rw [List.getD_eq_getElem?_getD, List.getElem?_eq_getElem (by omega : (NV S c zs.length).toNat < zs.length)]
  exact List.getElem_mem _
set_option maxHeartbeats 400000 in
theorem pick_det (D : Nat) (S : List Int) (B c b cap : Nat) (zs : List Int) (t : TypeId) (fz : Nat × Nat) (w : World) (h : StrD D S w B c) (hk : c ≤ 1099511627776) (hbB : b ≠ B)
    (hb : w.heap[b]? = some (.cells (zs.map (Value.int .i64)).toArray t fz)) (h1 : 1 ≤ zs.length) (h2 : zs.length ≤ 1099511627) :
    Calls Tryd.prog 18 #[.pointer (some ⟨B, 0, none⟩), .slice (some ⟨b, 0, none⟩) zs.length cap] w fun e w' =>
      e = .returned (.int .i64 (PV S c zs)) ∧ Only B w w' ∧ StrD D S w' B (c + 1) := by
  have H := Lib.hid (next_det D S B c zs.length w h hk (by omega) (by omega))
  obtain ⟨v0, v1⟩ := NV_bd S c zs.length (by omega)
  have HP : Hid (PV S c zs = zs.getD (NV S c zs.length).toNat 0) := Lib.hid rfl
  generalize NV S c zs.length = v at *
  obtain ⟨m, rfl⟩ := Int.eq_ofNat_of_zero_le v0
  have hm : m < zs.length := by omega
  have HC := Lib.hid (fun (w' : World) (ho : Only B w w') => show w'.cell? ⟨b, m, none⟩ = some (.int .i64 (PV S c zs)) from by rw [HP.out]; exact (ho.cell b m hbB).trans (pick_cell hb m hm))
  clear h hb
  go_enter Tryd.func18, Tryd.ntmps18
  go_wp2_with fail
  refine (H.out).mono ?_; rintro e w1 ⟨rfl, ho, hs⟩
  have c1 := HC.out w1 ho
  go_wp2
  go_ret
  exact ⟨rfl, ho, hs⟩
set_option maxHeartbeats 400000 in
theorem h06_det (D : Nat) (S : List Int) (B c b cap : Nat) (zs : List ByteArray) (t : TypeId) (fz : Nat × Nat) (w : World) (h : StrD D S w B c) (hk : c ≤ 1099511627776) (hbB : b ≠ B)
    (hb : w.heap[b]? = some (.cells (zs.map Value.string).toArray t fz)) (h1 : 1 ≤ zs.length) (h2 : zs.length ≤ 1099511627) :
    Calls Tryd.prog 14 #[.pointer (some ⟨B, 0, none⟩), .slice (some ⟨b, 0, none⟩) zs.length cap] w fun e w' =>
      e = .returned (.string (OV S c zs)) ∧ Only B w w' ∧ StrD D S w' B (c + 1) := by
  have H := Lib.hid (next_det D S B c zs.length w h hk (by omega) (by omega))
  obtain ⟨v0, v1⟩ := NV_bd S c zs.length (by omega)
  have HP : Hid (OV S c zs = zs.getD (NV S c zs.length).toNat ⟨#[]⟩) := Lib.hid rfl
  generalize NV S c zs.length = v at *
  obtain ⟨m, rfl⟩ := Int.eq_ofNat_of_zero_le v0
  have hm : m < zs.length := by omega
  have HC := Lib.hid (fun (w' : World) (ho : Only B w w') => show w'.cell? ⟨b, m, none⟩ = some (.string (OV S c zs)) from by
    rw [HP.out, (ho.cell b m hbB).trans (str_cell hb m hm)]
    simp [List.getD, List.getElem?_eq_getElem hm])
  clear h hb
  go_enter Tryd.func14, Tryd.ntmps14
  go_wp2_with fail
  refine (H.out).mono ?_; rintro e w1 ⟨rfl, ho, hs⟩
  have c1 := HC.out w1 ho
  go_wp2
  go_ret
  exact ⟨rfl, ho, hs⟩
/-- A slice that came in is as it was behind what is new. -/
theorem isrow_alloc {w : World} {a : Option Addr} {len cap : Nat} {zs : List Int} (h : IsRow .i64 w a len cap zs) (o : Obj) : IsRow .i64 (w.alloc o) a len cap zs := by
  rcases h with h | ⟨x, h0, h1, h2, h3, h4, h5⟩
  · exact Or.inl h
  · refine Or.inr ⟨x, h0, h1, h2, h3, fun i hi => ?_, h5⟩
    have hx := h4 i hi
    have hlt := World.block_lt_of_cell? w _ hx
    exact (World.cell?_alloc_old w _ _ (Nat.ne_of_lt hlt)).trans hx
/-- What a law begins with. -/
theorem strd_new {w : World} {a : Option Addr} {len cap : Nat} {zs : List Int} (D : Nat) (h : IsRow .i64 w a len cap zs) (hD : D ≤ w.heap.size) (hlo : ∀ b o, a = some ⟨b, o, none⟩ → 0 < len → b < D) :
    StrD D (zs.take len) (w.alloc (.cells #[.slice a len cap, .int .i64 0] 25)) w.heap.size 0 := by
  have hlen : (zs.take len).length = len := by
    rcases h with ⟨_, h1, _, h3⟩ | ⟨x, _, h1, _, h3, _⟩
    · rw [h1]; simp
    · rw [List.length_take]; omega
  refine ⟨a, cap, by rw [hlen]; exact heap_alloc_new w _, ?_⟩
  rw [hlen]
  rcases Nat.eq_zero_or_pos len with h0 | h0
  · exact Or.inl h0
  · rcases h with ⟨_, h1, _⟩ | ⟨x, rfl, h1, h2, h3, h4, h5⟩
    · omega
    · obtain ⟨b, o, s⟩ := x
      have hx := h4 0 (by omega)
      have hs : s = none := by simpa [Addr.add] using World.cell?_spot hx
      subst hs
      have hlt : b < w.heap.size := by
        have := World.block_lt_of_cell? w _ hx
        simpa [add_plain'] using this
      refine Or.inr ⟨b, o, rfl, hlo b o rfl h0, hD, h1, by unfold maxLen at h2; omega, fun i hi => ?_⟩
      have hi' : i < zs.length := by omega
      have hg : (zs.take len).getD i 0 = zs.getD i 0 := by
        rw [List.getD_eq_getElem?_getD, List.getD_eq_getElem?_getD, List.getElem?_take_of_lt hi]
      rw [hg]
      refine ⟨?_, ?_⟩
      · refine (World.cell?_alloc_old w _ ⟨b, o + i, none⟩ (Nat.ne_of_lt hlt)).trans ?_
        rw [← add_plain']
        exact h4 i hi'
      · have h6 := h5 (zs.getD i 0) (by simp [List.getD, List.getElem?_eq_getElem hi'])
        unfold Lit.wf at h6
        rw [Bool.and_eq_true] at h6
        exact ⟨of_decide_eq_true h6.1, of_decide_eq_true h6.2⟩
theorem row_lo {w : World} {a : Option Addr} {len cap : Nat} {zs : List Int} (h : IsRow .i64 w a len cap zs) : ∀ b o, a = some ⟨b, o, none⟩ → 0 < len → b < w.heap.size := by
  intro b o ha h0
  rcases h with ⟨h1, h2, _⟩ | ⟨x, h1, h2, h3, h4, h5, _⟩
  · omega
  · rw [h1] at ha
    injection ha with ha
    subst ha
    have := World.block_lt_of_cell? w _ (h5 0 (by omega))
    simpa [add_plain'] using this
end Go.Proofs.YtnjigaklkalebaaDoor.Stm
