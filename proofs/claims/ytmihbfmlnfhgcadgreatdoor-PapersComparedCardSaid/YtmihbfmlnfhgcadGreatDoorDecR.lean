/-
  THE MAKER OF THE RULES OF DECISIONS (Stream.DecideRules): its region makes thirteen blocks in any order.
-/
import Derived.Test.YtmihbfmlnfhgcadGreatDoorOrdC
import Derived.Test.YtmihbfmlnfhgcadGreatDoorMk
import Derived.Test.YtmihbfmlnfhgcadGreatDoorReg
namespace Go.Proofs.YtmihbfmlnfhgcadGreatDoor.Cal
open Go.ChangeShapes Go.WideShapes Go.ChangeAt Go.RowKit Stm Key
set_option linter.unusedVariables false

/-- A slice that is these numbers, in a block behind H. -/
def LP (H : Nat) (zs : List Int) (v : Value) (w : World) : Prop := ∃ g, v = .slice (some ⟨g, 0, none⟩) zs.length zs.length ∧ H < g ∧ Blk w g 3 (zs.map (Value.int .i64)).toArray
/-- A slice of small numbers, nil or behind H. -/
def SLs (H : Nat) (v : Value) (w : World) : Prop := ∃ (A : Option Addr) (n c : Nat) (zs : List Int), v = .slice A n c ∧ zs.length = n ∧ n ≤ c ∧ c ≤ 3 ∧ IL w A zs ∧ ((A = none ∧ n = 0) ∨ ∃ g, A = some ⟨g, 0, none⟩ ∧ H < g)
theorem gr_blk {B : Nat} {w w' : World} {g : Nat} {t : TypeId} {cs : Array Value} (h : Blk w g t cs) (hg : Gr B w w') (hne : g ≠ B) : Blk w' g t cs := (hg.block g h.lt (fun e => hne (by injection e))).trans h
theorem LP.gr {B H : Nat} {zs : List Int} {v : Value} {w w' : World} (h : LP H zs v w) (hB : B < H) (hg : Gr B w w') : LP H zs v w' := by
  obtain ⟨g, e, h1, h2⟩ := h
  exact ⟨g, e, h1, gr_blk h2 hg (by omega)⟩
theorem SLs.gr {B H : Nat} {v : Value} {w w' : World} (h : SLs H v w) (hB : B < H) (hg : Gr B w w') : SLs H v w' := by
  obtain ⟨A, n, c, zs, e, h2, h3, h4, h5, h6⟩ := h
  refine ⟨A, n, c, zs, e, h2, h3, h4, ⟨h5.1, fun h0 => ?_⟩, h6⟩
  obtain ⟨b, e, hbl, hc⟩ := h5.2 h0
  have hne : b ≠ B := by
    rcases h6 with ⟨e2, _⟩ | ⟨g, e2, hg2⟩
    · rw [e] at e2; cases e2
    · rw [e] at e2; injection e2 with e2; injection e2 with e2; omega
  exact ⟨b, e, Nat.lt_of_lt_of_le hbl hg.size, fun i hi => (hg.cell b i hbl hne).trans (hc i hi)⟩
theorem LP.sls {H : Nat} {zs : List Int} {v : Value} {w : World} (h : LP H zs v w) (hz : ∀ x ∈ zs, 0 ≤ x ∧ x ≤ 10) (hl : zs.length ≤ 3) : SLs H v w := by
  obtain ⟨g, e, h1, h2⟩ := h
  exact ⟨_, _, _, zs, e, rfl, Nat.le_refl _, hl, ⟨hz, fun _ => ⟨g, rfl, h2.lt, fun i hi => h2.cell i _ (by simp [hi])⟩⟩, Or.inr ⟨g, rfl, h1⟩⟩
/-- A cell that holds such a slice. -/
def Cs (H g r : Nat) (w : World) : Prop := ∃ v, w.cell? ⟨g, r, none⟩ = some v ∧ SLs H v w
def decLL : List (List Int) := [[1], [1, 2], [3, 1], [4, 5, 1], [5], [2, 3], [1, 1], [0], [6]]
/-- What each operation has yielded. -/
def decP (B H : Nat) (j : Nat) (v : Value) (w : World) : Prop :=
  if j < 9 then LP H (decLL.getD j []) v w
  else if j = 9 then ∃ g, v = .slice (some ⟨g, 0, none⟩) 10 10 ∧ H < g ∧ g < w.heap.size ∧ ∀ r, r < 10 → Cs H g r w
  else if j = 10 ∨ j = 15 then v = .pointer (some ⟨B, 0, none⟩)
  else if j = 11 then LP H [0, 1, 1, 2, 3, 4, 5, 6, 7, 8, 9] v w
  else if j = 12 then ∃ r : Nat, r < 10 ∧ v = .int .i64 (r : Int)
  else if j = 13 then ∃ g r : Nat, v = .pointer (some ⟨g, r, none⟩) ∧ H < g ∧ g < w.heap.size ∧ Cs H g r w
  else if j = 14 then SLs H v w
  else if j = 16 then LP H [0, 0, 50, 60, 100, (-1), 101] v w
  else if j = 17 then ∃ f : Int, -1 ≤ f ∧ f ≤ 101 ∧ v = .int .i64 f
  else if j = 18 then ∃ (u : Value) (f : Int), SLs H u w ∧ -1 ≤ f ∧ f ≤ 101 ∧ v = .agg #[u, .int .i64 f]
  else ∃ g, v = .pointer (some ⟨g, 0, none⟩) ∧ H < g ∧ Blk w g 27 #[.slice none 0 0, .int .i64 0]
theorem Cs.gr {B H g r : Nat} {w w' : World} (h : Cs H g r w) (hB : B < H) (hg : Gr B w w') (h1 : H < g) (h2 : g < w.heap.size) : Cs H g r w' := by
  obtain ⟨v, e, hv⟩ := h
  exact ⟨v, (hg.cell g r h2 (by omega)).trans e, hv.gr hB hg⟩
theorem decP_gr {B H : Nat} (hB : B < H) {w w' : World} (hg : Gr B w w') (j : Nat) (v : Value) (h : decP B H j v w) : decP B H j v w' := by
  unfold decP at h ⊢
  by_cases h1 : j < 9
  · rw [if_pos h1] at h ⊢; exact h.gr hB hg
  rw [if_neg h1] at h ⊢
  by_cases h2 : j = 9
  · rw [if_pos h2] at h ⊢
    obtain ⟨g, e, k1, k2, k3⟩ := h
    exact ⟨g, e, k1, Nat.lt_of_lt_of_le k2 hg.size, fun r hr => (k3 r hr).gr hB hg k1 k2⟩
  rw [if_neg h2] at h ⊢
  by_cases h3 : j = 10 ∨ j = 15
  · rw [if_pos h3] at h ⊢; exact h
  rw [if_neg h3] at h ⊢
  by_cases h4 : j = 11
  · rw [if_pos h4] at h ⊢; exact h.gr hB hg
  rw [if_neg h4] at h ⊢
  by_cases h5 : j = 12
  · rw [if_pos h5] at h ⊢; exact h
  rw [if_neg h5] at h ⊢
  by_cases h6 : j = 13
  · rw [if_pos h6] at h ⊢
    obtain ⟨g, r, e, k1, k2, k3⟩ := h
    exact ⟨g, r, e, k1, Nat.lt_of_lt_of_le k2 hg.size, k3.gr hB hg k1 k2⟩
  rw [if_neg h6] at h ⊢
  by_cases h7 : j = 14
  · rw [if_pos h7] at h ⊢; exact h.gr hB hg
  rw [if_neg h7] at h ⊢
  by_cases h8 : j = 16
  · rw [if_pos h8] at h ⊢; exact h.gr hB hg
  rw [if_neg h8] at h ⊢
  by_cases h9 : j = 17
  · rw [if_pos h9] at h ⊢; exact h
  rw [if_neg h9] at h ⊢
  by_cases h10 : j = 18
  · rw [if_pos h10] at h ⊢
    obtain ⟨u, f, k1, k2, k3, k4⟩ := h
    exact ⟨u, f, k1.gr hB hg, k2, k3, k4⟩
  rw [if_neg h10] at h ⊢
  obtain ⟨g, e, k1, k2⟩ := h
  exact ⟨g, e, k1, gr_blk k2 hg (by omega)⟩
/-- The stream, the block of what is handed back, and that nothing else has turned. -/
def decS (B k : Nat) (w0 : World) (c : Nat) (w : World) : Prop := Strm w B (k + c) ∧ Gr B w0 w ∧ Blk w w0.heap.size 27 #[.slice none 0 0, .int .i64 0]
theorem decS.gr {B k c c' : Nat} {w0 w w' : World} (h : decS B k w0 c w) (hB : B < w0.heap.size) (hg : Gr B w w') (hs : Strm w' B (k + c')) : decS B k w0 c' w' :=
  ⟨hs, h.2.1.trans hg, gr_blk h.2.2 hg (by omega)⟩
theorem decS.new {B k c : Nat} {w0 w : World} (h : decS B k w0 c w) (hB : B < w0.heap.size) (o : Obj) : decS B k w0 (c + 1) (w.alloc o) :=
  h.gr hB ((Gr.refl B w).alloc o) ((h.1.keep ((Below.refl _ _).alloc (by have := h.1.lt; omega) o)).mono (by omega))
theorem decS.same {B k c : Nat} {w0 w : World} (h : decS B k w0 c w) : decS B k w0 (c + 1) w := ⟨h.1.mono (by omega), h.2.1, h.2.2⟩
/-- The frame. -/
def decF (B H : Nat) (f : Nat → Value) : Act := { tmps := #[.pointer (some ⟨B, 0, none⟩), undef, .pointer (some ⟨H, 0, none⟩), f 19, f 0, f 1, f 2, f 3, f 4, f 5, f 6, f 7, f 8, f 9, f 10, f 11, f 12, f 13, f 14, f 15, f 16, f 17, f 18, undef], defers := [] }
/-- Rules of decisions handed back. -/
def DecRet (B k : Nat) (w : World) (e : Ending) (w' : World) : Prop := ∃ (A : Option Addr) (n c : Nat) (zs : List Int) (f : Int), e = .returned (.agg #[.slice A n c, .int .i64 f]) ∧ zs.length = n ∧ n ≤ c ∧ c ≤ 3 ∧ IL w' A zs ∧ ((A = none ∧ n = 0) ∨ ∃ g, A = some ⟨g, 0, none⟩ ∧ w.heap.size < g) ∧ -1 ≤ f ∧ f ≤ 101 ∧ Gr B w w' ∧ Strm w' B (k + 25)
theorem dec_fin {B k n cc c g : Nat} {A : Option Addr} {zs : List Int} {f : Int} {w w1 : World} (hB : B < w.heap.size) (hn : zs.length = n) (h3 : n ≤ cc) (h4 : cc ≤ 3) (hI : IL w1 A zs) (hA : (A = none ∧ n = 0) ∨ ∃ b, A = some ⟨b, 0, none⟩ ∧ w.heap.size < b) (f0 : -1 ≤ f) (f1 : f ≤ 101)
    (hS : decS B k w c w1) (hc : c ≤ 20) (hg : w.heap.size < g) (hb : Blk w1 g 27 #[.slice none 0 0, .int .i64 0]) :
    DecRet B k w (.returned (.agg #[.slice A n cc, .int .i64 f])) (((((w1.setCell ⟨g, 0, none⟩ (.slice A n cc)).setCell ⟨g, 1, none⟩ (.int .i64 f))).setCell ⟨w.heap.size, 0, none⟩ (.slice A n cc)).setCell ⟨w.heap.size, 1, none⟩ (.int .i64 f)) := by
  have hz := hS.2.1.size
  have hg1 : Gr g w1 ((w1.setCell ⟨g, 0, none⟩ (.slice A n cc)).setCell ⟨g, 1, none⟩ (.int .i64 f)) := Gr.only (((Only.refl g w1).setCell 0 none (.slice A n cc)).setCell 1 none (.int .i64 f))
  have hg2 : ∀ W : World, Gr w.heap.size W ((W.setCell ⟨w.heap.size, 0, none⟩ (.slice A n cc)).setCell ⟨w.heap.size, 1, none⟩ (.int .i64 f)) := fun W => Gr.only (((Only.refl w.heap.size W).setCell 0 none (.slice A n cc)).setCell 1 none (.int .i64 f))
  refine ⟨A, n, cc, zs, f, rfl, hn, h3, h4, ⟨hI.1, fun h0 => ?_⟩, hA, f0, f1, ((((hS.2.1.setCell (p := ⟨g, 0, none⟩) (Nat.le_of_lt hg) _).setCell (p := ⟨g, 1, none⟩) (Nat.le_of_lt hg) _).setCell (p := ⟨w.heap.size, 0, none⟩) (Nat.le_refl _) _).setCell (p := ⟨w.heap.size, 1, none⟩) (Nat.le_refl _) _), ?_⟩
  · obtain ⟨b, e, hbl, hcl⟩ := hI.2 h0
    have hne : b ≠ w.heap.size := by
      rcases hA with ⟨e2, _⟩ | ⟨g', e2, hg2⟩
      · rw [e] at e2; cases e2
      · rw [e] at e2; injection e2 with e2; injection e2 with e2; omega
    have hne2 : b ≠ g := fun e2 => by
      subst e2
      have := hcl 0 h0
      rw [hb.cell 0 _ rfl] at this
      injection this with this; cases this
    exact ⟨b, e, Nat.lt_of_lt_of_le hbl (Nat.le_trans hg1.size (hg2 _).size), fun i hi => ((hg2 _).cell b i (Nat.lt_of_lt_of_le hbl hg1.size) hne).trans ((hg1.cell b i hbl hne2).trans (hcl i hi))⟩
  · exact (hS.1.keep (((((Below.refl (B + 1) w1).setCell (p := ⟨g, 0, none⟩) (by show B + 1 ≤ g; omega) _).setCell (p := ⟨g, 1, none⟩) (by show B + 1 ≤ g; omega) _).setCell (p := ⟨w.heap.size, 0, none⟩) (by show B + 1 ≤ w.heap.size; omega) _).setCell (p := ⟨w.heap.size, 1, none⟩) (by show B + 1 ≤ w.heap.size; omega) _)).mono (by omega)
set_option maxRecDepth 100000 in
set_option maxHeartbeats 8000000 in
theorem decrules_any (B k : Nat) (w : World) (hs : Strm w B k) (hk : k ≤ 600000) :
    Calls Tryz.prog 4 #[.pointer (some ⟨B, 0, none⟩)] w (DecRet B k w) := by
  have hB := hs.lt
  have HS := Lib.hid (show decS B k w 0 (w.alloc (.cells #[.slice none 0 0, .int .i64 0] 27)).drew from
    ⟨hs.keep (((Below.refl _ _).alloc (by omega) _).drew), ((Gr.refl B w).alloc _).drew, Blk.new w _ _⟩)
  clear hs
  go_enter Tryz.func4, Tryz.ntmps4
  go_upto_region 1 with fail
  refine wp_region_inv 20 (decF B w.heap.size) (decP B w.heap.size) (decS B k w) (by kernel_rfl) (by kernel_rfl) (by kernel_rfl) (by kernel_rfl) (fun _ => undef) _ HS.out ?_ ?_
  · intro i hi vals w1 c o ho ha hS hc
    have HSS := Lib.hid hS
    have hgr := hS.2.1.size
    have hB1 := hS.1.lt
    have hHl := hS.2.2.lt
    have NEW := Lib.hid (fun (ob : Obj) => hS.new hB ob)
    have GA := Lib.hid (fun (ob : Obj) => (Gr.refl B w1).alloc ob)
    have SLC := Lib.hid (fun (v : Value) (ob : Obj) (h : SLs w.heap.size v w1) => h.gr hB (GA.out ob))
    clear hS
    rcases (by omega : i < 9 ∨ i = 9 ∨ i = 10 ∨ i = 11 ∨ i = 12 ∨ i = 13 ∨ i = 14 ∨ i = 15 ∨ i = 16 ∨ i = 17 ∨ i = 18 ∨ i = 19) with h | rfl | rfl | rfl | rfl | rfl | rfl | rfl | rfl | rfl | rfl | rfl
    · rcases (by omega : i = 0 ∨ i = 1 ∨ i = 2 ∨ i = 3 ∨ i = 4 ∨ i = 5 ∨ i = 6 ∨ i = 7 ∨ i = 8) with rfl | rfl | rfl | rfl | rfl | rfl | rfl | rfl | rfl
      all_goals
        clear ha ho
        refine wpOp_step rfl (fun K hK => ?_)
        unfold decF
        go_simp
        refine hK _ _ ⟨_, rfl, ⟨w1.heap.size, rfl, hHl, Blk.new _ _ _⟩, fun j u h => decP_gr hB (GA.out _) j u h, NEW.out _⟩
    · obtain rfl := Option.some.inj ho
      obtain ⟨g0, e0, k0, b0⟩ : LP w.heap.size [1] (vals 0) w1 := ha { on := 0, ground := Ground.data } (by simp) rfl
      obtain ⟨g1, e1, k1, b1⟩ : LP w.heap.size [1, 2] (vals 1) w1 := ha { on := 1, ground := Ground.data } (by simp) rfl
      obtain ⟨g2, e2, k2, b2⟩ : LP w.heap.size [3, 1] (vals 2) w1 := ha { on := 2, ground := Ground.data } (by simp) rfl
      obtain ⟨g3, e3, k3, b3⟩ : LP w.heap.size [4, 5, 1] (vals 3) w1 := ha { on := 3, ground := Ground.data } (by simp) rfl
      obtain ⟨g4, e4, k4, b4⟩ : LP w.heap.size [5] (vals 4) w1 := ha { on := 4, ground := Ground.data } (by simp) rfl
      obtain ⟨g5, e5, k5, b5⟩ : LP w.heap.size [2, 3] (vals 5) w1 := ha { on := 5, ground := Ground.data } (by simp) rfl
      obtain ⟨g6, e6, k6, b6⟩ : LP w.heap.size [1, 1] (vals 6) w1 := ha { on := 6, ground := Ground.data } (by simp) rfl
      obtain ⟨g7, e7, k7, b7⟩ : LP w.heap.size [0] (vals 7) w1 := ha { on := 7, ground := Ground.data } (by simp) rfl
      obtain ⟨g8, e8, k8, b8⟩ : LP w.heap.size [6] (vals 8) w1 := ha { on := 8, ground := Ground.data } (by simp) rfl
      clear ha ho
      refine wpOp_step rfl (fun K hK => ?_)
      unfold decF
      go_simp
      refine hK _ _ ⟨.slice (some ⟨w1.heap.size, 0, none⟩) 10 10, by simp [decF, upd, e0, e1, e2, e3, e4, e5, e6, e7, e8], ⟨w1.heap.size, rfl, hHl, by simp, fun r hr => ?_⟩, fun j u h => decP_gr hB (GA.out _) j u h, NEW.out _⟩
      rcases (by omega : r = 0 ∨ r = 1 ∨ r = 2 ∨ r = 3 ∨ r = 4 ∨ r = 5 ∨ r = 6 ∨ r = 7 ∨ r = 8 ∨ r = 9) with rfl | rfl | rfl | rfl | rfl | rfl | rfl | rfl | rfl | rfl
      · exact ⟨_, (Blk.new _ _ _).cell 0 _ rfl, SLC.out _ _ (LP.sls ⟨g0, rfl, k0, b0⟩ (by decide) (by decide))⟩
      · exact ⟨_, (Blk.new _ _ _).cell 1 _ rfl, SLC.out _ _ (LP.sls ⟨g1, rfl, k1, b1⟩ (by decide) (by decide))⟩
      · exact ⟨_, (Blk.new _ _ _).cell 2 _ rfl, SLC.out _ _ (LP.sls ⟨g2, rfl, k2, b2⟩ (by decide) (by decide))⟩
      · exact ⟨_, (Blk.new _ _ _).cell 3 _ rfl, SLC.out _ _ (LP.sls ⟨g3, rfl, k3, b3⟩ (by decide) (by decide))⟩
      · exact ⟨_, (Blk.new _ _ _).cell 4 _ rfl, SLC.out _ _ (LP.sls ⟨g4, rfl, k4, b4⟩ (by decide) (by decide))⟩
      · exact ⟨_, (Blk.new _ _ _).cell 5 _ rfl, SLC.out _ _ (LP.sls ⟨g5, rfl, k5, b5⟩ (by decide) (by decide))⟩
      · exact ⟨_, (Blk.new _ _ _).cell 6 _ rfl, ⟨none, 0, 0, [], rfl, rfl, by omega, by omega, ⟨by simp, fun h => absurd h (by simp)⟩, Or.inl ⟨rfl, rfl⟩⟩⟩
      · exact ⟨_, (Blk.new _ _ _).cell 7 _ rfl, SLC.out _ _ (LP.sls ⟨g6, rfl, k6, b6⟩ (by decide) (by decide))⟩
      · exact ⟨_, (Blk.new _ _ _).cell 8 _ rfl, SLC.out _ _ (LP.sls ⟨g7, rfl, k7, b7⟩ (by decide) (by decide))⟩
      · exact ⟨_, (Blk.new _ _ _).cell 9 _ rfl, SLC.out _ _ (LP.sls ⟨g8, rfl, k8, b8⟩ (by decide) (by decide))⟩
    · clear ha ho
      refine wpOp_step rfl (fun K hK => ?_)
      unfold decF
      go_simp
      refine hK _ _ ⟨_, rfl, rfl, fun j u h => h, HSS.out.same⟩
    · clear ha ho
      refine wpOp_step rfl (fun K hK => ?_)
      unfold decF
      go_simp
      refine hK _ _ ⟨_, rfl, ⟨w1.heap.size, rfl, hHl, Blk.new _ _ _⟩, fun j u h => decP_gr hB (GA.out _) j u h, NEW.out _⟩
    · obtain rfl := Option.some.inj ho
      have e10 : vals 10 = .pointer (some ⟨B, 0, none⟩) := ha { on := 10, ground := Ground.data } (by simp) rfl
      obtain ⟨g, e11, k11, b11⟩ : LP w.heap.size [0, 1, 1, 2, 3, 4, 5, 6, 7, 8, 9] (vals 11) w1 := ha { on := 11, ground := Ground.data } (by simp) rfl
      have HC := Lib.hid (pick_any B (k + c) g 11 [0, 1, 1, 2, 3, 4, 5, 6, 7, 8, 9] _ (0, 0) w1 HSS.out.1 (by omega) (by omega) b11 (by simp) (by simp))
      have E11 := Lib.hid e11
      have E10 := Lib.hid e10
      clear ha ho b11
      refine wpOp_step rfl (fun K hK => ?_)
      unfold decF
      go_simp
      go_at_call 7
      refine (HC.out).mono ?_
      rintro e w2 ⟨r, hr, rfl, ho, hs⟩
      have hr2 : 0 ≤ r ∧ r < 10 := by simp only [List.mem_cons, List.mem_nil_iff, or_false] at hr; omega
      obtain ⟨r, rfl⟩ := Int.eq_ofNat_of_zero_le hr2.1
      refine hK _ _ ⟨.int .i64 (r : Int), by simp [decF, upd, E10.out, E11.out], ⟨r, by omega, rfl⟩, fun j u h => decP_gr hB (Gr.only ho) j u h, HSS.out.gr hB (Gr.only ho) (hs.mono (by omega))⟩
    · obtain rfl := Option.some.inj ho
      obtain ⟨g, e9, k9, l9, c9⟩ : ∃ g, vals 9 = .slice (some ⟨g, 0, none⟩) 10 10 ∧ w.heap.size < g ∧ g < w1.heap.size ∧ ∀ r, r < 10 → Cs w.heap.size g r w1 := ha { on := 9, ground := Ground.data } (by simp) rfl
      obtain ⟨r, hr, e12⟩ : ∃ r : Nat, r < 10 ∧ vals 12 = .int .i64 (r : Int) := ha { on := 12, ground := Ground.data } (by simp) rfl
      have C9 := Lib.hid (c9 r hr)
      have r0 : (0 : Int) ≤ (r : Int) := by omega
      have r1 : (r : Int) < 10 := by omega
      clear ha ho c9
      refine wpOp_step rfl (fun K hK => ?_)
      unfold decF
      go_simp
      refine hK _ _ ⟨.pointer (some ⟨g, r, none⟩), by simp [decF, upd, e9, e12], ⟨g, r, rfl, k9, l9, C9.out⟩, fun j u h => h, HSS.out.same⟩
    · obtain rfl := Option.some.inj ho
      obtain ⟨g, r, e13, k13, l13, v, x13, s13⟩ : ∃ g r : Nat, vals 13 = .pointer (some ⟨g, r, none⟩) ∧ w.heap.size < g ∧ g < w1.heap.size ∧ Cs w.heap.size g r w1 := ha { on := 13, ground := Ground.data } (by simp) rfl
      have S13 := Lib.hid s13
      obtain ⟨A, n, cc, zs, rfl, h2, h3, h4, h5, h6⟩ := s13
      clear ha ho h2 h3 h4 h5 h6
      refine wpOp_step rfl (fun K hK => ?_)
      unfold decF
      go_simp
      refine hK _ _ ⟨.slice A n cc, by simp [decF, upd, e13], S13.out, fun j u h => h, HSS.out.same⟩
    · clear ha ho
      refine wpOp_step rfl (fun K hK => ?_)
      unfold decF
      go_simp
      refine hK _ _ ⟨_, rfl, rfl, fun j u h => h, HSS.out.same⟩
    · clear ha ho
      refine wpOp_step rfl (fun K hK => ?_)
      unfold decF
      go_simp
      refine hK _ _ ⟨_, rfl, ⟨w1.heap.size, rfl, hHl, Blk.new _ _ _⟩, fun j u h => decP_gr hB (GA.out _) j u h, NEW.out _⟩
    · obtain rfl := Option.some.inj ho
      have e15 : vals 15 = .pointer (some ⟨B, 0, none⟩) := ha { on := 15, ground := Ground.data } (by simp) rfl
      obtain ⟨g, e16, k16, b16⟩ : LP w.heap.size [0, 0, 50, 60, 100, (-1), 101] (vals 16) w1 := ha { on := 16, ground := Ground.data } (by simp) rfl
      have HC := Lib.hid (pick_any B (k + c) g 7 [0, 0, 50, 60, 100, (-1), 101] _ (0, 0) w1 HSS.out.1 (by omega) (by omega) b16 (by simp) (by simp))
      have E15 := Lib.hid e15
      have E16 := Lib.hid e16
      clear ha ho b16
      refine wpOp_step rfl (fun K hK => ?_)
      unfold decF
      go_simp
      go_at_call 7
      refine (HC.out).mono ?_
      rintro e w2 ⟨r, hr, rfl, ho, hs⟩
      have hr2 : -1 ≤ r ∧ r ≤ 101 := by simp only [List.mem_cons, List.mem_nil_iff, or_false] at hr; omega
      refine hK _ _ ⟨.int .i64 r, by simp [decF, upd, E15.out, E16.out], ⟨r, hr2.1, hr2.2, rfl⟩, fun j u h => decP_gr hB (Gr.only ho) j u h, HSS.out.gr hB (Gr.only ho) (hs.mono (by omega))⟩
    · obtain rfl := Option.some.inj ho
      have s14 : SLs w.heap.size (vals 14) w1 := ha { on := 14, ground := Ground.data } (by simp) rfl
      obtain ⟨f, f0, f1, e17⟩ : ∃ f : Int, -1 ≤ f ∧ f ≤ 101 ∧ vals 17 = .int .i64 f := ha { on := 17, ground := Ground.data } (by simp) rfl
      have S14 := Lib.hid s14
      obtain ⟨A, n, cc, zs, e14, h2, h3, h4, h5, h6⟩ := s14
      rw [e14] at S14
      clear ha ho h2 h3 h4 h5 h6
      refine wpOp_step rfl (fun K hK => ?_)
      unfold decF
      go_simp
      refine hK _ _ ⟨.agg #[.slice A n cc, .int .i64 f], by simp [decF, upd, e14, e17], ⟨_, f, S14.out, f0, f1, rfl⟩, fun j u h => h, HSS.out.same⟩
    · clear ha ho
      refine wpOp_step rfl (fun K hK => ?_)
      unfold decF
      go_simp
      refine hK _ _ ⟨_, rfl, ⟨w1.heap.size, rfl, hHl, Blk.new _ _ _⟩, fun j u h => decP_gr hB (GA.out _) j u h, NEW.out _⟩
  · intro vals w1 c hp hS hc
    obtain ⟨g, e19, k19, b19⟩ : ∃ g, vals 19 = .pointer (some ⟨g, 0, none⟩) ∧ w.heap.size < g ∧ Blk w1 g 27 #[.slice none 0 0, .int .i64 0] := hp 19 (by omega)
    obtain ⟨u, f, s18, f0, f1, e18⟩ : ∃ (u : Value) (f : Int), SLs w.heap.size u w1 ∧ -1 ≤ f ∧ f ≤ 101 ∧ vals 18 = .agg #[u, .int .i64 f] := hp 18 (by omega)
    obtain ⟨A, n, cc, zs, rfl, h2, h3, h4, h5, h6⟩ := s18
    have x0 := b19.cell 0 _ rfl
    have x1 := b19.cell 1 _ rfl
    have x2 := b19.frozen 0
    have x3 := b19.frozen 1
    have x4 := b19.lt
    have y0 := hS.2.2.cell 0 _ rfl
    have y1 := hS.2.2.cell 1 _ rfl
    have y2 := hS.2.2.frozen 0
    have y3 := hS.2.2.frozen 1
    have y4 := hS.2.2.lt
    have HSS := Lib.hid hS
    have H2 := Lib.hid h2
    have H5 := Lib.hid h5
    have H6 := Lib.hid h6
    have B19 := Lib.hid b19
    clear hp hS h2 h5 h6 b19
    refine wpOp_step rfl (fun K hK => ?_)
    unfold decF
    go_simp
    have FIN := Lib.hid (dec_fin (k := k) hB H2.out h3 h4 H5.out H6.out f0 f1 HSS.out hc k19 B19.out)
    have XB := Lib.hid (show Blk ((w1.setCell ⟨g, 0, none⟩ (.slice A n cc)).setCell ⟨g, 1, none⟩ (.int .i64 f)) g 27 #[.slice A n cc, .int .i64 f] from (B19.out.set_ 0 _).set_ 1 _)
    have YB := Lib.hid (show Blk ((w1.setCell ⟨g, 0, none⟩ (.slice A n cc)).setCell ⟨g, 1, none⟩ (.int .i64 f)) w.heap.size 27 #[.slice none 0 0, .int .i64 0] from (HSS.out.2.2.far (p := ⟨g, 0, none⟩) (Nat.ne_of_lt k19) _).far (p := ⟨g, 1, none⟩) (Nat.ne_of_lt k19) _)
    clear x0 x1 x2 x3 x4 y0 y1 y2 y3 y4 B19 HSS e18 e19
    generalize (w1.setCell ⟨g, 0, none⟩ (.slice A n cc)).setCell ⟨g, 1, none⟩ (.int .i64 f) = w2 at *
    have x0 := XB.out.cell 0 _ rfl
    have x1 := XB.out.cell 1 _ rfl
    have y0 := YB.out.cell 0 _ rfl
    have y1 := YB.out.cell 1 _ rfl
    have y2 := YB.out.frozen 0
    have y3 := YB.out.frozen 1
    have y4 := YB.out.lt
    have x4 := XB.out.lt
    refine hK _ _ ?_
    go_wp2_with fail
    exact bodyPost_ret (v := .agg #[.slice A n cc, .int .i64 f]) (by simp only [results, Tryz.results4]; go_simp) rfl FIN.out
end Go.Proofs.YtmihbfmlnfhgcadGreatDoor.Cal
