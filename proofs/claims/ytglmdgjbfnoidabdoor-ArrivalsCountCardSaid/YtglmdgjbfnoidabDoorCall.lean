/-
  THE CONTRACT OF THE MAKER OF CALLS: whatever the numbers are, three numbers and at most four reasons.
-/
import Derived.Test.YtglmdgjbfnoidabDoorArrival
import Derived.Test.YtglmdgjbfnoidabDoorRefCalls
import Derived.Deep.RegionLaw
import Derived.Deep.AppendLies
import Derived.Deep.DrawnRows
import Derived.OwnWalk
import Derived.Deep.CutBlock
import Derived.Deep.DeepCutAuto
namespace Go.Proofs.YtglmdgjbfnoidabDoor.Stm
open Go.ChangeShapes Go.WideShapes Go.ChangeAt Go.RowKit Key
set_option linter.unusedVariables false
attribute [local go_sem ↓] Go.wp_at_zero Go.wp_at_succ

/-- The cells of reasons. -/
def flat (rs : List (ByteArray × Int)) : List Value := rs.flatMap fun x => [.string x.1, .int .i64 x.2]
theorem add_zero' (b i : Nat) : (⟨b, 0, none⟩ : Addr).add i = ⟨b, i, none⟩ := by
  unfold Addr.add; split
  · rename_i h; subst h; rfl
  · simp
theorem flat_snoc (rs : List (ByteArray × Int)) (x : ByteArray × Int) : flat (rs ++ [x]) = flat rs ++ [.string x.1, .int .i64 x.2] := by simp [flat]
theorem flat_get : ∀ (rs : List (ByteArray × Int)) (i : Nat) (h : i < rs.length), (flat rs)[i * 2]? = some (.string rs[i].1) ∧ (flat rs)[i * 2 + 1]? = some (.int .i64 rs[i].2)
  | [], i, h => by simp at h
  | x :: t, 0, _ => ⟨rfl, rfl⟩
  | x :: t, i + 1, h => by
    have := flat_get t i (by simpa using h)
    have e1 : (i + 1) * 2 = i * 2 + 1 + 1 := by omega
    rw [e1]
    simpa [flat] using this
theorem flat_length (rs : List (ByteArray × Int)) : (flat rs).length = rs.length * 2 := by
  induction rs with
  | nil => rfl
  | cons x t ih => simp [flat] at ih ⊢; omega

/-- The state of the maker of calls: the call's block, its reasons, and what else stands. -/
def CJ (w : World) (B K Bc : Nat) (m : Nat) (wx : World) : Prop := ∃ (o a f : Int) (A : Option Addr) (n cap : Nat) (rs : List (ByteArray × Int)),
  rs.length = n ∧ n ≤ m ∧ (∀ x ∈ rs, x.1.size ≤ 100) ∧ Blk wx Bc 28 #[.int .i64 o, .int .i64 a, .int .i64 f, .slice A n cap] ∧ wx.ownsRow (Bc + 1) 48 2 (.slice A n cap) n (flat rs) ∧
  Blk wx w.heap.size 28 #[.int .i64 0, .int .i64 0, .int .i64 0, .slice none 0 0] ∧ Gr B w wx ∧ Strm wx B K

theorem infoR : (Tryd.prog.info? 48).map (fun i => (i.zero, i.size, i.bytes)) = some (some (.agg #[.string ⟨#[]⟩, .int .i64 0]), 2, 24) := by kernel_rfl
theorem own_ne {w : World} {C E S n : Nat} {v : Value} {xs : List Value} (h : w.ownsRow (C + 1) E S v n xs) : some C ≠ v.ownBlock := by
  intro e; have := h.lt C e.symm; omega
theorem own_only {w w' : World} {B C E S n : Nat} {v : Value} {xs : List Value} (h : w.ownsRow (C + 1) E S v n xs) (ho : Only B w w') (hB : B ≤ C) : w'.ownsRow (C + 1) E S v n xs :=
  h.kept (Gr.only ho) (by
    rcases hb : v.ownBlock with _ | g
    · exact Or.inl rfl
    · refine Or.inr ?_; have := h.lt g hb; intro e; injection e; omega)
theorem blk_grown {w w' : World} {B : Nat} {t : TypeId} {cs : Array Value} {row : Option Nat} (h : Blk w B t cs) (hb : w.grownBy w' row) (hg : some B ≠ row) : Blk w' B t cs := (hb.block B h.lt hg).trans h
theorem new_drew {w : World} {cs : Array Value} {t : TypeId} {n : Nat} (h : n = w.heap.size) : (w.alloc (.cells cs t)).drew.heap[n]? = some (.cells cs t (0, 0)) := new_at h
theorem own_blk_ne {w : World} {base e S n g : Nat} {v : Value} {xs : List Value} {t : TypeId} {cs : Array Value} (h : w.ownsRow base e S v n xs) (hg : Blk w g t cs) (hne : e ≠ t) : some g ≠ v.ownBlock := by
  rcases h.2 with ⟨rfl, _⟩ | ⟨g', cap, cur, rfl, _, hh, _⟩
  · simp [Value.ownBlock]
  · intro he
    have e1 : g = g' := by simpa [Value.ownBlock] using he
    subst e1
    unfold Blk at hg
    rw [hh] at hg
    injection hg with hg
    injection hg with _ ht
    exact hne ht
theorem blk_drew {w : World} {B : Nat} {t : TypeId} {cs : Array Value} (h : Blk w B t cs) : Blk w.drew B t cs := h
theorem own_drew {w : World} {base E S n : Nat} {v : Value} {xs : List Value} (h : w.ownsRow base E S v n xs) : w.drew.ownsRow base E S v n xs := h

theorem grown_below {w w' : World} {row : Option Nat} {C : Nat} (h : w.grownBy w' row) (hr : ∀ g, row = some g → C ≤ g) (hC : C ≤ w.heap.size) : Below C w w' :=
  ⟨h.os, h.tape, h.output, h.size, fun i hi => h.block i (by omega) (fun e => by have := hr i e.symm; omega)⟩
theorem grown_gr {B : Nat} {w0 w w' : World} {row : Option Nat} (g : Gr B w0 w) (h : w.grownBy w' row) (hr : ∀ g, row = some g → w0.heap.size ≤ g) : Gr B w0 w' :=
  ⟨h.os.trans g.os, h.tape.trans g.tape, h.output.trans g.output, Nat.le_trans g.size h.size, fun i hi hne =>
    (h.block i (Nat.lt_of_lt_of_le hi g.size) (fun e => by have := hr i e.symm; omega)).trans (g.block i hi hne)⟩

theorem push_parts {w w6 w7 : World} {B K Bc : Nat} {o a f : Int} {A : Option Addr} {n cap : Nat} {rs : List (ByteArray × Int)} {x : ByteArray} {u : Int} {gg cap' : Nat} {X : Obj}
    (hB : B < w.heap.size) (hBc : w.heap.size < Bc)
    (R6 : Blk w6 w.heap.size 28 #[.int .i64 0, .int .i64 0, .int .i64 0, .slice none 0 0]) (C6 : Blk w6 Bc 28 #[.int .i64 o, .int .i64 a, .int .i64 f, .slice A n cap])
    (O6 : w6.ownsRow (Bc + 1) 48 2 (.slice A n cap) n (flat rs)) (G6 : Gr B w w6) (HS6 : Strm w6 B K)
    (hg : (w6.alloc X).grownBy w7 (Value.slice A n cap).ownBlock) (hown : w7.ownsRow (Bc + 1) 48 2 (.slice (some ⟨gg, 0, none⟩) (n + 1) cap') (n + 1) (flat rs ++ [.string x, .int .i64 u])) :
    Blk w7 Bc 28 #[.int .i64 o, .int .i64 a, .int .i64 f, .slice A n cap] ∧ Blk w7 w.heap.size 28 #[.int .i64 0, .int .i64 0, .int .i64 0, .slice none 0 0] ∧
    (w7.setCell ⟨Bc, 3, none⟩ (.slice (some ⟨gg, 0, none⟩) (n + 1) cap')).ownsRow (Bc + 1) 48 2 (.slice (some ⟨gg, 0, none⟩) (n + 1) cap') (n + 1) (flat (rs ++ [(x, u)])) ∧
    Gr B w (w7.setCell ⟨Bc, 3, none⟩ (.slice (some ⟨gg, 0, none⟩) (n + 1) cap')) ∧ Strm (w7.setCell ⟨Bc, 3, none⟩ (.slice (some ⟨gg, 0, none⟩) (n + 1) cap')) B K := by
  have hrow : ∀ g, (Value.slice A n cap).ownBlock = some g → Bc + 1 ≤ g := fun g hgg => (O6.lt g hgg).1
  have hC6 := C6.lt
  have c7 : Blk w7 Bc 28 #[.int .i64 o, .int .i64 a, .int .i64 f, .slice A n cap] := blk_grown (C6.alloc X) hg (fun e => by have := hrow Bc e.symm; omega)
  have r7 : Blk w7 w.heap.size 28 #[.int .i64 0, .int .i64 0, .int .i64 0, .slice none 0 0] := blk_grown (R6.alloc X) hg (fun e => by have := hrow _ e.symm; omega)
  refine ⟨c7, r7, ?_, (grown_gr (G6.alloc X) hg (fun g e => by have := hrow g e; omega)).setCell (by simp; omega) _, ?_⟩
  · rw [flat_snoc]
    exact own_only hown ((Only.refl Bc w7).setCell 3 none _) (Nat.le_refl _)
  · refine HS6.keep ((((Below.refl _ _).alloc (by omega) X).trans (grown_below hg (fun g e => by have := hrow g e; omega) (by simp; omega))).setCell (by simp; omega) _)
theorem push_sizes {rs : List (ByteArray × Int)} {x : ByteArray} {u : Int} (hsz : ∀ x ∈ rs, x.1.size ≤ 100) (hx : x.size ≤ 100) : ∀ y ∈ rs ++ [(x, u)], y.1.size ≤ 100 := by
  intro y hy
  rcases List.mem_append.1 hy with h | h
  · exact hsz y h
  · simp at h; subst h; exact hx
theorem push_len {rs : List (ByteArray × Int)} {y : ByteArray × Int} {n : Nat} (L : rs.length = n) : (rs ++ [y]).length = n + 1 := by simp [L]
theorem cj_push {w w6 w7 : World} {B K Bc m : Nat} {o a f : Int} {A : Option Addr} {n cap : Nat} {rs : List (ByteArray × Int)} {x : ByteArray} {u : Int} {gg cap' : Nat} {X : Obj}
    (hB : B < w.heap.size) (hBc : w.heap.size < Bc) (L : rs.length = n) (hn : n ≤ m) (hsz : ∀ x ∈ rs, x.1.size ≤ 100) (hx : x.size ≤ 100)
    (R6 : Blk w6 w.heap.size 28 #[.int .i64 0, .int .i64 0, .int .i64 0, .slice none 0 0]) (C6 : Blk w6 Bc 28 #[.int .i64 o, .int .i64 a, .int .i64 f, .slice A n cap])
    (O6 : w6.ownsRow (Bc + 1) 48 2 (.slice A n cap) n (flat rs)) (G6 : Gr B w w6) (HS6 : Strm w6 B K)
    (hg : (w6.alloc X).grownBy w7 (Value.slice A n cap).ownBlock) (hown : w7.ownsRow (Bc + 1) 48 2 (.slice (some ⟨gg, 0, none⟩) (n + 1) cap') (n + 1) (flat rs ++ [.string x, .int .i64 u])) :
    CJ w B K Bc (m + 1) (w7.setCell ⟨Bc, 3, none⟩ (.slice (some ⟨gg, 0, none⟩) (n + 1) cap')) := by
  obtain ⟨c7, r7, o7, g7, s7⟩ := push_parts hB hBc R6 C6 O6 G6 HS6 hg hown
  exact ⟨o, a, f, some ⟨gg, 0, none⟩, n + 1, cap', rs ++ [(x, u)], push_len L, by omega, push_sizes hsz hx, c7.set_ 3 _, o7, r7.far (by simp; omega) _, g7, s7⟩
theorem own_below {w w' : World} {base E S n : Nat} {v : Value} {xs : List Value} (h : w.ownsRow base E S v n xs) (hb : Below w.heap.size w w') : w'.ownsRow base E S v n xs :=
  h.kept (row := none) ⟨hb.os, hb.tape, hb.output, hb.size, fun k hk _ => hb.block k hk⟩ (by
    rcases hh : v.ownBlock with _ | g
    · exact Or.inl rfl
    · exact Or.inr (by simp))
theorem new_old {w : World} {o : Obj} {n : Nat} {v : Obj} (h : w.heap[n]? = some v) : (w.alloc o).heap[n]? = some v := (Below.heap_alloc w o n (lt_of_block h)).trans h
theorem drew_heap {w : World} {n : Nat} {v : Obj} (h : w.heap[n]? = some v) : w.drew.heap[n]? = some v := h
theorem pre_of {B C : Nat} {w W w' : World} (ho : Only B W w') (h : Below C w W) : Below C w W := h
theorem own_cap {w : World} {base E S n cap : Nat} {A : Option Addr} {m : Nat} {xs : List Value} (h : w.ownsRow base E S (.slice A n cap) m xs) : n ≤ cap := by
  rcases h.2 with ⟨e, _⟩ | ⟨g, cap', cur, e, _, _, hc, _⟩
  · injection e with _ e1 e2; omega
  · injection e with _ e1 e2; omega
theorem own_rsn {w : World} {base n cap : Nat} {A : Option Addr} {rs : List (ByteArray × Int)} (h : w.ownsRow base 48 2 (.slice A n cap) n (flat rs)) (L : rs.length = n) (hsz : ∀ x ∈ rs, x.1.size ≤ 100) : Rsn w A rs := by
  refine ⟨fun x hx => by have := hsz x hx; omega, fun h0 => ?_⟩
  obtain ⟨g, cap', hv, _, hlt⟩ := h.form (by omega)
  have hA : A = some ⟨g, 0, none⟩ := by injection hv
  subst hA
  refine ⟨g, rfl, hlt, fun i hi => ?_⟩
  have hc := h.cells (g := g) rfl
  have e1 := hc (i * 2) _ (flat_get rs i hi).1
  have e2 := hc (i * 2 + 1) _ (flat_get rs i hi).2
  rw [add_zero'] at e1 e2
  exact ⟨e1, e2⟩

/-- What the maker's last steps leave. -/
theorem call_fin {w wx : World} {B K Bc n cap : Nat} {A : Option Addr} {rs : List (ByteArray × Int)} (hB : B < w.heap.size) (hBc : w.heap.size < Bc) (L : rs.length = n) (hsz : ∀ x ∈ rs, x.1.size ≤ 100)
    (o1 : wx.ownsRow (Bc + 1) 48 2 (.slice A n cap) n (flat rs)) (g1 : Gr B w wx) (hs1 : Strm wx B K) (v0 v1 v2 v3 : Value) :
    n ≤ cap ∧ Rsn ((((wx.setCell ⟨w.heap.size, 0, none⟩ v0).setCell ⟨w.heap.size, 1, none⟩ v1).setCell ⟨w.heap.size, 2, none⟩ v2).setCell ⟨w.heap.size, 3, none⟩ v3) A rs ∧
    Gr B w ((((wx.setCell ⟨w.heap.size, 0, none⟩ v0).setCell ⟨w.heap.size, 1, none⟩ v1).setCell ⟨w.heap.size, 2, none⟩ v2).setCell ⟨w.heap.size, 3, none⟩ v3) ∧
    Strm ((((wx.setCell ⟨w.heap.size, 0, none⟩ v0).setCell ⟨w.heap.size, 1, none⟩ v1).setCell ⟨w.heap.size, 2, none⟩ v2).setCell ⟨w.heap.size, 3, none⟩ v3) B K := by
  have ho : Only w.heap.size wx ((((wx.setCell ⟨w.heap.size, 0, none⟩ v0).setCell ⟨w.heap.size, 1, none⟩ v1).setCell ⟨w.heap.size, 2, none⟩ v2).setCell ⟨w.heap.size, 3, none⟩ v3) :=
    ((((Only.refl _ wx).setCell 0 none v0).setCell 1 none v1).setCell 2 none v2).setCell 3 none v3
  have o2 := own_only o1 ho (by omega)
  refine ⟨own_cap o1, own_rsn o2 L hsz, ?_, hs1.keep (ho.below (by omega))⟩
  have hn := Nat.le_refl w.heap.size
  exact (((g1.setCell (p := ⟨w.heap.size, 0, none⟩) hn v0).setCell (p := ⟨w.heap.size, 1, none⟩) hn v1).setCell (p := ⟨w.heap.size, 2, none⟩) hn v2).setCell (p := ⟨w.heap.size, 3, none⟩) hn v3

theorem cj_more {w : World} {B K K' Bc m : Nat} {wx : World} (h : CJ w B K Bc m wx) (hk : K ≤ K') : CJ w B K' Bc m wx := by
  obtain ⟨o, a, f, A, n, cap, rs, h1, h2, h3, h4, h5, h6, h7, h8⟩ := h
  exact ⟨o, a, f, A, n, cap, rs, h1, h2, h3, h4, h5, h6, h7, h8.mono hk⟩
/-- What stands while the call's last reason is made. -/
def MS (w : World) (B Bc K : Nat) (o a f : Int) (A : Option Addr) (n cap : Nat) (rs : List (ByteArray × Int)) (v : World) : Prop :=
  B < w.heap.size ∧ w.heap.size < Bc ∧ rs.length = n ∧ n ≤ 3 ∧ (∀ x ∈ rs, x.1.size ≤ 100) ∧ Blk v w.heap.size 28 #[.int .i64 0, .int .i64 0, .int .i64 0, .slice none 0 0] ∧ Blk v Bc 28 #[.int .i64 o, .int .i64 a, .int .i64 f, .slice A n cap] ∧
  v.ownsRow (Bc + 1) 48 2 (.slice A n cap) n (flat rs) ∧ Gr B w v ∧ Strm v B K ∧ K ≤ 2000000
section
variable {w : World} {B Bc K : Nat} {o a f : Int} {A : Option Addr} {n cap : Nat} {rs : List (ByteArray × Int)} {v v' : World}
theorem MS.below (h : MS w B Bc K o a f A n cap rs v) (hb : Below v.heap.size v v') : MS w B Bc K o a f A n cap rs v' := by
  obtain ⟨h1, h2, h3, h4, h5, h6, h7, h8, h9, h10, h11⟩ := h
  exact ⟨h1, h2, h3, h4, h5, h6.below hb h6.lt, h7.below hb h7.lt, own_below h8 hb, h9.trans (Gr.below hb), h10.keep (hb.mono h10.lt), h11⟩
theorem MS.only (h : MS w B Bc K o a f A n cap rs v) (ho : Only B v v') (hs : Strm v' B (K + 1)) (hK : K + 1 ≤ 2000000) : MS w B Bc (K + 1) o a f A n cap rs v' := by
  obtain ⟨h1, h2, h3, h4, h5, h6, h7, h8, h9, h10, h11⟩ := h
  exact ⟨h1, h2, h3, h4, h5, h6.only ho (by omega), h7.only ho (by omega), own_only h8 ho (by omega), h9.trans (Gr.only ho), hs, hK⟩
theorem MS.cell3 (h : MS w B Bc K o a f A n cap rs v) : v.cell? ⟨Bc, 3, none⟩ = some (.slice A n cap) := h.2.2.2.2.2.2.1.cell 3 _ rfl
theorem MS.blt (h : MS w B Bc K o a f A n cap rs v) : Bc < v.heap.size := h.2.2.2.2.2.2.1.lt
theorem ms_name (zs : List ByteArray) (hz : zs.length = 3) (hm : ∀ s ∈ zs, s.size ≤ 100) {W : World} {b : Nat} (h : MS w B Bc K o a f A n cap rs W) (hK : K + 1 ≤ 2000000) (hb : W.heap[b]? = some (.cells (zs.map Value.string).toArray 9 (0, 0))) (hne : b ≠ B) :
    Calls Tryd.prog 20 #[.pointer (some ⟨B, 0, none⟩), .slice (some ⟨b, 0, none⟩) 3 3] W fun e w' => ∃ x : ByteArray, x.size ≤ 100 ∧ e = .returned (.string x) ∧ MS w B Bc (K + 1) o a f A n cap rs w' ∧ Only B W w' := by
  have hc := h06_le 100 B K b 3 zs 9 (0, 0) W h.2.2.2.2.2.2.2.2.2.1 (by omega) hne hb (by omega) (by omega) hm
  rw [hz] at hc
  exact hc.mono fun e w' ⟨x, hx, he, ho, hs⟩ => ⟨x, hx, he, h.only ho hs hK, ho⟩
theorem ms_pick (zs : List Int) (hz : zs.length = 3) {W : World} {b : Nat} (h : MS w B Bc K o a f A n cap rs W) (hK : K + 1 ≤ 2000000) (hb : W.heap[b]? = some (.cells (zs.map (Value.int .i64)).toArray 3 (0, 0))) (hne : b ≠ B) :
    Calls Tryd.prog 17 #[.pointer (some ⟨B, 0, none⟩), .slice (some ⟨b, 0, none⟩) 3 3] W fun e w' => ∃ u : Int, e = .returned (.int .i64 u) ∧ MS w B Bc (K + 1) o a f A n cap rs w' := by
  have hc := pick_le B K b 3 zs 3 (0, 0) W h.2.2.2.2.2.2.2.2.2.1 (by omega) hne hb (by omega) (by omega)
  rw [hz] at hc
  exact hc.mono fun e w' ⟨u, he, ho, hs⟩ => ⟨u, he, h.only ho hs hK⟩
/-- The append, as one step of a region that draws. -/
theorem step_push {ops : Array Oper} {oo : Oper} {ac : Act} {KK : Act → World → Prop} {Q : Exit → Act → World → Prop} {E : Prop} {w8 : World} {x : ByteArray} {u : Int} (s y : Operand) (hgd : oo.guard = none)
    (ho : oo.op = .call { callee := .builtin .append, args := #[s, y], argTypes := #[26, 26] }) (hs : ac.eval s = .slice A n cap) (hy : ac.eval y = .slice (some ⟨w8.heap.size, 0, none⟩) 1 1)
    (h : MS w B Bc K o a f A n cap rs w8) (hx : x.size ≤ 100)
    (hn : ∀ gg cap' w9, CJ w B K Bc 4 (w9.setCell ⟨Bc, 3, none⟩ (.slice (some ⟨gg, 0, none⟩) (n + 1) cap')) → w9.cell? ⟨Bc, 3, none⟩ = some (.slice A n cap) → w9.frozen? ⟨Bc, 3, none⟩ = false → KK (ac.put oo.dst (.slice (some ⟨gg, 0, none⟩) (n + 1) cap')) w9) :
    if Region.wanted oo (yielded ops ac.tmps) = true then Oper.wp Tryd.prog oo ac (w8.alloc (.cells #[.string x, .int .i64 u] 48)) KK Q else E := by
  obtain ⟨i0, hi0, hz0, hz1, hz2⟩ := info_parts infoR
  obtain ⟨h1, h2, h3, h4, h5, h6, h7, h8, h9, h10, h11⟩ := h
  have hlt := h7.lt
  refine step_append_lies _ hgd s y _ ho (Bc + 1) 48 i0 _ 2 24 Tryd.underlying26 hi0 hz0 hz1 hz2 rfl (by omega) (.slice A n cap) n (flat rs) hs (h8.alloc _)
    ⟨w8.heap.size, 0, none⟩ 1 1 [.string x, .int .i64 u] hy rfl (World.news_of_block (cs := #[.string x, .int .i64 u]) (t := 48) (fr := (0, 0)) (heap_alloc_new w8 _)) (by simp [Value.oneCell'])
    (by omega) (by unfold maxLen; omega) (by omega) (by simp; omega) (w8.heap.size + 1) (by simp) ?_
  intro gg cap' w9 hown hgrow hat hgl
  have hc := blk_grown (h7.alloc (.cells #[.string x, .int .i64 u] 48)) hgrow (own_ne h8)
  exact hn gg cap' w9 (cj_push h1 h2 h3 h4 h5 hx h6 h7 h8 h9 h10 hgrow hown) (hc.cell 3 _ rfl) (hc.frozen 3)
end

set_option maxRecDepth 1000000 in
set_option maxHeartbeats 24000000 in
theorem call_any (B k : Nat) (w : World) (hs : Strm w B k) (hk : k ≤ 1000000) :
    Calls Tryd.prog 4 #[.pointer (some ⟨B, 0, none⟩)] w fun e w' =>
      ∃ (o a f : Int) (A : Option Addr) (n cap : Nat) (rs : List (ByteArray × Int)), rs.length = n ∧ n ≤ 4 ∧ n ≤ cap ∧ Rsn w' A rs ∧ e = .returned (.agg #[.int .i64 o, .int .i64 a, .int .i64 f, .slice A n cap]) ∧ Gr B w w' ∧ Strm w' B (k + 20) := by
  have hB := hs.lt
  have HS := Lib.hid hs
  have G := Lib.hid ((Gr.refl B w).alloc (.cells #[.int .i64 0, .int .i64 0, .int .i64 0, .slice none 0 0] 28))
  have R := Lib.hid (Blk.new w 28 #[.int .i64 0, .int .i64 0, .int .i64 0, .slice none 0 0])
  clear hs
  go_enter Tryd.func4, Tryd.ntmps4
  go_wp2_with fail
  refine (pick_le B k _ _ [0, 10] _ _ _ (HS.out.keep (by go_grown)) (by omega) (by omega) (new_at (by simp)) (by simp) (by simp)).mono ?_
  rintro e w1 ⟨o, rfl, ho, hs⟩
  replace R := Lib.hid ((R.out.alloc _).only ho (by omega))
  replace G := Lib.hid ((G.out.alloc _).trans (Gr.only ho))
  replace HS := Lib.hid hs
  have hB1 := hs.lt
  have hW1 := R.out.lt
  clear ho hs
  go_wp2_with fail
  refine (pick_le B (k + 1) _ _ [50, 100] _ _ _ (HS.out.keep (by go_grown)) (by omega) (by omega) (new_at (by simp)) (by simp) (by simp)).mono ?_
  rintro e w2 ⟨a, rfl, ho, hs⟩
  replace R := Lib.hid ((R.out.alloc _).only ho (by omega))
  replace G := Lib.hid ((G.out.alloc _).trans (Gr.only ho))
  replace HS := Lib.hid hs
  have hB2 := hs.lt
  have hW2 := R.out.lt
  clear ho hs hB1 hW1
  go_wp2_with fail
  refine (pick_le B (k + 1 + 1) _ _ [100, 200, 5761439] _ _ _ (HS.out.keep (by go_grown)) (by omega) (by omega) (new_at (by simp)) (by simp) (by simp)).mono ?_
  rintro e w3 ⟨f, rfl, ho, hs⟩
  replace R := Lib.hid ((R.out.alloc _).only ho (by omega))
  replace G := Lib.hid ((G.out.alloc _).trans (Gr.only ho))
  have hB3 := hs.lt
  have hW3 := R.out.lt
  replace HS := Lib.hid hs
  clear ho hs hB2 hW2
  go_wp2_with fail
  have C := Lib.hid ((Blk.new w3 28 #[.int .i64 o, .int .i64 a, .int .i64 f, .slice none 0 0]).alloc (.cells #[.string ⟨#[105, 108, 108]⟩, .string ⟨#[112, 111, 119, 101, 114]⟩, .string ⟨#[119, 97, 114]⟩] 9))
  go_loopw [18] (fun i wr => ∃ j : Nat, j ≤ 3 ∧ i = .int .i64 j ∧ Hid (CJ w B (k + 3 + 2 * j) w3.heap.size j wr) ∧ Hid (Blk wr (w3.heap.size + 1) 9 #[.string ⟨#[105, 108, 108]⟩, .string ⟨#[112, 111, 119, 101, 114]⟩, .string ⟨#[119, 97, 114]⟩])) (fun i _ => 3 - (intOf i).toNat)
  case atStart =>
    refine ⟨0, by omega, rfl, Lib.hid ⟨o, a, f, none, 0, 0, [], rfl, by omega, by simp, C.out, World.ownsRow_nil _ _ _ _, (R.out.alloc _).alloc _, (G.out.alloc _).alloc _, (HS.out.keep (by go_grown)).mono (by omega)⟩, Lib.hid (new_at (by simp))⟩
  case round =>
    clear C R G HS
    obtain ⟨j, hj, rfl, HJ, HZ⟩ := hrel
    obtain ⟨o, a, f, A, n, cap, rs, L, hn, hsz, c1, o1, r1, g1, hs1⟩ := HJ.out
    have C := Lib.hid c1; have O := Lib.hid o1; have R := Lib.hid r1; have G := Lib.hid g1; have HL := Lib.hid L; have HSZ := Lib.hid hsz
    clear c1 o1 r1 g1 L hsz HJ
    by_cases hlt : j < 3
    · obtain ⟨zs, hzs⟩ : ∃ zs : List ByteArray, zs = [⟨#[105, 108, 108]⟩, ⟨#[112, 111, 119, 101, 114]⟩, ⟨#[119, 97, 114]⟩] := ⟨_, rfl⟩
      have hzl : zs.length = 3 := by rw [hzs]; rfl
      have hzc : wr.cell? ⟨w3.heap.size + 1, j, none⟩ = some (.string (zs[j]'(by omega))) := by
        subst hzs; exact str_cell (zs := [⟨#[105, 108, 108]⟩, ⟨#[112, 111, 119, 101, 114]⟩, ⟨#[119, 97, 114]⟩]) HZ.out j hlt
      have hxs : (zs[j]'(by omega)).size ≤ 100 := by subst hzs; exact le_all (zs := [⟨#[105, 108, 108]⟩, ⟨#[112, 111, 119, 101, 114]⟩, ⟨#[119, 97, 114]⟩]) (m := 100) (by decide +kernel) _ (List.getElem_mem _)
      generalize zs[j]'(by omega) = x at hzc hxs
      clear hzs hzl
      go_wp2_with fail
      refine (flip_any B (k + 3 + 2 * j) 2 _ hs1 (by omega) (by omega) (by omega)).mono ?_
      rintro e w5 ⟨fl, rfl, ho, hs⟩
      replace R := Lib.hid (R.out.only ho (by omega))
      replace G := Lib.hid (G.out.trans (Gr.only ho))
      replace C := Lib.hid (C.out.only ho (by omega))
      replace HZ := Lib.hid (HZ.out.only ho (by omega))
      replace O := Lib.hid (O.out.kept (Gr.only ho) (by
        rcases hb : (Value.slice A n cap).ownBlock with _ | g
        · exact Or.inl rfl
        · refine Or.inr ?_; have := O.out.lt g hb; intro e; injection e; omega))
      have hB5 := hs.lt
      have hW5 := R.out.lt
      have hC5 := C.out.lt
      have HS := Lib.hid hs
      clear ho hs hs1 hzc
      cases fl
      · go_wp2_with fail
        go_roundw
        case rel => exact ⟨j + 1, by omega, by go_num, Lib.hid ⟨o, a, f, A, n, cap, rs, HL.out, by omega, HSZ.out, C.out, O.out, R.out, G.out, HS.out.mono (by omega)⟩, HZ⟩
        case measure => simp [intOf]; omega
      · go_wp2_with fail
        have x3 := C.out.cell 3 _ rfl
        have nA := own_ne O.out
        have hnl := HL.out
        have HNA := Lib.hid nA
        obtain ⟨i0, hi0, hz0, hz1, hz2⟩ := info_parts infoR
        have HI := Lib.hid hi0
        clear nA hnl hi0
        go_region_law ((first
          | (go_simp; go_at_call 17
             refine (pick_le B (k + 3 + 2 * j + 1) _ _ [1, 50, 1000, 5761440] _ _ _ (HS.out.keep (((Below.refl _ _).alloc (by omega) _).drew)) (by omega) (by omega) (new_drew rfl) (by simp) (by simp)).mono ?_
             rintro e w6 ⟨u, rfl, ho, hs⟩
             have R6 := Lib.hid ((blk_drew (R.out.alloc _)).only ho (by omega))
             have C6 := Lib.hid ((blk_drew (C.out.alloc _)).only ho (by omega))
             have Z6 := Lib.hid ((blk_drew (HZ.out.alloc _)).only ho (by omega))
             have G6 := Lib.hid ((G.out.alloc _).drew.trans (Gr.only ho))
             have O6 := Lib.hid (own_only (own_drew (O.out.alloc _)) ho (by omega))
             have HS6 := Lib.hid hs
             have x36 := C6.out.cell 3 _ rfl
             have hC6 := C6.out.lt
             have hB6 := hs.lt
             clear ho hs)
          | (refine step_append_lies _ (by rfl) _ _ _ (by rfl) (w3.heap.size + 1) 48 i0 _ 2 24 Tryd.underlying26 HI.out hz0 hz1 hz2 rfl (by omega) (.slice A n cap) n (flat rs) (by rfl) (O6.out.alloc _)
               ⟨w6.heap.size, 0, none⟩ 1 1 [.string x, .int .i64 u] (by rfl) (by rfl) (World.news_of_block (cs := #[.string x, .int .i64 u]) (t := 48) (fr := (0, 0)) (heap_alloc_new w6 _)) (by simp [Value.oneCell'])
               (by omega) (by unfold maxLen; omega) (by omega) (by simp; omega) (w6.heap.size + 1) (by simp) ?_
             intro gg cap' w7 hown hgrow hat hgl
             have C7 := Lib.hid (blk_grown (C6.out.alloc _) hgrow HNA.out)
             have x37 := C7.out.cell 3 _ rfl
             have y37 := C7.out.frozen 3
             have HOWN := Lib.hid hown
             have HGROW := Lib.hid hgrow
             clear hown hgrow hat)))
        all_goals
          go_wp2_with fail
          go_roundw
          case rel => exact ⟨j + 1, by omega, by go_num, Lib.hid (cj_push hB hW3 HL.out hn HSZ.out hxs R6.out C6.out O6.out G6.out (HS6.out.mono (by omega)) HGROW.out HOWN.out), Lib.hid ((blk_grown (Z6.out.alloc _) HGROW.out (own_blk_ne O6.out Z6.out (by decide))).far (by simp) _)⟩
          case measure => simp [intOf]; omega
    · obtain rfl : j = 3 := by omega
      clear HZ
      go_wp2_with fail
      refine (flip_any B (k + 3 + 2 * 3) 12 _ hs1 (by omega) (by omega) (by omega)).mono ?_
      rintro e w5 ⟨fl, rfl, ho, hs⟩
      replace R := Lib.hid (R.out.only ho (by omega))
      replace G := Lib.hid (G.out.trans (Gr.only ho))
      replace C := Lib.hid (C.out.only ho (by omega))
      replace O := Lib.hid (own_only O.out ho (by omega))
      have hB5 := hs.lt
      have hW5 := R.out.lt
      have hC5 := C.out.lt
      have HS := Lib.hid hs
      clear ho hs hs1
      go_upto_if 36 with fail
      go_cut [] (fun wx => CJ w B (k + 20) w3.heap.size 4 wx)
      case first =>
        cases fl
        · go_wp2_with fail
          go_meet
          exact ⟨o, a, f, A, n, cap, rs, HL.out, by omega, HSZ.out, C.out, O.out, R.out, G.out, HS.out.mono (by omega)⟩
        go_wp2_with fail
        refine (next_any B (k + 3 + 2 * 3 + 1) 5 _ HS.out (by omega) (by omega) (by omega)).mono ?_
        rintro e w6 ⟨sw, s0, s1, rfl, ho, hs⟩
        replace R := Lib.hid (R.out.only ho (by omega))
        replace G := Lib.hid (G.out.trans (Gr.only ho))
        replace C := Lib.hid (C.out.only ho (by omega))
        replace O := Lib.hid (own_only O.out ho (by omega))
        replace HS := Lib.hid hs
        have hB6 := hs.lt
        have hW6 := R.out.lt
        have hC6 := C.out.lt
        clear ho hs hB5 hW5 hC5
        rcases (by omega : sw = 0 ∨ sw = 1 ∨ sw = 2 ∨ sw = 3 ∨ sw = 4) with rfl | rfl | rfl | rfl | rfl
        · go_wp2_with fail
          refine (pick_le B (k + 3 + 2 * 3 + 1 + 1) _ _ [-1, 5761440, 60] _ _ _ (HS.out.keep (by go_grown)) (by omega) (by omega) (new_at (by simp)) (by simp) (by simp)).mono ?_
          rintro e w7 ⟨u, rfl, ho, hs⟩
          replace R := Lib.hid ((R.out.alloc _).only ho (by omega))
          replace G := Lib.hid ((G.out.alloc _).trans (Gr.only ho))
          replace C := Lib.hid ((C.out.alloc _).only ho (by omega))
          replace O := Lib.hid (own_only (O.out.alloc _) ho (by omega))
          have HS7 := Lib.hid hs
          have x := C.out.cell 0 _ rfl
          have y := C.out.frozen 0
          have HP : Hid (CJ w B (k + 20) w3.heap.size 4 (w7.setCell ⟨w3.heap.size, 0, none⟩ (.int .i64 u))) := Lib.hid ⟨u, a, f, A, n, cap, rs, HL.out, by omega, HSZ.out, C.out.set_ 0 _, own_only O.out ((Only.refl w3.heap.size w7).setCell 0 none (.int .i64 u)) (Nat.le_refl _),
            R.out.far (by simp; omega) _, G.out.setCell (p := ⟨w3.heap.size, 0, none⟩) (Nat.le_of_lt hW3) (.int .i64 u), (hs.keep ((Below.refl _ _).setCell (by simp; omega) _)).mono (by omega)⟩
          clear ho hs
          go_wp2_with fail
          go_meet
          exact HP.out
        · go_wp2_with fail
          refine (pick_le B (k + 3 + 2 * 3 + 1 + 1) _ _ [0, 10, 500] _ _ _ (HS.out.keep (by go_grown)) (by omega) (by omega) (new_at (by simp)) (by simp) (by simp)).mono ?_
          rintro e w7 ⟨u, rfl, ho, hs⟩
          replace R := Lib.hid ((R.out.alloc _).only ho (by omega))
          replace G := Lib.hid ((G.out.alloc _).trans (Gr.only ho))
          replace C := Lib.hid ((C.out.alloc _).only ho (by omega))
          replace O := Lib.hid (own_only (O.out.alloc _) ho (by omega))
          have HS7 := Lib.hid hs
          have x := C.out.cell 1 _ rfl
          have y := C.out.frozen 1
          have HP : Hid (CJ w B (k + 20) w3.heap.size 4 (w7.setCell ⟨w3.heap.size, 1, none⟩ (.int .i64 u))) := Lib.hid ⟨o, u, f, A, n, cap, rs, HL.out, by omega, HSZ.out, C.out.set_ 1 _, own_only O.out ((Only.refl w3.heap.size w7).setCell 1 none (.int .i64 u)) (Nat.le_refl _),
            R.out.far (by simp; omega) _, G.out.setCell (p := ⟨w3.heap.size, 1, none⟩) (Nat.le_of_lt hW3) (.int .i64 u), (hs.keep ((Below.refl _ _).setCell (by simp; omega) _)).mono (by omega)⟩
          clear ho hs
          go_wp2_with fail
          go_meet
          exact HP.out
        · go_wp2_with fail
          refine (pick_le B (k + 3 + 2 * 3 + 1 + 1) _ _ [5761440, 40] _ _ _ (HS.out.keep (by go_grown)) (by omega) (by omega) (new_at (by simp)) (by simp) (by simp)).mono ?_
          rintro e w7 ⟨u, rfl, ho, hs⟩
          replace R := Lib.hid ((R.out.alloc _).only ho (by omega))
          replace G := Lib.hid ((G.out.alloc _).trans (Gr.only ho))
          replace C := Lib.hid ((C.out.alloc _).only ho (by omega))
          replace O := Lib.hid (own_only (O.out.alloc _) ho (by omega))
          have HS7 := Lib.hid hs
          have x := C.out.cell 2 _ rfl
          have y := C.out.frozen 2
          have HP : Hid (CJ w B (k + 20) w3.heap.size 4 (w7.setCell ⟨w3.heap.size, 2, none⟩ (.int .i64 u))) := Lib.hid ⟨o, a, u, A, n, cap, rs, HL.out, by omega, HSZ.out, C.out.set_ 2 _, own_only O.out ((Only.refl w3.heap.size w7).setCell 2 none (.int .i64 u)) (Nat.le_refl _),
            R.out.far (by simp; omega) _, G.out.setCell (p := ⟨w3.heap.size, 2, none⟩) (Nat.le_of_lt hW3) (.int .i64 u), (hs.keep ((Below.refl _ _).setCell (by simp; omega) _)).mono (by omega)⟩
          clear ho hs
          go_wp2_with fail
          go_meet
          exact HP.out
        · have c3 := C.out.cell 3 _ rfl
          have m6 : MS w B w3.heap.size (k + 3 + 2 * 3 + 1 + 1) o a f A n cap rs w6 := ⟨hB, hW3, HL.out, hn, HSZ.out, R.out, C.out, O.out, G.out, HS.out, by omega⟩
          have zl : ∀ s ∈ [(⟨#[]⟩ : ByteArray), ⟨#[97]⟩, ⟨#[122, 101, 100]⟩], s.size ≤ 100 := le_all (by decide +kernel)
          have KA := Lib.hid (ms_name [(⟨#[]⟩ : ByteArray), ⟨#[97]⟩, ⟨#[122, 101, 100]⟩] rfl zl (m6.below (v' := (w6.alloc (.cells #[.string ⟨#[]⟩, .string ⟨#[97]⟩, .string ⟨#[122, 101, 100]⟩] 9)).drew) (((Below.refl _ _).alloc (Nat.le_refl _) _).drew)) (by omega) (b := w6.heap.size) (new_drew rfl) (by omega))
          have KB := Lib.hid (ms_name [(⟨#[]⟩ : ByteArray), ⟨#[97]⟩, ⟨#[122, 101, 100]⟩] rfl zl (m6.below (v' := ((w6.alloc (.cells #[.string ⟨#[]⟩, .string ⟨#[97]⟩, .string ⟨#[122, 101, 100]⟩] 9)).alloc (.cells #[.int .i64 0, .int .i64 1, .int .i64 5761441] 3)).drew) ((((Below.refl _ _).alloc (Nat.le_refl _) _).alloc (by simp) _).drew)) (by omega) (b := w6.heap.size) (drew_heap (new_old (new_at rfl))) (by omega))
          have KC := Lib.hid (ms_name [(⟨#[]⟩ : ByteArray), ⟨#[97]⟩, ⟨#[122, 101, 100]⟩] rfl zl (m6.below (v' := ((w6.alloc (.cells #[.int .i64 0, .int .i64 1, .int .i64 5761441] 3)).alloc (.cells #[.string ⟨#[]⟩, .string ⟨#[97]⟩, .string ⟨#[122, 101, 100]⟩] 9)).drew) ((((Below.refl _ _).alloc (Nat.le_refl _) _).alloc (by simp) _).drew)) (by omega) (b := w6.heap.size + 1) (drew_heap (new_at (by simp))) (by omega))
          have HBW := Lib.hid hB6
          clear m6 zl R C O G HS HL HSZ
          go_wp2_with fail
          go_region_law ((first
            | (go_simp; go_at_call 20; with_reducible refine (KA.out).mono ?_
               rintro e w7 ⟨x, hx, rfl, m7, ho⟩
               have c37 := m7.cell3
               have hq7 := m7.blt
               have hl7 := m7.2.2.2.2.2.2.2.2.2.1.lt
               have PK := Lib.hid (ms_pick [0, 1, 5761441] rfl (m7.below (v' := w7.alloc (.cells #[.int .i64 0, .int .i64 1, .int .i64 5761441] 3)) ((Below.refl _ _).alloc (Nat.le_refl _) _)) (by omega) (b := w7.heap.size) (new_at rfl) (by omega))
               clear ho m7 KA KB KC)
            | (go_simp; go_at_call 20; with_reducible refine (KB.out).mono ?_
               rintro e w7 ⟨x, hx, rfl, m7, ho⟩
               have c37 := m7.cell3
               have hq7 := m7.blt
               have PK := Lib.hid (ms_pick [0, 1, 5761441] rfl m7 (by omega) (b := w6.heap.size + 1) ((ho.block (w6.heap.size + 1) (by omega)).trans (drew_heap (new_at (by simp)))) (by omega))
               clear ho m7 KA KB KC)
            | (go_simp; go_at_call 20; with_reducible refine (KC.out).mono ?_
               rintro e w7 ⟨x, hx, rfl, m7, ho⟩
               have c37 := m7.cell3
               have hq7 := m7.blt
               have PK := Lib.hid (ms_pick [0, 1, 5761441] rfl m7 (by omega) (b := w6.heap.size) ((ho.block w6.heap.size (by omega)).trans (drew_heap (new_old (new_at rfl)))) (by omega))
               clear ho m7 KA KB KC)
            | (go_simp; go_at_call 17; with_reducible refine (PK.out).mono ?_
               rintro e w8 ⟨u, rfl, m8⟩
               have c38 := m8.cell3
               have hq8 := m8.blt
               have M8 := Lib.hid m8
               clear m8 PK)
            | (refine step_push _ _ (by rfl) (by rfl) (by rfl) (by rfl) M8.out hx ?_
               intro gg cap' w9 hcj c39 y39
               have HP := Lib.hid hcj
               clear hcj M8)))
          all_goals
            go_wp2_with fail
            go_meet
            exact cj_more HP.out (by omega)
        · have c3 := C.out.cell 3 _ rfl
          obtain ⟨i0, hi0, hz0, hz1, hz2⟩ := info_parts infoR
          have HI := Lib.hid hi0
          clear hi0
          go_wp2_with (at_builtin; (refine wpList_append_lies _ rfl _ _ _ rfl (w3.heap.size + 1) 48 i0 _ 2 24 Tryd.underlying26 HI.out hz0 hz1 hz2 rfl (by omega) (.slice A n cap) n (flat rs) rfl (O.out.alloc _) ⟨w6.heap.size, 0, none⟩ 1 1 [.string ⟨#[119, 97, 114]⟩, .int .i64 1] rfl rfl (World.news_of_block (cs := #[.string ⟨#[119, 97, 114]⟩, .int .i64 1]) (t := 48) (fr := (0, 0)) (heap_alloc_new w6 _)) (by simp [Value.oneCell']) (by omega) (by unfold maxLen; omega) (by omega) (by simp; omega) (w6.heap.size + 1) (by simp) ?_); intro gg cap' w7 hown hgrow hat hgl; (have HP : Hid (CJ w B (k + 20) w3.heap.size 4 _) := Lib.hid (cj_push hB hW3 HL.out hn HSZ.out (show (⟨#[119, 97, 114]⟩ : ByteArray).size ≤ 100 by decide) R.out C.out O.out G.out (HS.out.mono (by omega)) hgrow hown)); (have y := blk_grown (C.out.alloc _) hgrow (own_ne O.out)); clear c3; (have c3 := y.cell 3 _ rfl); (have y3 := y.frozen 3); clear hown hgrow hat y)
          go_meet
          exact HP.out
      case rest =>
        obtain ⟨o, a, f, A, n, cap, rs, L, hn4, hsz, c1, o1, r1, g1, hs1⟩ := hcut
        clear C R O G HL HSZ HS hn
        have C := Lib.hid c1
        have R := Lib.hid r1
        have HL := Lib.hid L
        have HFIN := Lib.hid (call_fin hB hW3 L hsz o1 g1 hs1 (.int .i64 o) (.int .i64 a) (.int .i64 f) (.slice A n cap))
        clear c1 o1 r1 g1 hs1 hsz L
        have r0 := R.out.cell 0 _ rfl
        have r1 := R.out.cell 1 _ rfl
        have r2 := R.out.cell 2 _ rfl
        have r3 := R.out.cell 3 _ rfl
        have f0 := R.out.frozen 0
        have f1 := R.out.frozen 1
        have f2 := R.out.frozen 2
        have f3 := R.out.frozen 3
        have c0 := C.out.cell 0 _ rfl
        have c1 := C.out.cell 1 _ rfl
        have c2 := C.out.cell 2 _ rfl
        have c3 := C.out.cell 3 _ rfl
        go_wp2_with fail
        have FIN := HFIN.out
        refine bodyPost_ret (v := .agg #[.int .i64 o, .int .i64 a, .int .i64 f, .slice A n cap]) (by simp only [results, Tryd.results4]; go_simp) rfl ⟨o, a, f, A, n, cap, rs, HL.out, hn4, FIN.1, FIN.2.1, rfl, FIN.2.2.1, FIN.2.2.2⟩
end Go.Proofs.YtglmdgjbfnoidabDoor.Stm
