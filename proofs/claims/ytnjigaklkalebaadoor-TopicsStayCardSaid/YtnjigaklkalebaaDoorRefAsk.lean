/-
  THE CONTRACTS OF THE REFERENCE'S BelowOf, MeetOf AND NearOf; what they say in the program's words.
-/
import Derived.Test.YtnjigaklkalebaaDoorRefFault
namespace Go.Proofs.YtnjigaklkalebaaDoor.For
open Go.ChangeShapes Go.WideShapes Go.ChangeAt Go.RowKit Stm Key
set_option linter.unusedVariables false

/-- The keys of the first k topics that are below one, as the reference finds them. -/
def belR (l : List Tp) (s : ByteArray) (k : Nat) : List ByteArray := ((l.take k).filter (fun x => has (abv l (l.length + 1) x.k) s)).map (·.k)
theorem belR_next {l : List Tp} {s : ByteArray} {k : Nat} (h : k < l.length) : belR l s (k + 1) = if has (abv l (l.length + 1) l[k].k) s then belR l s k ++ [l[k].k] else belR l s k := by
  unfold belR
  rw [take_next _ _ h, List.filter_append, List.map_append]
  cases hc : has (abv l (l.length + 1) l[k].k) s with
  | true => rw [List.filter_cons_of_pos (by exact hc)]; simp
  | false => rw [List.filter_cons_of_neg (by rw [hc]; simp)]; simp
theorem belR_len (l : List Tp) (s : ByteArray) (k : Nat) : (belR l s k).length ≤ k := by
  unfold belR; rw [List.length_map]; exact Nat.le_trans (List.length_filter_le _ _) (by simp; omega)
theorem belR_le {l : List Tp} (h : ∀ x ∈ l, x.k.size ≤ 1000 ∧ x.a.size ≤ 1000) (s : ByteArray) (k : Nat) : ∀ y ∈ belR l s k, y.size ≤ 1000 := by
  intro y hy
  obtain ⟨x, hx, rfl⟩ := List.mem_map.1 hy
  exact (h x (List.mem_of_mem_take (List.mem_filter.1 hx).1)).1

/-- The first of some keys that is among others. -/
def meetR (l : List Tp) (a b : ByteArray) : ByteArray := ((abv l (l.length + 1) a).find? (fun x => has (abv l (l.length + 1) b) x)).getD ⟨#[]⟩
theorem find_step (ss : List ByteArray) (p : ByteArray → Bool) (k : Nat) (h : k < ss.length) : (ss.drop k).find? p = if p ss[k] then some ss[k] else (ss.drop (k + 1)).find? p := by
  rw [drop_step ss k h, List.find?_cons]; cases p ss[k] <;> rfl

set_option maxRecDepth 100000 in
set_option maxHeartbeats 8000000 in
theorem meetof_walk (A : Option Addr) (n cap : Nat) (l : List Tp) (a b : ByteArray) (w : World) (hn : l.length = n) (hn2 : n ≤ 900) (hS : TL w A l) (ha : a.size ≤ 1000) (hb : b.size ≤ 1000) (r : ByteArray) (hr : Hid (meetR l a b = r)) :
    Calls Tryd.prog 54 #[.slice A n cap, .string a, .string b] w fun e w' => e = .returned (.string r) ∧ Below w.heap.size w w' := by
  have HL := Lib.hid hn
  have HS := Lib.hid hS
  have hr2 := hr.out
  unfold meetR at hr2
  rw [hn] at hr2
  obtain ⟨sa, hsa⟩ : ∃ sa, abv l (n + 1) a = sa := ⟨_, rfl⟩
  obtain ⟨sb, hsb⟩ : ∃ sb, abv l (n + 1) b = sb := ⟨_, rfl⟩
  have hla := abv_len l (n + 1) a
  have hlb := abv_len l (n + 1) b
  rw [hsa, hsb] at hr2
  rw [hsa] at hla
  rw [hsb] at hlb
  have HR := Lib.hid hr2
  have HAA := Lib.hid (aboveof_walk A n cap l a w hn (by omega) hS ha sa (Lib.hid hsa))
  have HAB := Lib.hid (fun W (hW : Below w.heap.size w W) => aboveof_walk A n cap l b W HL.out (by omega) (HS.out.below hW) hb sb (Lib.hid hsb))
  clear hn hS hr hr2 hsa hsb
  go_enter Tryd.func54, Tryd.ntmps54
  go_wp2_with fail
  refine (HAA.out).mono ?_; rintro e w1 ⟨A1, c1, rfl, hc1, hSL, hB⟩
  have B1 := Lib.hid hB
  have SL1 := Lib.hid hSL
  have hz1 := hB.size
  clear hB hSL
  go_wp2_with fail
  go_loopw [13] (fun i wr => ∃ k : Nat, k ≤ sa.length ∧ i = .int .i64 k ∧ Hid (((sa.drop k).find? (fun x => has sb x)).getD ⟨#[]⟩ = r) ∧ Hid (Below w1.heap.size w1 wr)) (fun i _ => sa.length - (intOf i).toNat)
  case atStart => exact ⟨0, Nat.zero_le _, rfl, HR, Lib.hid (Below.refl _ _)⟩
  case round =>
    obtain ⟨k, hk, rfl, HF, HB⟩ := hrel
    by_cases hlt : k < sa.length
    · obtain ⟨b1, hA1, hb1, hcells⟩ := SL1.out.2 (by omega)
      have c0 := (HB.out.cell (p := ⟨b1, k, none⟩) hb1).trans (hcells k hlt)
      have hq := HF.out
      rw [find_step sa _ k hlt] at hq
      have hszx := SL1.out.1 sa[k] (List.getElem_mem hlt)
      generalize sa[k] = x at *
      have HBW := Lib.hid (B1.out.trans (HB.out.mono hz1))
      have HAW := Lib.hid (HAB.out wr HBW.out)
      have HQ := Lib.hid hq
      subst hA1
      clear hcells hq HF
      go_wp2_with fail
      refine (HAW.out).mono ?_; rintro e w2 ⟨A2, c2, rfl, hc2, hSL, hB⟩
      have B2 := Lib.hid (HB.out.trans (hB.mono HB.out.size))
      generalize hct : has sb x = ct at *
      have HCT := Lib.hid (hasS_walk A2 c2 sb x w2 hSL (by omega))
      rw [hct] at HCT
      clear hct hSL hB c0
      go_wp2_with fail
      refine (HCT.out).mono ?_; rintro e w3 ⟨rfl, rfl⟩
      cases ct
      · have HQ2 : Hid (((sa.drop (k + 1)).find? (fun x => has sb x)).getD ⟨#[]⟩ = r) := Lib.hid (by have := HQ.out; simpa using this)
        go_wp2_with fail
        go_roundw
        case rel => exact ⟨k + 1, by omega, by go_num, HQ2, B2⟩
        case measure => simp [intOf]; omega
      · have HE : Hid (x = r) := Lib.hid (by have := HQ.out; simpa using this)
        go_wp2_with fail
        go_ret; exact ⟨by rw [HE.out]; try rfl, B1.out.trans (B2.out.mono hz1)⟩
    · have HE : Hid ((⟨#[]⟩ : ByteArray) = r) := Lib.hid (by have := HF.out; rw [List.drop_of_length_le (by omega)] at this; simpa using this)
      go_wp2_with fail
      go_ret; exact ⟨by rw [← HE.out]; try rfl, B1.out.trans (HB.out.mono hz1)⟩
end Go.Proofs.YtnjigaklkalebaaDoor.For
