/-
  THE CONTRACTS OF THE MAKERS RightSheet AND Sheet.
-/
import Derived.Test.YthglfcfnejjpjaaGreatDoorQs
import Derived.Test.YthglfcfnejjpjaaGreatDoorSome10
namespace Go.Proofs.YthglfcfnejjpjaaGreatDoor.Rev
open Go.ChangeShapes Go.WideShapes Go.ChangeAt Go.RowKit Stm Key
set_option linter.unusedVariables false

def fourQ (m0 m1 : Int) (n0 s1 n2 s2 s3 : Bool) (v : Value) : List (Qs × Value) :=
  [(⟨⟨#[115, 99, 111, 114, 101]⟩, 1, m0, [], n0, false⟩, .slice none 0 0), (⟨⟨#[110, 111, 116, 101]⟩, 3, m1, [], false, s1⟩, .slice none 0 0),
   (⟨⟨#[114, 97, 110, 107]⟩, 2, 0, [⟨#[121, 101, 115]⟩, ⟨#[110, 111]⟩, ⟨#[109, 97, 121, 98, 101]⟩], n2, s2⟩, v), (⟨⟨#[100, 101, 112, 116, 104]⟩, 1, 3, [], false, s3⟩, .slice none 0 0)]
theorem ol_nil (B : Nat) (w : World) : OL B w (.slice none 0 0) [] := ⟨none, 0, rfl, Nat.le_refl _, sl_nil _ _, Or.inl ⟨rfl, rfl⟩⟩
theorem far_nil (g : Nat) : Far g (.slice none 0 0) := fun b n co h => by cases h
theorem one_cells (x : ByteArray) : ∀ (i : Nat) (hi : i < [x].length), #[Value.string x][i]? = some (.string [x][i]) := fun i hi => by
  have h : i < 1 := hi
  obtain rfl : i = 0 := by omega
  rfl
/-- What RightSheet hands back: a row of one to four questions, alone in its block, which has room for four. -/
def ShRow (B k d : Nat) (w : World) (e : Ending) (w' : World) : Prop := ∃ (g m : Nat) (L : List (Qs × Value)), e = .returned (.slice (some ⟨g, 0, none⟩) m 4) ∧ 1 ≤ m ∧ m ≤ 4 ∧ L.length = m ∧ w.heap.size ≤ g ∧
  w'.ownsRow w.heap.size 45 6 (.slice (some ⟨g, 0, none⟩) m 4) m (flatQ L) ∧ RowOk B w' L ∧ (∀ p ∈ L, Far g p.2) ∧ Gr B w w' ∧ Strm w' B (k + d)

set_option maxRecDepth 100000 in
set_option maxHeartbeats 8000000 in
theorem rightsheet_any (B k : Nat) (w : World) (hs : Strm w B k) (hk : k ≤ 900000) :
    Calls Tryz.prog 15 #[.pointer (some ⟨B, 0, none⟩)] w (ShRow B k 8 w) := by
  have hB := hs.lt
  have HS := Lib.hid hs
  clear hs
  go_enter Tryz.func15, Tryz.ntmps15
  go_wp2_with fail
  refine (pick_any B k _ _ [10, 10, 5, 100] _ _ _ (HS.out.keep (by go_grown)) (by omega) (by omega) (new_at rfl) (by simp) (by simp)).mono ?_
  rintro e w1 ⟨m0, hm0, rfl, ho, hs⟩
  have G1 := Lib.hid (((Gr.refl B w).alloc (.cells #[.int .i64 10, .int .i64 10, .int .i64 5, .int .i64 100] 3)).trans (Gr.only ho))
  have S1 := Lib.hid hs
  have hB1 := hs.lt
  clear ho hs HS
  go_wp2_with fail
  refine (flip_any B (k + 1) 2 _ S1.out (by omega) (by omega) (by omega)).mono ?_
  rintro e w2 ⟨n0, rfl, ho, hs⟩
  have G2 := Lib.hid (G1.out.trans (Gr.only ho))
  have S2 := Lib.hid hs
  have hB2 := hs.lt
  clear ho hs S1 G1
  go_wp2_with fail
  refine (pick_any B (k + 1 + 1) _ _ [1, 20, 5000] _ _ _ (S2.out.keep (by go_grown)) (by omega) (by omega) (new_at rfl) (by simp) (by simp)).mono ?_
  rintro e w3 ⟨m1, hm1, rfl, ho, hs⟩
  have G3 := Lib.hid ((G2.out.alloc (.cells #[.int .i64 1, .int .i64 20, .int .i64 5000] 3)).trans (Gr.only ho))
  have S3 := Lib.hid hs
  have hB3 := hs.lt
  clear ho hs S2 G2
  go_wp2_with fail
  refine (flip_any B (k + 1 + 1 + 1) 2 _ S3.out (by omega) (by omega) (by omega)).mono ?_
  rintro e w4 ⟨s1, rfl, ho, hs⟩
  have G4 := Lib.hid ((G3.out.trans (Gr.only ho)).alloc (.cells #[.string ⟨#[121, 101, 115]⟩, .string ⟨#[110, 111]⟩, .string ⟨#[109, 97, 121, 98, 101]⟩] 9))
  have hB4 := hs.lt
  have S4 := Lib.hid (hs.keep (show Below (B + 1) w4 (w4.alloc (.cells #[.string ⟨#[121, 101, 115]⟩, .string ⟨#[110, 111]⟩, .string ⟨#[109, 97, 121, 98, 101]⟩] 9)) by go_grown))
  have K4 := Lib.hid (Blk.new w4 9 #[.string ⟨#[121, 101, 115]⟩, .string ⟨#[110, 111]⟩, .string ⟨#[109, 97, 121, 98, 101]⟩])
  clear ho hs S3 G3
  go_wp2_with fail
  refine (flip_any B (k + 1 + 1 + 1 + 1) 3 _ S4.out (by omega) (by omega) (by omega)).mono ?_
  rintro e w5 ⟨n2, rfl, ho, hs⟩
  have G5 := Lib.hid (G4.out.trans (Gr.only ho))
  have S5 := Lib.hid hs
  have hB5 := hs.lt
  have K5 := Lib.hid (K4.out.only ho (by omega))
  clear ho hs S4 G4 K4
  go_wp2_with fail
  refine (flip_any B (k + 1 + 1 + 1 + 1 + 1) 3 _ S5.out (by omega) (by omega) (by omega)).mono ?_
  rintro e w6 ⟨s2, rfl, ho, hs⟩
  have G6 := Lib.hid (G5.out.trans (Gr.only ho))
  have S6 := Lib.hid hs
  have K6 := Lib.hid (K5.out.only ho (by omega))
  clear ho hs S5 G5 K5
  go_wp2_with fail
  refine (flip_any B (k + 1 + 1 + 1 + 1 + 1 + 1) 2 _ S6.out (by omega) (by omega) (by omega)).mono ?_
  rintro e w7 ⟨s3, rfl, ho, hs⟩
  have G7 := Lib.hid (G6.out.trans (Gr.only ho))
  have S7 := Lib.hid hs
  have hB7 := hs.lt
  have K7 := Lib.hid (K6.out.only ho (by omega))
  have hK7 := K7.out.lt
  have hz7 := G7.out.size
  clear ho hs S6 G6 K6
  go_wp2_with fail
  refine (pick_any B (k + 1 + 1 + 1 + 1 + 1 + 1 + 1) _ _ [1, 2, 3, 4, 4] _ _ _ (S7.out.keep (by go_grown)) (by simp; omega) (by omega) (new_at (by simp)) (by simp) (by simp)).mono ?_
  rintro e w8 ⟨r, hr, rfl, ho, hs⟩
  obtain ⟨m, rfl⟩ : ∃ m : Nat, r = m := ⟨r.toNat, by simp at hr; omega⟩
  have hm1' : 1 ≤ m := by simp at hr; omega
  have hm4' : m ≤ 4 := by simp at hr; omega
  obtain ⟨L4, hL4⟩ : ∃ L, fourQ m0 m1 n0 s1 n2 s2 s3 (.slice (some ⟨w4.heap.size, 0, none⟩) 3 3) = L := ⟨_, rfl⟩
  have K8 := Lib.hid (show Blk w8 w7.heap.size 45 (flatQ L4).toArray by rw [← hL4]; exact ((Blk.new w7 _ _).alloc _).only ho (by omega))
  have KO8 := Lib.hid (((K7.out.alloc _).alloc _).only ho (by omega))
  have G8 := Lib.hid (((G7.out.alloc _).alloc _).trans (Gr.only ho))
  have S8 := Lib.hid hs
  have RO := Lib.hid (show RowOk B w8 L4 ∧ (∀ p ∈ L4, Far w7.heap.size p.2) ∧ L4.length = 4 by
    rw [← hL4]
    refine ⟨fun p hp => ?_, fun p hp => ?_, rfl⟩
    · simp only [fourQ, List.mem_cons, List.mem_nil_iff, or_false] at hp
      rcases hp with rfl | rfl | rfl | rfl
      · exact ⟨⟨Nat.le_of_ble_eq_true rfl, by unfold near; simp, by unfold near; simp at hm0 ⊢; omega, Nat.zero_le _⟩, ol_nil _ _⟩
      · exact ⟨⟨Nat.le_of_ble_eq_true rfl, by unfold near; simp, by unfold near; simp at hm1 ⊢; omega, Nat.zero_le _⟩, ol_nil _ _⟩
      · refine ⟨⟨Nat.le_of_ble_eq_true rfl, by unfold near; simp, by unfold near; simp, Nat.le_of_ble_eq_true rfl⟩, _, 3, rfl, Nat.le_refl _, blk_sl KO8.out (fun x hx => ?_) (fun i hi => ?_), Or.inr ⟨_, rfl, by omega⟩⟩
        · simp only [List.mem_cons, List.mem_nil_iff, or_false] at hx
          rcases hx with rfl | rfl | rfl <;> exact Nat.le_of_ble_eq_true rfl
        · have hi3 : i < 3 := hi
          rcases (by omega : i = 0 ∨ i = 1 ∨ i = 2) with rfl | rfl | rfl <;> rfl
      · exact ⟨⟨Nat.le_of_ble_eq_true rfl, by unfold near; simp, by unfold near; simp, Nat.zero_le _⟩, ol_nil _ _⟩
    · simp only [fourQ, List.mem_cons, List.mem_nil_iff, or_false] at hp
      rcases hp with rfl | rfl | rfl | rfl
      · exact far_nil _
      · exact far_nil _
      · intro b n co h; injection h with h; injection h with h; injection h with h; omega
      · exact far_nil _)
  have hsz : (flatQ L4).toArray.size = 4 * 6 := by rw [List.size_toArray, flatQ_length, RO.out.2.2]
  have O8 := Lib.hid (own_of_blk (base := w.heap.size) (n := m) (cap := 4) K8.out hz7 hm4' (by unfold maxLen; omega) hsz)
  clear ho hs hr hL4 hsz S7 G7 K7 K8 KO8 hm0 hm1
  go_wp2_with fail
  go_ret
  exact ⟨w7.heap.size, m, L4.take m, rfl, hm1', hm4', by rw [List.length_take, RO.out.2.2]; omega, hz7, by rw [← flatQ_take]; exact O8.out, fun p hp => RO.out.1 p (List.mem_of_mem_take hp), fun p hp => RO.out.2.1 p (List.mem_of_mem_take hp), G8.out, S8.out⟩

theorem infoQ : (Tryz.prog.info? 45).map (fun i => (i.zero, i.size, i.bytes)) = some (some (.agg #[.string ⟨#[]⟩, .int .i64 0, .int .i64 0, .slice none 0 0, .bool false, .bool false]), 6, 64) := by kernel_rfl
/-- What the makers of sheets hand back. -/
def ShRet (B k d : Nat) (w : World) (e : Ending) (w' : World) : Prop := ∃ (A : Option Addr) (n c : Nat) (l : List Qs), e = .returned (.slice A n c) ∧ l.length = n ∧ n ≤ 5 ∧ n ≤ c ∧ QL B w' A l ∧ Gr B w w' ∧ Strm w' B (k + d)
/-- A store into the row. -/
theorem sh_set {B k d : Nat} {w w5 : World} {g m j p : Nat} {L : List (Qs × Value)} {u : Value} {q : Qs × Value} (hB : B < w.heap.size) (hg : w.heap.size ≤ g) (O : w5.ownsRow w.heap.size 45 6 (.slice (some ⟨g, 0, none⟩) m 4) m (flatQ L)) (R : RowOk B w5 L)
    (F : ∀ p ∈ L, Far g p.2) (HL : L.length = m) (hm : m ≤ 4) (G : Gr B w w5) (S : Strm w5 B (k + d)) (hp : p < m * 6) (he : (flatQ L).set p u = flatQ (L.set j q)) (hq : qOk q.1) (hqo : OL B w5 q.2 q.1.o) (hqf : Far g q.2) :
    ShRet B k d w (.returned (.slice (some ⟨g, 0, none⟩) m 4)) (w5.setCell ⟨g, p, none⟩ u) := by
  have O6 := own_set (u := u) O hp
  rw [he] at O6
  have gs : w5.grownBy (w5.setCell ⟨g, p, none⟩ u) (some g) := grown_set u
  have R6 : RowOk B (w5.setCell ⟨g, p, none⟩ u) (L.set j q) := (R.grown gs (fun r e => by injection e with e; subst e; exact F)).set j q ⟨hq, ol_grown hqo gs (fun r e => by injection e with e; subst e; exact hqf)⟩
  exact ⟨_, m, 4, (L.set j q).map (·.1), rfl, by rw [List.length_map, List.length_set]; exact HL, by omega, hm, row_ql O6 (by rw [List.length_set]; exact HL) hB R6, G.setCell hg u, S.keep ((Below.refl _ _).setCell (p := ⟨g, p, none⟩) (show B + 1 ≤ g by omega) u)⟩
set_option maxRecDepth 100000 in
set_option maxHeartbeats 16000000 in
theorem sheet_any (B k : Nat) (w : World) (hs : Strm w B k) (hk : k ≤ 800000) :
    Calls Tryz.prog 4 #[.pointer (some ⟨B, 0, none⟩)] w (ShRet B k 13 w) := by
  have hB := hs.lt
  have HS := Lib.hid hs
  clear hs
  go_enter Tryz.func4, Tryz.ntmps4
  go_wp2_with fail
  refine (rightsheet_any B k _ HS.out (by omega)).mono ?_
  rintro e w1 ⟨g, m, L, rfl, hm1, hm4, hL, hg, ho, hr, hf, hgr, hs⟩
  have O1 := Lib.hid ho
  have R1 := Lib.hid hr
  have F1 := Lib.hid hf
  have G1 := Lib.hid hgr
  have S1 := Lib.hid hs
  have HL := Lib.hid hL
  have hB1 := hs.lt
  clear ho hr hf hgr hs HS hL
  go_wp2_with fail
  refine (flip_any B (k + 8) 10 _ S1.out (by omega) (by omega) (by omega)).mono ?_
  rintro e w2 ⟨fl, rfl, ho, hs⟩
  have O2 := Lib.hid (own_only O1.out ho hB)
  have R2 := Lib.hid (R1.out.gr (Gr.only ho))
  have G2 := Lib.hid (G1.out.trans (Gr.only ho))
  have S2 := Lib.hid hs
  have hB2 := hs.lt
  clear ho hs O1 R1 G1 S1
  cases fl
  · go_wp2_with fail
    go_ret
    exact ⟨_, m, 4, L.map (·.1), rfl, by rw [List.length_map]; exact HL.out, by omega, by omega, row_ql O2.out HL.out hB R2.out, G2.out, S2.out.mono (by omega)⟩
  go_wp2_with fail
  refine (next_any B (k + 8 + 1) m _ S2.out (by omega) (by omega) (by omega)).mono ?_
  rintro e w3 ⟨z, z0, z1, rfl, ho, hs⟩
  obtain ⟨j, rfl⟩ : ∃ j : Nat, z = j := ⟨z.toNat, by omega⟩
  have O3 := Lib.hid (own_only O2.out ho hB)
  have R3 := Lib.hid (R2.out.gr (Gr.only ho))
  have G3 := Lib.hid (G2.out.trans (Gr.only ho))
  have S3 := Lib.hid hs
  have hB3 := hs.lt
  have hjm : j < m := by omega
  clear ho hs O2 R2 G2 S2
  go_wp2_with fail
  refine (next_any B (k + 8 + 1 + 1) 6 _ S3.out (by omega) (by omega) (by omega)).mono ?_
  rintro e w4 ⟨y, y0, y1, rfl, ho, hs⟩
  have O4 := Lib.hid (own_only O3.out ho hB)
  have R4 := Lib.hid (R3.out.gr (Gr.only ho))
  have G4 := Lib.hid (G3.out.trans (Gr.only ho))
  have S4 := Lib.hid hs
  have hB4 := hs.lt
  clear ho hs O3 R3 G3 S3
  rcases (by omega : y = 0 ∨ y = 1 ∨ y = 2 ∨ y = 3 ∨ y = 4 ∨ y = 5) with rfl | rfl | rfl | rfl | rfl | rfl
  · go_wp2_with fail
    refine (some10_le 1000 B _ _ _ [⟨#[]⟩, ⟨#[65]⟩, ⟨#[115, 99, 111, 114, 101]⟩] _ _ _ (S4.out.keep (by go_grown)) (by omega) (by omega) (new_at rfl) (by simp) (by simp) (le_all (by decide +kernel))).mono ?_
    rintro e w5 ⟨u, hu, rfl, ho, hs⟩
    have O5 := Lib.hid (own_only (O4.out.alloc _) ho hB)
    have R5 := Lib.hid ((R4.out.gr ((Gr.refl B w4).alloc _)).gr (Gr.only ho))
    have G5 := Lib.hid ((G4.out.alloc _).trans (Gr.only ho))
    have S5 := Lib.hid hs
    have hjl : j < L.length := by rw [HL.out]; exact hjm
    have c0 := O5.out.cells (g := g) rfl _ _ (flatQ_get L j hjl).1
    rw [row_add'] at c0
    have f0 := own_frozen O5.out (j * 6)
    have HE := Lib.hid (flatQ_set0 L j u hjl)
    have HQ := Lib.hid (R5.out _ (List.getElem_mem hjl))
    have HF := Lib.hid (F1.out _ (List.getElem_mem hjl))
    generalize L[j] = q at *
    clear ho hs O4 R4 G4 S4
    go_wp2_with fail
    go_ret
    exact sh_set hB hg O5.out R5.out F1.out HL.out hm4 G5.out (S5.out.mono (by omega)) (by omega) HE.out ⟨hu, HQ.out.1.2⟩ HQ.out.2 HF.out
  · go_wp2_with fail
    refine (odd10_any B _ 1 3 _ S4.out (by omega) (by omega) (by omega) (by omega)).mono ?_
    rintro e w5 ⟨u, hu0, hu1, rfl, ho, hs⟩
    have O5 := Lib.hid (own_gr O4.out ho hB)
    have R5 := Lib.hid (R4.out.gr ho)
    have G5 := Lib.hid (G4.out.trans ho)
    have S5 := Lib.hid hs
    have hjl : j < L.length := by rw [HL.out]; exact hjm
    have c0 := O5.out.cells (g := g) rfl _ _ (flatQ_get L j hjl).2.1
    rw [row_add'] at c0
    have f0 := own_frozen O5.out (j * 6 + 1)
    have HE := Lib.hid (flatQ_set1 L j u hjl)
    have HQ := Lib.hid (R5.out _ (List.getElem_mem hjl))
    have HF := Lib.hid (F1.out _ (List.getElem_mem hjl))
    generalize L[j] = q at *
    clear ho hs O4 R4 G4 S4
    go_wp2_with fail
    go_ret
    exact sh_set hB hg O5.out R5.out F1.out HL.out hm4 G5.out (S5.out.mono (by omega)) (by omega) HE.out ⟨HQ.out.1.1, ⟨hu0, hu1⟩, HQ.out.1.2.2⟩ HQ.out.2 HF.out
  · go_wp2_with fail
    refine (odd10_any B _ 0 100 _ S4.out (by omega) (by omega) (by omega) (by omega)).mono ?_
    rintro e w5 ⟨u, hu0, hu1, rfl, ho, hs⟩
    have O5 := Lib.hid (own_gr O4.out ho hB)
    have R5 := Lib.hid (R4.out.gr ho)
    have G5 := Lib.hid (G4.out.trans ho)
    have S5 := Lib.hid hs
    have hjl : j < L.length := by rw [HL.out]; exact hjm
    have c0 := O5.out.cells (g := g) rfl _ _ (flatQ_get L j hjl).2.2.1
    rw [row_add'] at c0
    have f0 := own_frozen O5.out (j * 6 + 2)
    have HE := Lib.hid (flatQ_set2 L j u hjl)
    have HQ := Lib.hid (R5.out _ (List.getElem_mem hjl))
    have HF := Lib.hid (F1.out _ (List.getElem_mem hjl))
    generalize L[j] = q at *
    clear ho hs O4 R4 G4 S4
    go_wp2_with fail
    go_ret
    exact sh_set hB hg O5.out R5.out F1.out HL.out hm4 G5.out (S5.out.mono (by omega)) (by omega) HE.out ⟨HQ.out.1.1, HQ.out.1.2.1, ⟨hu0, hu1⟩, HQ.out.1.2.2.2⟩ HQ.out.2 HF.out
  · go_wp2_with fail
    refine (next_any B _ 4 _ (S4.out.keep (by go_grown)) (by omega) (by omega) (by omega)).mono ?_
    rintro e w5 ⟨u, hu0, hu1, rfl, ho, hs⟩
    have gr4 := Lib.hid ((((((Gr.refl B w4).alloc (.cells #[.string ⟨#[121, 101, 115]⟩] 9)).alloc (.cells #[.string ⟨#[121, 101, 115]⟩, .string ⟨#[121, 101, 115]⟩] 9)).alloc (.cells #[.string ⟨#[65]⟩] 9)).alloc (.cells #[.slice none 0 0, .slice (some ⟨w4.heap.size, 0, none⟩) 1 1, .slice (some ⟨w4.heap.size + 1, 0, none⟩) 2 2, .slice (some ⟨w4.heap.size + 2, 0, none⟩) 1 1] 30)).trans (Gr.only ho))
    have KA := Lib.hid (((((Blk.new w4 9 #[.string ⟨#[121, 101, 115]⟩]).alloc (.cells #[.string ⟨#[121, 101, 115]⟩, .string ⟨#[121, 101, 115]⟩] 9)).alloc (.cells #[.string ⟨#[65]⟩] 9)).alloc (.cells #[.slice none 0 0, .slice (some ⟨w4.heap.size, 0, none⟩) 1 1, .slice (some ⟨w4.heap.size + 1, 0, none⟩) 2 2, .slice (some ⟨w4.heap.size + 2, 0, none⟩) 1 1] 30)).only ho (by omega))
    have KB := Lib.hid ((((show Blk _ (w4.heap.size + 1) _ _ from by have h := Blk.new (w4.alloc (.cells #[.string ⟨#[121, 101, 115]⟩] 9)) 9 #[.string ⟨#[121, 101, 115]⟩, .string ⟨#[121, 101, 115]⟩]; simp only [World.size_alloc] at h; exact h).alloc (.cells #[.string ⟨#[65]⟩] 9)).alloc (.cells #[.slice none 0 0, .slice (some ⟨w4.heap.size, 0, none⟩) 1 1, .slice (some ⟨w4.heap.size + 1, 0, none⟩) 2 2, .slice (some ⟨w4.heap.size + 2, 0, none⟩) 1 1] 30)).only ho (by omega))
    have KC := Lib.hid (((show Blk _ (w4.heap.size + 2) _ _ from by have h := Blk.new ((w4.alloc (.cells #[.string ⟨#[121, 101, 115]⟩] 9)).alloc (.cells #[.string ⟨#[121, 101, 115]⟩, .string ⟨#[121, 101, 115]⟩] 9)) 9 #[.string ⟨#[65]⟩]; simp only [World.size_alloc] at h; exact h).alloc (.cells #[.slice none 0 0, .slice (some ⟨w4.heap.size, 0, none⟩) 1 1, .slice (some ⟨w4.heap.size + 1, 0, none⟩) 2 2, .slice (some ⟨w4.heap.size + 2, 0, none⟩) 1 1] 30)).only ho (by omega))
    have KD := Lib.hid ((show Blk _ (w4.heap.size + 3) _ _ from by have h := Blk.new (((w4.alloc (.cells #[.string ⟨#[121, 101, 115]⟩] 9)).alloc (.cells #[.string ⟨#[121, 101, 115]⟩, .string ⟨#[121, 101, 115]⟩] 9)).alloc (.cells #[.string ⟨#[65]⟩] 9)) 30 #[.slice none 0 0, .slice (some ⟨w4.heap.size, 0, none⟩) 1 1, .slice (some ⟨w4.heap.size + 1, 0, none⟩) 2 2, .slice (some ⟨w4.heap.size + 2, 0, none⟩) 1 1]; simp only [World.size_alloc] at h; exact h).only ho (by omega))
    obtain ⟨i, rfl⟩ : ∃ i : Nat, u = i := ⟨u.toNat, by omega⟩
    have hg4 := (O4.out.lt g rfl).2
    have hv : ∃ (Av : Option Addr) (nv cv : Nat) (o : List ByteArray), w5.cell? ⟨w4.heap.size + 3, i, none⟩ = some (.slice Av nv cv) ∧ OL B w5 (.slice Av nv cv) o ∧ o.length ≤ 1000 ∧ Far g (.slice Av nv cv) := by
      have one : ∀ x ∈ [(⟨#[121, 101, 115]⟩ : ByteArray)], x.size ≤ 1000 := fun x hx => by obtain rfl := List.mem_singleton.1 hx; exact Nat.le_of_ble_eq_true rfl
      have oneA : ∀ x ∈ [(⟨#[65]⟩ : ByteArray)], x.size ≤ 1000 := fun x hx => by obtain rfl := List.mem_singleton.1 hx; exact Nat.le_of_ble_eq_true rfl
      have two : ∀ x ∈ [(⟨#[121, 101, 115]⟩ : ByteArray), ⟨#[121, 101, 115]⟩], x.size ≤ 1000 := fun x hx => by
        simp only [List.mem_cons, List.mem_nil_iff, or_false, or_self] at hx; subst hx; exact Nat.le_of_ble_eq_true rfl
      rcases (by omega : i = 0 ∨ i = 1 ∨ i = 2 ∨ i = 3) with rfl | rfl | rfl | rfl
      · exact ⟨_, _, _, [], KD.out.cell 0 _ rfl, ol_nil _ _, Nat.zero_le _, far_nil _⟩
      · exact ⟨_, _, _, [⟨#[121, 101, 115]⟩], KD.out.cell 1 _ rfl, ⟨_, 1, rfl, Nat.le_refl _, blk_sl KA.out one (one_cells _), Or.inr ⟨_, rfl, by omega⟩⟩, Nat.le_of_ble_eq_true rfl, fun b n co h => by injection h with h; injection h with h; injection h with h; omega⟩
      · exact ⟨_, _, _, [⟨#[121, 101, 115]⟩, ⟨#[121, 101, 115]⟩], KD.out.cell 2 _ rfl, ⟨_, 2, rfl, Nat.le_refl _, blk_sl KB.out two (fun i hi => by have : i < 2 := hi; rcases (by omega : i = 0 ∨ i = 1) with rfl | rfl <;> rfl), Or.inr ⟨_, rfl, by omega⟩⟩, Nat.le_of_ble_eq_true rfl, fun b n co h => by injection h with h; injection h with h; injection h with h; omega⟩
      · exact ⟨_, _, _, [⟨#[65]⟩], KD.out.cell 3 _ rfl, ⟨_, 1, rfl, Nat.le_refl _, blk_sl KC.out oneA (one_cells _), Or.inr ⟨_, rfl, by omega⟩⟩, Nat.le_of_ble_eq_true rfl, fun b n co h => by injection h with h; injection h with h; injection h with h; omega⟩
    obtain ⟨Av, nv, cv, o, cv0, hol, hol3, hfar⟩ := hv
    have OO := Lib.hid hol
    have OF := Lib.hid hfar
    have O5 := Lib.hid (own_gr O4.out gr4.out hB)
    have R5 := Lib.hid (R4.out.gr gr4.out)
    have G5 := Lib.hid (G4.out.trans gr4.out)
    have S5 := Lib.hid hs
    have hjl : j < L.length := by rw [HL.out]; exact hjm
    have c0 := O5.out.cells (g := g) rfl _ _ (flatQ_get L j hjl).2.2.2.1
    rw [row_add'] at c0
    have f0 := own_frozen O5.out (j * 6 + 3)
    have HE := Lib.hid (flatQ_set3 L j o (.slice Av nv cv) hjl)
    have HQ := Lib.hid (R5.out _ (List.getElem_mem hjl))
    generalize L[j] = q at *
    clear ho hs O4 R4 G4 S4 KA KB KC KD gr4 hol hfar
    go_wp2_with fail
    go_ret
    exact sh_set hB hg O5.out R5.out F1.out HL.out hm4 G5.out (S5.out.mono (by omega)) (by omega) HE.out ⟨HQ.out.1.1, HQ.out.1.2.1, HQ.out.1.2.2.1, hol3⟩ OO.out OF.out
  · go_wp2_with fail
    go_ret
    exact ⟨none, 0, 0, [], rfl, rfl, by omega, by omega, QL.nil _ _ _, G4.out, S4.out.mono (by omega)⟩
  · have h0 : 0 < L.length := by rw [HL.out]; omega
    have hm0 : (0 : Int) < (m : Int) := by omega
    obtain ⟨f0, f1, f2, f3, f4, f5⟩ := flatQ_get L 0 h0
    have c0 : w4.cell? ⟨g, 0, none⟩ = some (.string L[0].1.k) := by have := O4.out.cells (g := g) rfl _ _ f0; rw [row_add'] at this; exact this
    have c1 : w4.cell? ⟨g, 1, none⟩ = some (.int .i64 L[0].1.d) := by have := O4.out.cells (g := g) rfl _ _ f1; rw [row_add'] at this; exact this
    have c2 : w4.cell? ⟨g, 2, none⟩ = some (.int .i64 L[0].1.m) := by have := O4.out.cells (g := g) rfl _ _ f2; rw [row_add'] at this; exact this
    have c3 : w4.cell? ⟨g, 3, none⟩ = some L[0].2 := by have := O4.out.cells (g := g) rfl _ _ f3; rw [row_add'] at this; exact this
    have c4 : w4.cell? ⟨g, 4, none⟩ = some (.bool L[0].1.nd) := by have := O4.out.cells (g := g) rfl _ _ f4; rw [row_add'] at this; exact this
    have c5 : w4.cell? ⟨g, 5, none⟩ = some (.bool L[0].1.sc) := by have := O4.out.cells (g := g) rfl _ _ f5; rw [row_add'] at this; exact this
    have HQ := Lib.hid (R4.out _ (List.getElem_mem h0))
    obtain ⟨Ao, co, hv, hco, hsl, hab⟩ := HQ.out.2
    rw [hv] at c3
    have HV := Lib.hid hv
    have HM := Lib.hid (List.getElem_mem h0)
    generalize L[0] = q at *
    obtain ⟨i0, hi0, hz0, hz1, hz2⟩ := info_parts infoQ
    have HI := Lib.hid hi0
    have Z0 := Lib.hid hz0
    have Z1 := Lib.hid hz1
    have Z2 := Lib.hid hz2
    have hz4 := G4.out.size
    clear f0 f1 f2 f3 f4 f5 hi0 hz0 hz1 hz2 hsl hab hv
    go_wp2_with (at_builtin; (refine wpList_append_lies _ rfl _ _ _ rfl w.heap.size 45 i0 _ 6 64 Tryz.underlying26 HI.out Z0.out Z1.out Z2.out rfl (by omega) (.slice (some ⟨g, 0, none⟩) m 4) m (flatQ L) rfl (O4.out.alloc _) ⟨w4.heap.size, 0, none⟩ 1 1 [.string q.1.k, .int .i64 q.1.d, .int .i64 q.1.m, .slice Ao q.1.o.length co, .bool q.1.nd, .bool q.1.sc] rfl rfl (World.news_of_block (cs := #[.string q.1.k, .int .i64 q.1.d, .int .i64 q.1.m, .slice Ao q.1.o.length co, .bool q.1.nd, .bool q.1.sc]) (t := 45) (fr := (0, 0)) (heap_alloc_new w4 _)) (by simp [Value.oneCell']) (by omega) (by unfold maxLen; omega) (by omega) (by simp; omega) (w4.heap.size + 1) (by simp) ?_); intro gg cap' w5 hown hgrow hat hgl; (have O5 := Lib.hid (show w5.ownsRow w.heap.size 45 6 (.slice (some ⟨gg, 0, none⟩) (m + 1) cap') (m + 1) (flatQ (L ++ [q])) by rw [flatQ_snoc]; unfold qv; rw [HV.out]; exact hown)); (have R5 := Lib.hid ((R4.out.gr ((Gr.refl B w4).alloc _)).grown hgrow (fun r e => by have := own_some e; subst this; exact F1.out))); (have G5 := Lib.hid (gr_row (G4.out.alloc _) hgrow (fun r e => by have := own_some e; omega))); (have S5 := Lib.hid (S4.out.keep (((Below.refl _ _).alloc (by omega) _).trans (grownB (C := B + 1) hgrow (fun r e => by have := own_some e; omega) (by simp; omega))))); clear hown hgrow hat hgl)
    go_ret
    exact ⟨_, m + 1, cap', (L ++ [q]).map (·.1), rfl, by rw [List.length_map, List.length_append, HL.out]; rfl, by omega, own_cap O5.out, row_ql O5.out (by rw [List.length_append, HL.out]; rfl) hB (fun p hp => by
      rcases List.mem_append.1 hp with h | h
      · exact R5.out p h
      · obtain rfl := List.mem_singleton.1 h; exact R5.out _ HM.out), G5.out, S5.out.mono (by omega)⟩
end Go.Proofs.YthglfcfnejjpjaaGreatDoor.Rev
