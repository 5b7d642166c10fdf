/-
  THE CONTRACTS OF THE REFERENCE'S KEYS, NUMBERS AND TEXTS (package committeeref2): in, only, Key, IsText: what they return is what the program's functions return.
-/
import Derived.Test.YtmihbfmlnfhgcadGreatDoorKeys
import Derived.Test.YtmihbfmlnfhgcadGreatDoorShelf
import Derived.Shelf.Strings.SlTrimAscii
namespace Go.Proofs.YtmihbfmlnfhgcadGreatDoor.Key
open Go.ChangeShapes Go.WideShapes Go.ChangeAt Go.RowKit
set_option linter.unusedVariables false

def inI (n lo hi : Int) : Bool := decide (lo ≤ n) && decide (n ≤ hi)
theorem in_any (n lo hi : Int) (w : World) : Calls Tryz.prog 27 #[.int .i64 n, .int .i64 lo, .int .i64 hi] w fun e w' => e = .returned (.bool (inI n lo hi)) ∧ w' = w := by
  unfold inI
  go_enter Tryz.func27, Tryz.ntmps27
  by_cases a : lo ≤ n
  · have e1 : decide (lo ≤ n) = true := decide_eq_true a
    rw [e1]
    go_wp2
    go_ret; exact ⟨by simp, rfl⟩
  · have e1 : decide (lo ≤ n) = false := decide_eq_false a
    rw [e1]
    go_wp2
    go_ret; exact ⟨by simp, rfl⟩
theorem dropWhile_nil {α : Type} (p : α → Bool) (l : List α) : (l.dropWhile p = []) ↔ l.all p = true := by
  induction l with
  | nil => simp
  | cons a l ih => by_cases h : p a = true <;> simp [h, ih]

theorem trimS_nil (l cs : List UInt8) : (Lib.trimS l cs = []) ↔ l.all (cs.contains ·) = true := by
  unfold Lib.trimS Lib.trimLeftS Lib.trimRightS
  rw [dropWhile_nil, List.all_reverse]
  constructor
  · intro h
    have h2 : l.reverse.all (cs.contains ·) = true := by
      cases hd : l.reverse.dropWhile (cs.contains ·) with
      | nil => exact (dropWhile_nil _ _).1 hd
      | cons a t =>
        rw [hd] at h
        have h3 := List.all_eq_true.1 h a (by simp)
        have h4 := List.head?_dropWhile_not (cs.contains ·) l.reverse
        rw [hd] at h4
        simp only [List.head?_cons] at h4
        rw [h3] at h4
        cases h4
    rwa [List.all_reverse] at h2
  · intro h
    have : l.reverse.dropWhile (cs.contains ·) = [] := (dropWhile_nil _ _).2 (by rwa [List.all_reverse])
    rw [this]; rfl

theorem str_empty (l : List UInt8) : (⟨l.toArray⟩ : ByteArray).toList.isEmpty = decide (l = []) := by
  rw [Lib.toList_data]
  cases l with
  | nil => rfl
  | cons a l => rfl

set_option maxHeartbeats 1000000 in
theorem only_any (s cs : ByteArray) (w : World) (hs : s.size ≤ 9223372036854775807) (hcs : cs.size < 4294967281) (ha : ∀ (j : Nat) b, cs.data.toList[j]? = some b → b.toNat < 128) :
    Calls Tryz.prog 49 #[.string s, .string cs] w fun e w' => e = .returned (.bool (s.data.toList.all (cs.data.toList.contains ·))) ∧ Below w.heap.size w w' := by
  have hcon : ∀ W, Calls Tryz.prog 64 _ _ (fun e w' => e = .returned (.string ⟨(Lib.trimS s.data.toList cs.data.toList).toArray⟩) ∧ Below W.heap.size W w') := fun W => Any.strings_Trim_laid Tryz.lays160 (by kernel_rfl) s cs W hs hcs ha
  have he : (⟨(Lib.trimS s.data.toList cs.data.toList).toArray⟩ : ByteArray).toList.isEmpty = s.data.toList.all (cs.data.toList.contains ·) := by
    rw [str_empty, Bool.eq_iff_iff, decide_eq_true_iff, trimS_nil]
  have HE := Lib.hid he; clear he
  have HC := Lib.hid hcon; clear hcon
  obtain ⟨b, hb⟩ : ∃ b, s.data.toList.all (cs.data.toList.contains ·) = b := ⟨_, rfl⟩
  rw [hb] at HE ⊢
  generalize (⟨(Lib.trimS s.data.toList cs.data.toList).toArray⟩ : ByteArray) = r at HC HE
  clear hb
  go_enter Tryz.func49, Tryz.ntmps49
  go_wp2_with (go_at_call 64; refine (HC.out _).mono ?_; rintro e w' ⟨rfl, hB⟩)
  go_ret
  exact ⟨ret_bool HE.out, hB⟩

theorem u8_all (p q : UInt8 → Bool) (h : ∀ n : Fin 256, p (UInt8.ofNat n.val) = q (UInt8.ofNat n.val)) (c : UInt8) : p c = q c := by
  have := h ⟨c.toNat, c.toNat_lt⟩
  simpa using this
/-- The reference's set of a key's bytes. -/
def keySet : ByteArray := ⟨#[97, 98, 99, 100, 101, 102, 103, 104, 105, 106, 107, 108, 109, 110, 111, 112, 113, 114, 115, 116, 117, 118, 119, 120, 121, 122, 48, 49, 50, 51, 52, 53, 54, 55, 56, 57, 45, 95]⟩
def smallSet : ByteArray := ⟨#[97, 98, 99, 100, 101, 102, 103, 104, 105, 106, 107, 108, 109, 110, 111, 112, 113, 114, 115, 116, 117, 118, 119, 120, 121, 122]⟩
theorem keySet_is (c : UInt8) : keySet.data.toList.contains c = keyI c.toNat := u8_all (fun c => keySet.data.toList.contains c) (fun c => keyI c.toNat) (by decide +kernel) c
theorem smallSet_is (c : UInt8) : smallSet.data.toList.contains c = smallI c.toNat := u8_all (fun c => smallSet.data.toList.contains c) (fun c => smallI c.toNat) (by decide +kernel) c
theorem all_keySet (l : List UInt8) : l.all (keySet.data.toList.contains ·) = l.all (fun c => keyI c.toNat) := by congr 1; funext c; exact keySet_is c
theorem all_smallSet (l : List UInt8) : l.all (smallSet.data.toList.contains ·) = l.all (fun c => smallI c.toNat) := by congr 1; funext c; exact smallSet_is c

theorem head_one (s : ByteArray) (l : List UInt8) (c : UInt8) (hl : s.data.toList = c :: l) : (s.extract 0 1).data.toList = [c] := by
  rw [Lib.extract_data, hl]; rfl


set_option maxHeartbeats 1000000 in
theorem key10_walk (s : ByteArray) (w : World) (hs : s.size ≤ 1000000) (r : Bool) (hr : Hid (keyL s.data.toList = r)) :
    Calls Tryz.prog 29 #[.string s] w fun e w' => e = .returned (.bool r) ∧ Below w.heap.size w w' := by
  by_cases h0 : s.size < 1
  · obtain rfl : r = false := by
      rw [← hr.out]
      have : s.data.toList = [] := List.eq_nil_of_length_eq_zero (by rw [size_list]; omega)
      rw [this]; rfl
    have hI : inI s.size 1 40 = false := by unfold inI; simp; omega
    have HI := Lib.hid hI
    clear hI
    go_enter Tryz.func29, Tryz.ntmps29
    go_wp2_with fail
    refine (in_any _ _ _ _).mono ?_; rintro e w1 ⟨rfl, rfl⟩; rw [HI.out]
    go_wp2_with fail
    go_ret; exact ⟨rfl, Below.refl _ _⟩
  · obtain ⟨l, hl⟩ := list_head s (by omega)
    have hsz : l.length + 1 = s.size := by rw [← size_list, hl]; rfl
    have hz : keyL s.data.toList = (decide (l.length < 40) && smallI (s[0]'(by omega)).toNat && s.data.toList.all (fun c => keyI c.toNat)) := by rw [hl]; rfl
    have h1e := head_one s l _ hl
    have HZ := Lib.hid hz; clear hz hl
    have h1 : 0 < s.size := by omega
    have hd1 : (1 : Int) ≤ (s.size : Int) := by omega
    by_cases h40 : 40 < s.size
    · obtain rfl : r = false := by rw [← hr.out, HZ.out, decide_eq_false (by omega)]; rfl
      have hI : inI s.size 1 40 = false := by unfold inI; simp; omega
      have HI := Lib.hid hI
      clear h1e hI
      go_enter Tryz.func29, Tryz.ntmps29
      go_wp2_with fail
      refine (in_any _ _ _ _).mono ?_; rintro e w1 ⟨rfl, rfl⟩; rw [HI.out]
      go_wp2_with fail
      go_ret; exact ⟨rfl, Below.refl _ _⟩
    · have hI : inI s.size 1 40 = true := by unfold inI; simp; omega
      have HI := Lib.hid hI
      have HM : ∀ W, Calls Tryz.prog 49 #[.string s, .string keySet] W fun e w' => e = .returned (.bool (s.data.toList.all (fun c => keyI c.toNat))) ∧ Below W.heap.size W w' := fun W => by
        have := only_any s keySet W (by omega) (by decide) (ascii_of_all (by decide +kernel)); rwa [all_keySet] at this
      have HN : ∀ W, Calls Tryz.prog 49 #[.string (s.extract 0 1), .string smallSet] W fun e w' => e = .returned (.bool (smallI (s[0]'(by omega)).toNat)) ∧ Below W.heap.size W w' := fun W => by
        have := only_any (s.extract 0 1) smallSet W (by simp; omega) (by decide) (ascii_of_all (by decide +kernel)); rw [all_smallSet, h1e] at this; simpa using this
      have HM1 := Lib.hid HM; have HN1 := Lib.hid HN; clear HM HN h1e hI
      have HZ2 : Hid ((smallI (s[0]'(by omega)).toNat && s.data.toList.all (fun c => keyI c.toNat)) = r) := Lib.hid (by rw [← hr.out, HZ.out, decide_eq_true (by omega)]; rfl)
      clear HZ hr
      generalize smallI (s[0]'(by omega)).toNat = p at HN1 HZ2
      generalize s.data.toList.all (fun c => keyI c.toNat) = q at HM1 HZ2
      unfold keySet at HM1
      unfold smallSet at HN1
      cases p
      · obtain rfl : r = false := by have := HZ2.out; simpa using this.symm
        go_enter Tryz.func29, Tryz.ntmps29
        go_wp2_with fail
        refine (in_any _ _ _ _).mono ?_; rintro e w1 ⟨rfl, rfl⟩; rw [HI.out]
        go_wp2_with fail
        refine (HN1.out _).mono ?_; rintro e w1 ⟨rfl, hB⟩
        go_wp2_with fail
        go_ret; exact ⟨rfl, hB⟩
      · obtain rfl : q = r := by have := HZ2.out; simpa using this
        go_enter Tryz.func29, Tryz.ntmps29
        go_wp2_with fail
        refine (in_any _ _ _ _).mono ?_; rintro e w1 ⟨rfl, rfl⟩; rw [HI.out]
        go_wp2_with fail
        refine (HN1.out _).mono ?_; rintro e w1 ⟨rfl, hB⟩
        go_wp2_with fail
        refine (HM1.out _).mono ?_; rintro e w2 ⟨rfl, hB2⟩
        go_wp2_with fail
        go_ret; exact ⟨rfl, hB.trans (hB2.mono hB.size)⟩
theorem key10_any (s : ByteArray) (w : World) (hs : s.size ≤ 1000000) :
    Calls Tryz.prog 29 #[.string s] w fun e w' => e = .returned (.bool (keyL s.data.toList)) ∧ Below w.heap.size w w' := key10_walk s w hs _ (Lib.hid rfl)
end Go.Proofs.YtmihbfmlnfhgcadGreatDoor.Key
