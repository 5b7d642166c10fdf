/-
  HOW MUCH SOME TOPICS ARE KNOWN (package topic): affinity, Affinity.
-/
import Derived.Test.YtnjigaklkalebaaDoorKnow1
namespace Go.Proofs.YtnjigaklkalebaaDoor.For
open Go.ChangeShapes Go.WideShapes Go.ChangeAt Go.RowKit Stm Key
set_option linter.unusedVariables false

/-- How much some topics are known: a fraction in lowest terms. -/
def affN (l : List Tp) (s : List Sk) (ts : List ByteArray) : Nat × Nat := lowN (sumK l s ts) (252000 * max ts.length 1)
theorem knS_le {l : List Tp} (h : RightF l) {s : List Sk} (hok : ∀ x ∈ s, (lk l x.t).isSome = true ∧ 1 ≤ x.n ∧ x.n ≤ 100) (hsz : ∀ x ∈ s, x.t.size ≤ 1000) {i : Nat} (hi : i < l.length) : (knS l s i).1 ≤ 2520000 ∧ (knS l s i).2.size ≤ 1000 :=
  knS_bd h hi s (0, ⟨#[]⟩) (by decide) (by decide) hok hsz
theorem low_as2 (n d p q : Nat) (w : World) (hn : n ≤ 4611686018427387904) (hd : 1 ≤ d) (hd2 : d ≤ 4611686018427387904) (h : Hid (lowN n d = (p, q))) :
    Calls Tryd.prog 34 #[.int .i64 n, .int .i64 d] w fun e w' => e = .returned (.agg #[.int .i64 p, .int .i64 q]) ∧ Below w.heap.size w w' :=
  Frac.low_as n d p q w hn hd hd2 (Lib.hid (congrArg Prod.fst h.out)) (Lib.hid (congrArg Prod.snd h.out))

/-- What Affinity hands back. -/
def AffRet (l : List Tp) (s : List Sk) (ts : List ByteArray) (r : Int) (w : World) (e : Ending) (w' : World) : Prop := ∃ (x y : Int), e = .returned (.tuple #[.agg #[.int .i64 x, .int .i64 y], .int .i64 r]) ∧
  (r = 0 → x = ((affN l s ts).1 : Nat) ∧ y = ((affN l s ts).2 : Nat)) ∧ Below w.heap.size w w'
theorem wantE_ok {l : List Tp} {s : List Sk} {ts : List ByteArray} (h : wantE l s ts = 0) : forestE l = 0 ∧ skE l ⟨#[]⟩ s = 0 ∧ waE l ⟨#[]⟩ ts = 0 := by
  unfold wantE at h
  by_cases h1 : withE l s = 0
  · rw [if_neg (by simpa using h1)] at h
    unfold withE at h1
    by_cases h2 : forestE l = 0
    · rw [if_neg (by simpa using h2)] at h1; exact ⟨h2, h1, h⟩
    · rw [if_pos h2] at h1; exact absurd h1 h2
  · rw [if_pos h1] at h; exact absurd h h1

end Go.Proofs.YtnjigaklkalebaaDoor.For
