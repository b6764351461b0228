/- Marks: the laws write numbers into what they were given, and look for them again. -/
import Derived.Test.YtlbaelehmoidpaaLawKit
namespace Go.Proofs.Ytlbaelehmoidpaa
set_option maxRecDepth 100000
open Go.RowKit

def marks (k : Int) : Nat → List Int
  | 0 => []
  | n + 1 => marks k n ++ [k + n]
theorem marks_len (k : Int) (n : Nat) : (marks k n).length = n := by
  induction n with
  | zero => rfl
  | succ n ih => simp [marks, ih]
theorem marks_get (k : Int) (n j : Nat) (h : j < n) : (marks k n).getD j 0 = k + j := by
  induction n with
  | zero => omega
  | succ n ih =>
    rw [marks]
    by_cases hj : j < n
    · have := ih hj
      simp only [List.getD, List.getElem?_append_left (show j < (marks k n).length by rw [marks_len]; exact hj)] at this ⊢
      exact this
    · obtain rfl : j = n := by omega
      simp [List.getD, marks_len]

theorem mark_set (k : Int) (j : Nat) (z : Value) (zs : List Value) :
    (ints (marks k j) ++ z :: zs).set j (.int .i64 (k + j)) = ints (marks k (j + 1)) ++ zs := by
  have hl : (ints (marks k j)).length = j := by rw [ints_len, marks_len]
  rw [List.set_append_right _ _ (by omega), hl, Nat.sub_self, marks]
  simp [ints]

theorem grownBy_trans {a b c : World} {row : Option Nat} (h : a.grownBy b row) (k : b.grownBy c row) : a.grownBy c row :=
  ⟨k.os.trans h.os, k.tape.trans h.tape, k.output.trans h.output, Nat.le_trans h.size k.size, fun i hi hne => (k.block i (Nat.lt_of_lt_of_le hi h.size) hne).trans (h.block i hi hne)⟩

end Go.Proofs.Ytlbaelehmoidpaa
