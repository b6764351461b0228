/- slices.Index and slices.Contains at rows of numbers. -/
import Derived.Test.YtgkgjacjcenekaaLawKit
import Derived.Test.YtgkgjacjcenekaaLeaf
import Derived.Deep.LoopGhost
namespace Go.Proofs.Ytgkgjacjcenekaa
set_option maxRecDepth 100000
open Go.RowKit

/-- The first place of a number in a list; -1 where it is not there. -/
def idxI : List Int → Int → Int
  | [], _ => -1
  | x :: t, m => if x = m then 0 else if idxI t m < 0 then -1 else idxI t m + 1
theorem idx_at : ∀ {xs : List Int} {m : Int} {k : Nat}, k < xs.length → xs.getD k 0 = m → (∀ j, j < k → xs.getD j 0 ≠ m) → idxI xs m = k
  | [], _, _, h, _, _ => by simp at h
  | x :: t, m, 0, _, he, _ => by rw [idxI, if_pos (by simpa using he)]; rfl
  | x :: t, m, k + 1, h, he, hn => by
    have h0 := hn 0 (by omega)
    have ih := idx_at (xs := t) (m := m) (k := k) (by simpa using h) (by simpa using he) (fun j hj => by have := hn (j + 1) (by omega); simpa using this)
    rw [idxI, if_neg (by simpa using h0), ih, if_neg (by omega)]
    omega
theorem idx_no : ∀ {xs : List Int} {m : Int}, (∀ j, j < xs.length → xs.getD j 0 ≠ m) → idxI xs m = -1
  | [], _, _ => rfl
  | x :: t, m, h => by
    have h0 := h 0 (by simp)
    have ih := idx_no (xs := t) (m := m) (fun j hj => by have := h (j + 1) (by simpa using hj); simpa using this)
    rw [idxI, if_neg (by simpa using h0), ih, if_pos (by omega)]
theorem idx_mem : ∀ (xs : List Int) (m : Int), 0 ≤ idxI xs m ↔ m ∈ xs
  | [], m => by simp [idxI]
  | x :: t, m => by
    have ih := idx_mem t m
    rw [idxI]
    by_cases hx : x = m
    · rw [if_pos hx, hx]; simp
    · rw [if_neg hx]
      have hx' : ¬ m = x := fun e => hx e.symm
      by_cases h : idxI t m < 0
      · rw [if_pos h]
        have : ¬ m ∈ t := fun h9 => by have := ih.2 h9; omega
        simp [hx', this]
      · rw [if_neg h]
        have := ih.1 (by omega)
        simp [this] <;> omega
theorem idx_lt : ∀ (xs : List Int) (m : Int), idxI xs m < xs.length
  | [], _ => by simp [idxI]
  | x :: t, m => by
    have := idx_lt t m
    rw [idxI]
    split
    · simp <;> omega
    · split
      · simp <;> omega
      · simp <;> omega
theorem idx_ge (xs : List Int) (m : Int) : -1 ≤ idxI xs m := by
  cases xs with
  | nil => simp [idxI]
  | cons x t =>
    rw [idxI]
    split
    · omega
    · split <;> omega
theorem idx_measure {n k : Nat} (h : k < n) : n - (intOf (.int .i64 ((k : Int) + 1))).toNat < n - (intOf (.int .i64 (k : Int))).toNat := by
  simp [intOf]; omega



end Go.Proofs.Ytgkgjacjcenekaa
