/- Lists of numbers: which are valid, by the program and by the model. -/
import Derived.Test.YtdcgcohfbcdnnaaLawKit
import Derived.Test.YtdcgcohfbcdnnaaLeaf
import Derived.Deep.LoopGhost
namespace Go.Proofs.Ytdcgcohfbcdnnaa
set_option maxRecDepth 100000
open Go.RowKit

/-- All numbers of a list are in 0..m. -/
def upTo (m : Int) (xs : List Int) : Bool := decide (∀ x ∈ xs, 0 ≤ x ∧ x ≤ m)
theorem upTo_true {m : Int} {xs : List Int} : upTo m xs = true ↔ ∀ x ∈ xs, 0 ≤ x ∧ x ≤ m := by rw [upTo, decide_eq_true_eq]
theorem upTo_false {m : Int} {xs : List Int} : upTo m xs = false ↔ ¬ ∀ x ∈ xs, 0 ≤ x ∧ x ≤ m := by rw [upTo, decide_eq_false_iff_not]
theorem getD_at {xs : List Int} {k : Nat} (h : k < xs.length) : xs.getD k 0 = xs[k] := by simp [List.getD, h]
theorem getD_in {xs : List Int} {k : Nat} (h : k < xs.length) : xs.getD k 0 ∈ xs := by rw [getD_at h]; exact List.getElem_mem h
theorem upTo_all {m : Int} {xs : List Int} (h : ∀ j, j < xs.length → 0 ≤ xs.getD j 0 ∧ xs.getD j 0 ≤ m) : upTo m xs = true := by
  rw [upTo_true]
  intro x hx
  obtain ⟨j, hj, rfl⟩ := List.mem_iff_getElem.1 hx
  rw [← getD_at hj]
  exact h j hj
theorem upTo_at {m : Int} {xs : List Int} {k : Nat} (hk : k < xs.length) (h : xs.getD k 0 < 0 ∨ m < xs.getD k 0) : upTo m xs = false := by
  rw [upTo_false]
  intro h'
  have := h' _ (getD_in hk)
  omega
theorem upTo_get {m : Int} {xs : List Int} (h : upTo m xs = true) {k : Nat} (hk : k < xs.length) : 0 ≤ xs.getD k 0 ∧ xs.getD k 0 ≤ m := upTo_true.1 h _ (getD_in hk)

/-- A list of one to five numbers from 0 to 9999. -/
def rowB (xs : List Int) : Bool := decide (1 ≤ xs.length ∧ xs.length ≤ 5) && upTo 9999 xs
theorem rowB_true {xs : List Int} : rowB xs = true ↔ (1 ≤ xs.length ∧ xs.length ≤ 5) ∧ upTo 9999 xs = true := by rw [rowB, Bool.and_eq_true, decide_eq_true_eq]
theorem rowB_len {xs : List Int} (h : ¬ (1 ≤ xs.length ∧ xs.length ≤ 5)) : rowB xs = false := by rw [rowB, decide_eq_false h]; rfl
theorem rowB_in {xs : List Int} (h : 1 ≤ xs.length ∧ xs.length ≤ 5) : rowB xs = upTo 9999 xs := by rw [rowB, decide_eq_true h]; rfl
theorem rowB_up {xs : List Int} (h : upTo 9999 xs = false) : rowB xs = false := by rw [rowB, h, Bool.and_false]
theorem row_tf (xs : List Int) : rowB xs = true ∨ rowB xs = false := by cases rowB xs <;> simp
theorem up_tf (m : Int) (xs : List Int) : upTo m xs = true ∨ upTo m xs = false := by cases upTo m xs <;> simp






end Go.Proofs.Ytdcgcohfbcdnnaa
