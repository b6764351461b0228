/- The multiset of a list: it is one, of the list from its end it is the same, and of a multiset it is this one. -/
import Derived.Test.YtgkcpmhgmhioiaaBagQ
namespace Go.Proofs.Ytgkcpmhgmhioiaa
set_option maxRecDepth 100000
open Go.RowKit

theorem sorted_desc {xs : List Int} (h : xs.Pairwise (fun a b => b ≤ a)) : DescTo xs.length xs := by
  intro j hj
  have h1 := List.pairwise_iff_getElem.1 h j (j + 1) (by omega) hj (by omega)
  rw [getD_at hj, getD_at (show j < xs.length by omega)]
  exact h1
theorem flat_sorted {xs : List Int} (h : upTo 9 xs = true) : (flat xs 10).Pairwise (fun a b => b ≤ a) ∧ (flat xs 10).Perm xs := by
  rw [← sortD_flat h]
  have h1 := List.pairwise_mergeSort (le := fun x y : Int => decide (y ≤ x)) (fun a b c h1 h2 => by simp at *; omega) (fun a b => by simp; omega) xs
  exact ⟨h1.imp (fun h => by simpa using h), List.mergeSort_perm xs _⟩
theorem flat_items {xs : List Int} (h : itemsB xs = true) : itemsB (flat xs 10) = true := by
  obtain ⟨h1, h2⟩ := itemsB_true.1 h
  have h3 := (flat_sorted h2).2
  exact itemsB_true.2 ⟨by rw [h3.length_eq]; exact h1, upTo_true.2 (fun x hx => upTo_true.1 h2 x (h3.mem_iff.1 hx))⟩
theorem flat_bag {xs : List Int} (h : itemsB xs = true) : bagB (flat xs 10) = true :=
  bagB_true.2 ⟨flat_items h, sorted_desc (flat_sorted (itemsB_true.1 h).2).1⟩
theorem nil_bag : bagB [] = true := bagB_true.2 ⟨by decide, fun j hj => by simp at hj⟩
theorem bagOf_bag (xs : List Int) : bagB (bagOf xs) = true := by
  rcases items_tf xs with h | h
  · rw [bagOf_in h]; exact flat_bag h
  · rw [bagOf_out h]; exact nil_bag
theorem bagOf_self {xs : List Int} (h : bagB xs = true) : bagOf xs = xs := by
  rw [bagOf_in (bagB_true.1 h).1]
  exact flat_desc 10 xs (bag_pw h) (bag_bnd h)
theorem bagOf_twice (xs : List Int) : bagOf (bagOf xs) = bagOf xs := bagOf_self (bagOf_bag xs)
theorem bagOf_rev (xs : List Int) : bagOf xs.reverse = bagOf xs := by
  have hi : itemsB xs.reverse = itemsB xs := by
    rw [Bool.eq_iff_iff, itemsB_true, itemsB_true, upTo_true, upTo_true, List.length_reverse]
    simp
  rcases items_tf xs with h | h
  · rw [bagOf_in h, bagOf_in (hi.trans h)]
    exact flat_cong 10 (fun j _ => List.count_reverse)
  · rw [bagOf_out h, bagOf_out (hi.trans h)]

end Go.Proofs.Ytgkcpmhgmhioiaa
