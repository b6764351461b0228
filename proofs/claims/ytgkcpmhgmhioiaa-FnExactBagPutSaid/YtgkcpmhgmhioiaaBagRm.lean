/- Multisets: one number replaced by lesser ones: what it makes. No memory. -/
import Derived.Test.YtgkcpmhgmhioiaaBagO
import Derived.Test.YtgkcpmhgmhioiaaBagC
namespace Go.Proofs.Ytgkcpmhgmhioiaa
set_option maxRecDepth 100000
open Go.RowKit

theorem wo_nil : ∀ xs : List Int, wo xs [] = xs
  | [] => by rw [wo]
  | x :: t => by rw [wo, dropG, if_neg (by simp), wo_nil t]
/-- One number is gone. -/
theorem wo_erase {V : Int} : ∀ xs : List Int, xs.Pairwise (fun a b => b ≤ a) → V ∈ xs → wo xs [V] = xs.erase V
  | [], _, h => by cases h
  | x :: t, hp, h => by
    have h1 := List.pairwise_cons.1 hp
    by_cases hx : x = V
    · subst hx
      rw [wo, dropG_le (by omega), if_pos (by simp), List.tail_cons, wo_nil, List.erase_cons_head]
    · have ht : V ∈ t := by
        rcases List.mem_cons.1 h with h | h
        · exact absurd h.symm hx
        · exact h
      have := h1.1 V ht
      rw [wo, dropG_le (by omega), if_neg (by simp; omega), wo_erase t h1.2 ht, List.erase_cons_tail (by simpa using hx)]
theorem take_succ_getD {xs : List Int} {i : Nat} (hi : i < xs.length) : xs.take (i + 1) = xs.take i ++ [xs.getD i 0] := by
  rw [List.take_succ_eq_append_getElem hi]
  simp [List.getD, hi]
theorem put_skip {xs : List Int} {i : Nat} (hi : i < xs.length) (hn : xs.getD i 0 ∉ xs.take i) : (xs.take (i + 1)).erase (xs.getD i 0) = (xs.take i).erase (xs.getD i 0) ∧ xs.getD i 0 ∈ xs.take (i + 1) := by
  rw [take_succ_getD hi, List.erase_append_right _ hn, List.erase_of_not_mem hn]
  simp
theorem put_keep {xs : List Int} {V : Int} {i : Nat} (hi : i < xs.length) (h : V ∈ xs.take i ∨ xs.getD i 0 ≠ V) :
    (xs.take (i + 1)).erase V = (xs.take i).erase V ++ [xs.getD i 0] ∧ (V ∈ xs.take (i + 1) ↔ V ∈ xs.take i) := by
  rw [take_succ_getD hi]
  by_cases hm : V ∈ xs.take i
  · rw [List.erase_append_left _ hm]
    exact ⟨rfl, by simp [hm]⟩
  · have h2 : xs.getD i 0 ≠ V := h.resolve_left hm
    rw [List.erase_append_right _ hm, List.erase_of_not_mem hm, List.erase_of_not_mem (by simp; exact fun e => h2 (by simpa using e.symm))]
    refine ⟨rfl, ?_⟩
    simp only [List.mem_append, List.mem_singleton]
    exact ⟨fun h => h.resolve_right (fun e => h2 e.symm), .inl⟩

noncomputable def putOk (xs : List Int) (V : Int) (ys : List Int) : Bool := ((bagB xs && decide (V ∈ xs)) && upTo (V - 1) ys) && decide (xs.length - 1 + ys.length ≤ 16)
noncomputable def putRow (xs : List Int) (V : Int) (ys : List Int) : List Int := if putOk xs V ys = true then flat (ys ++ xs.erase V) 10 else []
theorem putOk_1 {xs ys : List Int} {V : Int} (h : bagB xs = false) : putOk xs V ys = false := by rw [putOk, h]; rfl
theorem putOk_2 {xs ys : List Int} {V : Int} (h : V ∉ xs) : putOk xs V ys = false := by rw [putOk, decide_eq_false h, Bool.and_false]; rfl
theorem putOk_3 {xs ys : List Int} {V : Int} (h : upTo (V - 1) ys = false) : putOk xs V ys = false := by rw [putOk, h, Bool.and_false]; rfl
theorem putOk_4 {xs ys : List Int} {V : Int} (h : ¬ xs.length - 1 + ys.length ≤ 16) : putOk xs V ys = false := by rw [putOk, decide_eq_false h, Bool.and_false]
theorem putOk_yes {xs ys : List Int} {V : Int} (h1 : bagB xs = true) (h2 : V ∈ xs) (h3 : upTo (V - 1) ys = true) (h4 : xs.length - 1 + ys.length ≤ 16) : putOk xs V ys = true := by
  rw [putOk, h1, decide_eq_true h2, h3, decide_eq_true h4]; rfl
theorem putOk_in {xs ys : List Int} {V : Int} (h : putOk xs V ys = true) : bagB xs = true ∧ V ∈ xs ∧ upTo (V - 1) ys = true ∧ xs.length - 1 + ys.length ≤ 16 := by
  simp only [putOk, Bool.and_eq_true, decide_eq_true_eq] at h
  exact ⟨h.1.1.1, h.1.1.2, h.1.2, h.2⟩
theorem putRow_no {xs ys : List Int} {V : Int} (h : putOk xs V ys = false) : putRow xs V ys = [] := by rw [putRow, if_neg (by rw [h]; simp)]
theorem putRow_yes {xs ys : List Int} {V : Int} (h : putOk xs V ys = true) : putRow xs V ys = flat (ys ++ xs.erase V) 10 := by rw [putRow, if_pos h]
theorem put_items {xs ys : List Int} {V : Int} (h : putOk xs V ys = true) : itemsB (ys ++ xs.erase V) = true := by
  obtain ⟨h1, h2, h3, h4⟩ := putOk_in h
  have h5 := itemsB_true.1 (bagB_true.1 h1).1
  have h6 := upTo_true.1 h5.2
  refine itemsB_true.2 ⟨by rw [List.length_append, List.length_erase_of_mem h2]; omega, upTo_true.2 (fun x hx => ?_)⟩
  rcases List.mem_append.1 hx with hx | hx
  · have := upTo_true.1 h3 x hx
    have := h6 V h2
    omega
  · exact h6 x (List.mem_of_mem_erase hx)
theorem putRow_yes' {xs ys : List Int} {V : Int} (h : putOk xs V ys = true) : putRow xs V ys = bagOf (ys ++ xs.erase V) := by
  rw [putRow_yes h, bagOf_in (put_items h)]
theorem putRow_len (xs : List Int) (V : Int) (ys : List Int) : (putRow xs V ys).length ≤ 1000 := by
  rw [putRow]
  split
  · rename_i h
    have := bagOf_len (ys ++ xs.erase V)
    rw [bagOf_in (put_items h)] at this
    omega
  · simp

end Go.Proofs.Ytgkcpmhgmhioiaa
