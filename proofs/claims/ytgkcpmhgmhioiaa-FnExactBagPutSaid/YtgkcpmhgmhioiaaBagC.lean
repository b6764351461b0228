/- Multisets: one below another one is one that is less. -/
import Derived.Test.YtgkcpmhgmhioiaaBagB
namespace Go.Proofs.Ytgkcpmhgmhioiaa
set_option maxRecDepth 100000
open Go.RowKit

/-- What is not greater. -/
def dropG (x : Int) : List Int → List Int
  | [] => []
  | y :: ys => if x < y then dropG x ys else y :: ys
/-- What one multiset has more than another one, both by descending value. -/
def wo : List Int → List Int → List Int
  | [], _ => []
  | x :: xs, ys => if (dropG x ys).head? = some x then wo xs (dropG x ys).tail else x :: wo xs (dropG x ys)

theorem dropG_gt {x y : Int} {ys : List Int} (h : x < y) : dropG x (y :: ys) = dropG x ys := by rw [dropG, if_pos h]
theorem dropG_le {x y : Int} {ys : List Int} (h : ¬ x < y) : dropG x (y :: ys) = y :: ys := by rw [dropG, if_neg h]
theorem dropG_rep {x k : Int} (h : x < k) (t : List Int) : ∀ a : Nat, dropG x (List.replicate a k ++ t) = dropG x t
  | 0 => rfl
  | a + 1 => by rw [List.replicate_succ, List.cons_append, dropG_gt h, dropG_rep h t a]
theorem wo_eq {x : Int} {xs ys : List Int} : wo (x :: xs) (x :: ys) = wo xs ys := by
  rw [wo, dropG_le (by omega)]; simp
theorem wo_keep {x : Int} {xs ys : List Int} (h : ∀ y ∈ ys, y < x) : wo (x :: xs) ys = x :: wo xs ys := by
  cases ys with
  | nil => rfl
  | cons y ys =>
    have h1 := h y List.mem_cons_self
    rw [wo, dropG_le (by omega)]
    simp
    omega
theorem wo_skip (k : Int) (t : List Int) : ∀ (s : List Int) (a : Nat), (∀ x ∈ s, x < k) → wo s (List.replicate a k ++ t) = wo s t
  | [], _, _ => by rw [wo, wo]
  | x :: s, a, h => by rw [wo, wo, dropG_rep (h x List.mem_cons_self)]
theorem wo_rep (k : Int) (s t : List Int) (hs : ∀ x ∈ s, x < k) (ht : ∀ x ∈ t, x < k) : ∀ a b : Nat,
    wo (List.replicate a k ++ s) (List.replicate b k ++ t) = List.replicate (a - b) k ++ wo s t
  | 0, b => by simpa using wo_skip k t s b hs
  | a + 1, 0 => by
    have ih := wo_rep k s t hs ht a 0
    rw [List.replicate_succ, List.cons_append]
    simp only [List.replicate_zero, List.nil_append] at ih ⊢
    rw [wo_keep ht, ih]
    simp [List.replicate_succ]
  | a + 1, b + 1 => by
    rw [List.replicate_succ, List.replicate_succ, List.cons_append, List.cons_append, wo_eq, wo_rep k s t hs ht a b, Nat.add_sub_add_right]
theorem wo_mem {z : Int} : ∀ (xs ys : List Int), z ∈ wo xs ys → z ∈ xs
  | [], _, h => by rw [wo] at h; exact h
  | x :: xs, ys, h => by
    rw [wo] at h
    split at h
    · exact List.mem_cons_of_mem _ (wo_mem xs _ h)
    · rcases List.mem_cons.1 h with rfl | h
      · exact List.mem_cons_self
      · exact List.mem_cons_of_mem _ (wo_mem xs _ h)
theorem wo_len : ∀ (xs ys : List Int), (wo xs ys).length ≤ xs.length
  | [], _ => by simp [wo]
  | x :: xs, ys => by
    rw [wo]
    split
    · have := wo_len xs (dropG x ys).tail; simp; omega
    · have := wo_len xs (dropG x ys); simp; omega

/-- What is gone and what is put in decide. -/
def belG (gone put : List Int) : Bool := match gone, put with
  | [], _ => false
  | _ :: _, [] => true
  | g :: _, p :: _ => decide (p < g)
theorem belG_counts : ∀ (k : Nat) (xs ys : List Int), xs.Pairwise (fun a b => b ≤ a) → ys.Pairwise (fun a b => b ≤ a) → (∀ x ∈ xs, 0 ≤ x ∧ x < k) → (∀ x ∈ ys, 0 ≤ x ∧ x < k) →
    belG (wo ys xs) (wo xs ys) = decide (cmpC xs ys k = -1) := by
  intro k
  induction k with
  | zero =>
    intro xs ys _ _ hx hy
    have h1 : xs = [] := List.eq_nil_iff_forall_not_mem.2 (fun x h => by have := hx x h; omega)
    have h2 : ys = [] := List.eq_nil_iff_forall_not_mem.2 (fun x h => by have := hy x h; omega)
    subst h1 h2
    rfl
  | succ k ih =>
    intro xs ys px py hx hy
    obtain ⟨s, e1, ps, hs⟩ := desc_split k xs px (fun x h => by have := hx x h; omega)
    obtain ⟨t, e2, pt, ht⟩ := desc_split k ys py (fun x h => by have := hy x h; omega)
    rw [cmpC]
    have h3 := ih s t ps pt hs ht
    obtain ⟨a, ha⟩ : ∃ a, a = xs.count (k : Int) := ⟨_, rfl⟩
    obtain ⟨b, hb⟩ : ∃ b, b = ys.count (k : Int) := ⟨_, rfl⟩
    rw [← ha] at e1 ⊢
    rw [← hb] at e2 ⊢
    have h4 : cmpC xs ys k = cmpC s t k := by rw [e1, e2]; exact cmpC_rep k a b s t k (Nat.le_refl _)
    rw [h4, e1, e2, wo_rep k s t (fun x h => (hs x h).2) (fun x h => (ht x h).2), wo_rep k t s (fun x h => (ht x h).2) (fun x h => (hs x h).2)]
    rcases Nat.lt_trichotomy a b with h | h | h
    · rw [if_pos h, show a - b = 0 by omega, show b - a = (b - a - 1) + 1 by omega, List.replicate_succ]
      simp only [List.replicate_zero, List.nil_append, List.cons_append]
      cases hw : wo s t with
      | nil => rfl
      | cons p q =>
        have hp := hs p (wo_mem s t (by rw [hw]; exact List.mem_cons_self))
        simp [belG]
        omega
    · subst h
      rw [if_neg (by omega), if_neg (by omega), Nat.sub_self]
      simpa using h3
    · rw [if_neg (by omega), if_pos h, show b - a = 0 by omega, show a - b = (a - b - 1) + 1 by omega, List.replicate_succ]
      simp only [List.replicate_zero, List.nil_append, List.cons_append]
      cases hw : wo t s with
      | nil => rfl
      | cons p q =>
        have hp := ht p (wo_mem t s (by rw [hw]; exact List.mem_cons_self))
        simp [belG]
        omega
theorem belG_bag {xs ys : List Int} (h1 : bagB xs = true) (h2 : bagB ys = true) : belG (wo ys xs) (wo xs ys) = decide (cmpL xs ys = -1) := by
  rw [cmpL_cmpC h1 h2]
  exact belG_counts 10 xs ys (bag_pw h1) (bag_pw h2) (bag_bnd h1) (bag_bnd h2)

/-- Whether one multiset is below another one. -/
noncomputable def bagBel (xs ys : List Int) : Bool := decide (bagCmp xs ys = -1)
theorem bagBel_1 {xs ys : List Int} (h : bagB xs = false) : bagBel xs ys = false := by rw [bagBel, bagCmp_1 h]; rfl
theorem bagBel_2 {xs ys : List Int} (h : bagB ys = false) : bagBel xs ys = false := by rw [bagBel, bagCmp_2 h]; rfl
theorem bagBel_in {xs ys : List Int} (h1 : bagB xs = true) (h2 : bagB ys = true) : bagBel xs ys = belG (wo ys xs) (wo xs ys) := by rw [bagBel, bagCmp_in h1 h2, belG_bag h1 h2]

end Go.Proofs.Ytgkcpmhgmhioiaa
