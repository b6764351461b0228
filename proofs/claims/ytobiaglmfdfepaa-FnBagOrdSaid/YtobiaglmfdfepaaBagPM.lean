/- Multisets: one more number of the least value is one more term. -/
import Derived.Test.YtobiaglmfdfepaaBagP
import Derived.Test.YtobiaglmfdfepaaAdd
namespace Go.Proofs.Ytobiaglmfdfepaa
set_option maxRecDepth 100000
namespace T

theorem cts_none {xs : List Int} : ∀ k, (∀ j : Nat, j < k → xs.count (j : Int) = 0) → cts xs k = z
  | 0, _ => rfl
  | k + 1, h => by rw [cts_skip (h k (by omega))]; exact cts_none k (fun j hj => h j (by omega))
theorem nT_gt {a b : Nat} (h : a < b) : (nT b).cmp (nT a) = 1 := by
  have h1 := nT_lt h
  have h2 := cmp_swap (nT b) (nT a)
  omega
theorem cts_put {xs ys : List Int} {t : Nat} (hlow : ∀ j : Nat, j < t → xs.count (j : Int) = 0) (hy : ∀ j : Nat, ys.count (j : Int) = xs.count (j : Int) + if j = t then 1 else 0) :
    ∀ k, t < k → add (cts xs k) (c 1 (nT t) z) = cts ys k
  | 0, h => by omega
  | k + 1, h => by
    by_cases hk : t = k
    · subst hk
      have h0 := cts_none t hlow
      have h1 := cts_none (xs := ys) t (fun j hj => by rw [hy j, hlow j hj, if_neg (by omega)])
      have hc := hy t
      rw [if_pos rfl] at hc
      rw [cts_next (xs := ys) (by omega), h1, hc]
      by_cases hx : xs.count (t : Int) = 0
      · rw [cts_skip hx, h0, hx]; rfl
      · rw [cts_next hx, h0, add]
        have hs := take_stop (e := nT t) (f := nT t) (xs.count (t : Int) : Nat) z (by rw [cmp_refl]; decide)
        rw [hs.1, hs.2, addTail, if_pos (cmp_refl _), app]
        congr 1
        omega
    · have ih := cts_put hlow hy k (by omega)
      have hc := hy k
      rw [if_neg (by omega)] at hc
      by_cases hx : xs.count (k : Int) = 0
      · rw [cts_skip hx, cts_skip (xs := ys) (by omega)]; exact ih
      · have hs := take_step (e := nT t) (f := nT k) (xs.count (k : Int) : Nat) (cts xs k) (nT_gt (by omega))
        rw [cts_next hx, cts_next (xs := ys) (by omega), hc, ← ih, add, hs.1, hs.2, add]
        rfl
/-- A number that is not greater than those before. -/
theorem cts_snoc {xs : List Int} {t : Nat} (h : ∀ x ∈ xs, (t : Int) ≤ x) (ht : t < 10) : add (cts xs 10) (c 1 (nT t) z) = cts (xs ++ [(t : Int)]) 10 := by
  refine cts_put (fun j hj => ?_) (fun j => ?_) 10 ht
  · rw [List.count_eq_zero]
    intro h9
    have := h _ h9
    omega
  · rw [List.count_append]
    by_cases hj : j = t
    · subst hj; simp
    · rw [if_neg hj, List.count_singleton, if_neg (by simp; omega)]
end T

end Go.Proofs.Ytobiaglmfdfepaa
