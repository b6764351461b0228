/- Multisets: their ordinals, on trees. -/
import Derived.Test.YtgkcpmhgmhioiaaBagB
import Derived.Test.YtgkcpmhgmhioiaaFn1
namespace Go.Proofs.Ytgkcpmhgmhioiaa
set_option maxRecDepth 100000
open Go.RowKit

namespace T
/-- The ordinal of a number. -/
def nT (e : Nat) : T := if e = 0 then z else c (e : Int) z z
theorem nT_len (e : Nat) : (nT e).enc.length ≤ 3 := by unfold nT; split <;> simp [enc, body]
theorem nT_row {e : Nat} (h : e ≤ 9999) : num' (e : Int) = (nT e).enc := by
  rw [num', if_neg (by omega), nT]
  by_cases h0 : e = 0
  · rw [if_pos (by omega), if_pos h0]; rfl
  · rw [if_neg (by omega), if_neg h0]; rfl
theorem nT_nf {e : Nat} (h : e ≤ 9999) : (nT e).Nf := by
  unfold nT
  split
  · trivial
  · exact ⟨by omega, by omega, trivial, trivial, ok_z _⟩
theorem nT_lt {a b : Nat} (h : a < b) : (nT a).cmp (nT b) = -1 := by
  unfold nT
  rw [if_neg (show ¬ b = 0 by omega)]
  split
  · rfl
  · rw [cmp_c, if_pos (cmp_refl _), if_pos (by omega)]
/-- The terms of the numbers less than a number, each as often as it is there. -/
def cts (xs : List Int) : Nat → T
  | 0 => z
  | k + 1 => if xs.count (k : Int) = 0 then cts xs k else c (xs.count (k : Int) : Nat) (nT k) (cts xs k)
theorem cts_skip {xs : List Int} {k : Nat} (h : xs.count (k : Int) = 0) : cts xs (k + 1) = cts xs k := by rw [cts, if_pos h]
theorem cts_next {xs : List Int} {k : Nat} (h : xs.count (k : Int) ≠ 0) : cts xs (k + 1) = c (xs.count (k : Int) : Nat) (nT k) (cts xs k) := by rw [cts, if_neg h]
theorem cts_ok (xs : List Int) : ∀ k j, k ≤ j → ok (some (nT j)) (cts xs k)
  | 0, _, _ => ok_z _
  | k + 1, j, hj => by
    by_cases h : xs.count (k : Int) = 0
    · rw [cts_skip h]; exact cts_ok xs k j (by omega)
    · rw [cts_next h]; exact ok_c.2 (nT_lt (by omega))
theorem cts_nf {xs : List Int} (hl : xs.length ≤ 9999) : ∀ k, k ≤ 9999 → (cts xs k).Nf
  | 0, _ => trivial
  | k + 1, hk => by
    have ih := cts_nf hl k (by omega)
    by_cases h : xs.count (k : Int) = 0
    · rw [cts_skip h]; exact ih
    · have h2 := List.count_le_length (a := (k : Int)) (l := xs)
      rw [cts_next h]
      exact ⟨by omega, by omega, nT_nf (by omega), ih, cts_ok xs k k (Nat.le_refl _)⟩
theorem cts_cnt (xs : List Int) : ∀ k, (cts xs k).cnt ≤ k
  | 0 => Nat.le_refl _
  | k + 1 => by
    have ih := cts_cnt xs k
    by_cases h : xs.count (k : Int) = 0
    · rw [cts_skip h]; omega
    · rw [cts_next h, cnt]; omega
theorem cts_blen (xs : List Int) : ∀ k, (cts xs k).body.length ≤ 4 * k
  | 0 => Nat.le_refl _
  | k + 1 => by
    have ih := cts_blen xs k
    by_cases h : xs.count (k : Int) = 0
    · rw [cts_skip h]; omega
    · have h1 := nT_len k
      have h2 := enc_len (nT k)
      rw [cts_next h, body]
      simp
      omega
theorem cts_len (xs : List Int) (k : Nat) : (cts xs k).enc.length ≤ 1 + 4 * k := by
  have h1 := cts_blen xs k
  have h2 := enc_len (cts xs k)
  omega
/-- The ordinal of a multiset. -/
noncomputable def bagOrd (xs : List Int) : List Int := if bagB xs = true then (cts xs 10).enc else []
theorem bagOrd_in {xs : List Int} (h : bagB xs = true) : bagOrd xs = (cts xs 10).enc := by rw [bagOrd, if_pos h]
theorem bagOrd_out {xs : List Int} (h : bagB xs = false) : bagOrd xs = [] := by rw [bagOrd, if_neg (by rw [h]; simp)]
theorem bagOrd_len (xs : List Int) : (bagOrd xs).length ≤ 41 := by
  rcases bag_tf xs with h | h
  · have h1 := cts_len xs 10
    rw [bagOrd_in h]
    omega
  · rw [bagOrd_out h]; decide
theorem bagOrd_vld {xs : List Int} (h : bagB xs = true) : vldB (bagOrd xs) = true := by
  have h1 := (itemsB_true.1 (bagB_true.1 h).1).1
  have h3 := cts_len xs 10
  rw [bagOrd_in h]
  exact vld_mk (cts_nf (by omega) 10 (by omega)) (by omega)
end T

end Go.Proofs.Ytgkcpmhgmhioiaa
