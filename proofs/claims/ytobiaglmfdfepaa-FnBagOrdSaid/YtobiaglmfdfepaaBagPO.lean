/- Multisets are in the order of their ordinals. -/
import Derived.Test.YtobiaglmfdfepaaBagP
import Derived.Test.YtobiaglmfdfepaaSem
import Derived.Test.YtobiaglmfdfepaaPower
namespace Go.Proofs.Ytobiaglmfdfepaa
set_option maxRecDepth 100000
open Go.RowKit
namespace T

theorem cts_below {q s r : T} {m : Int} (h : ok (some q) r) : r.cmp (c m q s) = -1 := by
  cases r with
  | z => rfl
  | c n e r' =>
    have h1 := ok_c.1 h
    rw [cmp_c, if_neg (by rw [h1]; decide), h1]
theorem cts_above {q s r : T} {m : Int} (h : ok (some q) r) : (c m q s).cmp r = 1 := by
  have h1 := cts_below (m := m) (s := s) h
  have h2 := cmp_swap (c m q s) r
  omega
theorem cts_cmp (xs ys : List Int) : ∀ k, (cts xs k).cmp (cts ys k) = cmpC xs ys k
  | 0 => rfl
  | k + 1 => by
    have ih := cts_cmp xs ys k
    rw [cmpC]
    by_cases hx : xs.count (k : Int) = 0
    · rw [cts_skip hx]
      by_cases hy : ys.count (k : Int) = 0
      · rw [cts_skip hy, if_neg (by omega), if_neg (by omega)]; exact ih
      · rw [cts_next hy, if_pos (by omega)]
        exact cts_below (cts_ok xs k k (Nat.le_refl _))
    · rw [cts_next hx]
      by_cases hy : ys.count (k : Int) = 0
      · rw [cts_skip hy, if_neg (by omega), if_pos (by omega)]
        exact cts_above (cts_ok ys k k (Nat.le_refl _))
      · rw [cts_next hy, cmp_c, if_pos (cmp_refl _), ih]
        by_cases h1 : xs.count (k : Int) < ys.count (k : Int)
        · rw [if_pos h1, if_pos (by omega)]
        · rw [if_neg h1, if_neg (by omega)]
          by_cases h2 : ys.count (k : Int) < xs.count (k : Int)
          · rw [if_pos h2, if_pos (by omega)]
          · rw [if_neg h2, if_neg (by omega)]
theorem bagOrd_cmp {xs ys : List Int} (h1 : bagB xs = true) (h2 : bagB ys = true) : cmpRow (bagOrd xs) (bagOrd ys) = cmpL xs ys := by
  rw [cmpRow_val (bagOrd_vld h1) (bagOrd_vld h2), bagOrd_in h1, bagOrd_in h2, of_enc, of_enc, cts_cmp, cmpL_cmpC h1 h2]
theorem bagOrd_top {xs : List Int} (h : bagB xs = true) : cmpRow (bagOrd xs) (powRow (num' ((10 : Nat) : Int))) = -1 := by
  have h1 := nT_row (e := 10) (by omega)
  have hnl := nT_len 10
  have hnf := nT_nf (e := 10) (by omega)
  have hcl : (c 1 (nT 10) z).enc.length ≤ 60 := by simp [enc, body]; have := enc_len (nT 10); omega
  have hcn : (c 1 (nT 10) z).Nf := ⟨by decide, by decide, hnf, trivial, ok_z _⟩
  have hp : powRow (num' ((10 : Nat) : Int)) = (c 1 (nT 10) z).enc := by
    rw [powRow, h1, if_pos (vld_mk hnf (by omega)), of_enc]
    rw [fit, if_pos (vld_mk hcn hcl)]
  rw [hp, cmpRow_val (bagOrd_vld h) (vld_mk hcn hcl), bagOrd_in h, of_enc, of_enc]
  exact cts_below (cts_ok xs 10 10 (Nat.le_refl _))
theorem bagOrd_pos {xs : List Int} (h : bagB xs = true) : 0 < (bagOrd xs).length := by rw [bagOrd_in h, enc_len]; omega
end T

theorem bagL_swap : ∀ xs ys : List Int, cmpL ys xs = - cmpL xs ys
  | [], [] => rfl
  | [], _ :: _ => rfl
  | _ :: _, [] => rfl
  | x :: xs, y :: ys => by
    rcases Int.lt_trichotomy x y with h | h | h
    · rw [cmpL_lt h, cmpL_gt h]; rfl
    · subst h; rw [cmpL_eq, cmpL_eq, bagL_swap xs ys]
    · rw [cmpL_lt h, cmpL_gt h]
theorem bagCmp_cases (xs ys : List Int) : bagCmp xs ys = -2 ∨ ((bagB xs = true ∧ bagB ys = true) ∧ bagCmp xs ys = cmpL xs ys) := by
  by_cases h : bagB xs = true ∧ bagB ys = true
  · exact .inr ⟨h, bagCmp_in h.1 h.2⟩
  · exact .inl (by rw [bagCmp, if_neg h])

end Go.Proofs.Ytobiaglmfdfepaa
