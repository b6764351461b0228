/- What the laws of the third chapter say, on rows. -/
import Derived.Test.YthalogciiochfaaStepsD
namespace Go.Proofs.Ythalogciiochfaa
set_option maxRecDepth 100000
namespace T

theorem mostRow_bad {xs : List Int} (h : vldB xs = false) : mostRow xs = -1 := by rw [mostRow, if_neg (by rw [h]; decide)]
theorem mostRow_val {xs : List Int} (h : vldB xs = true) : mostRow xs = (of xs).most := by rw [mostRow, if_pos h]
theorem mostRow_ok {xs : List Int} (h : vldB xs = true) : 0 ≤ mostRow xs ∧ mostRow xs ≤ 9999 := by
  rw [mostRow_val h]
  exact ⟨most_nonneg _, most_le (nf_of h)⟩
theorem mostRow_bnd (xs : List Int) : -1 ≤ mostRow xs ∧ mostRow xs ≤ 9999 := by
  cases h : vldB xs with
  | false => rw [mostRow_bad h]; omega
  | true => have := mostRow_ok h; omega
theorem mostRow_cases {xs : List Int} (h : vldB xs = true) : (xs = [0] ∧ mostRow xs = 0) ∨ ∃ k m ys, xs = k :: m :: ys ∧ 1 ≤ ys.length ∧ 1 ≤ mostRow xs ∧ m ≤ mostRow xs := by
  have h1 := mostRow_val h
  have h2 := nf_of h
  have h3 := enc_of h
  cases ht : of xs with
  | z =>
    rw [ht] at h1 h3
    exact .inl ⟨h3.symm, h1⟩
  | c n e r =>
    rw [ht] at h1 h2 h3
    have h4 := h2.1
    refine .inr ⟨((c n e r).cnt : Int), n, e.enc ++ r.body, by rw [← h3]; simp [enc, body], by simp [enc], ?_, ?_⟩
    · rw [h1]; simp only [most]; omega
    · rw [h1]; simp only [most]; omega
theorem mostRow_nat {xs zs : List Int} (h : natOk xs zs = true) : mostRow (natRow xs zs) ≤ mostRow xs + mostRow zs := by
  obtain ⟨h1, h2, h3, h4⟩ := natOk_true h
  rw [mostRow_val h1, mostRow_val h2, mostRow_val h3, h4]
  exact nat_most _ _

theorem stepOk_true {xs : List Int} {n : Int} (h : stepOk xs n = true) : vldB xs = true ∧ 0 ≤ n ∧ n ≤ 99 ∧ vldB (stepRow xs n) = true ∧ of (stepRow xs n) = (of xs).step n := by
  have h0 := h
  rw [stepOk, Bool.and_eq_true, Bool.and_eq_true, decide_eq_true_eq] at h
  obtain ⟨h1, ⟨h2, h3⟩, h4⟩ := h
  have h5 : stepRow xs n = ((of xs).step n).enc := by rw [stepRow, if_pos ⟨h1, h2, h3⟩, fit, if_pos h4]
  exact ⟨h1, h2, h3, by rw [h5]; exact h4, by rw [h5, of_enc]⟩
theorem stepOk_false {xs : List Int} {n : Int} (h : stepOk xs n = false) : stepRow xs n = [] := by
  rw [stepRow]
  split
  · rename_i h2
    rw [stepOk, h2.1, decide_eq_true h2.2] at h
    rw [fit, if_neg]
    intro h3
    rw [h3] at h
    cases h
  · rfl
theorem stepRow_zero {n : Int} (h : stepOk [0] n = true) : stepRow [0] n = [0] := by
  obtain ⟨h1, h2, h3, h4, h5⟩ := stepOk_true h
  rw [show ([0] : List Int) = (z : T).enc from rfl, of_enc] at h5
  rw [← enc_of h4]
  rw [show ([0] : List Int) = (z : T).enc from rfl, h5]
  rfl
theorem of_ne {xs : List Int} (h : vldB xs = true) (hz : xs ≠ [0]) : of xs ≠ z := by
  intro h1
  exact hz (by rw [← enc_of h, h1]; rfl)
theorem stepRow_lt {xs : List Int} {n : Int} (h : stepOk xs n = true) (hz : xs ≠ [0]) : cmpRow (stepRow xs n) xs = -1 := by
  obtain ⟨h1, h2, h3, h4, h5⟩ := stepOk_true h
  rw [cmpRow_val h4 h1, h5]
  exact step_lt n (of_ne h1 hz)
theorem kindRow_val {xs : List Int} (h : vldB xs = true) : kindRow xs = (of xs).kind := by rw [kindRow, if_pos h]
theorem stepRow_mono {xs : List Int} {n : Int} (h : stepOk xs n = true) (h' : stepOk xs (n + 1) = true) (hk : kindRow xs = 2) : cmpRow (stepRow xs n) (stepRow xs (n + 1)) = -1 := by
  obtain ⟨h1, h2, h3, h4, h5⟩ := stepOk_true h
  obtain ⟨_, _, _, k4, k5⟩ := stepOk_true h'
  rw [cmpRow_val h4 k4, h5, k5]
  exact step_mono h2 (by rw [← kindRow_val h1]; exact hk)
theorem stepRow_over {xs zs : List Int} {n : Int} (h : stepOk xs n = true) (hk : kindRow xs = 2) (hz : vldB zs = true) (hm : mostRow zs < n) (hc : cmpRow zs xs = -1) : cmpRow zs (stepRow xs n) = -1 := by
  obtain ⟨h1, h2, h3, h4, h5⟩ := stepOk_true h
  rw [cmpRow_val hz h1] at hc
  rw [cmpRow_val hz h4, h5]
  have h6 := mostRow_ok hz
  rw [mostRow_val hz] at hm h6
  exact step_over (by omega) (nf_of h1) (by rw [← kindRow_val h1]; exact hk) _ (nf_of hz) hm hc

/-- SlowValue, where there is one. -/
theorem slowRow_vals (xs : List Int) (n : Int) : slowRow xs n = -1 ∨ 0 ≤ slowRow xs n ∧ slowRow xs n ≤ 1000000000 := by
  rw [slowRow]
  split
  · rw [slowI]
    split
    · right; omega
    · left; rfl
  · left; rfl
theorem slowRow_some {xs : List Int} {n : Int} (h : 0 ≤ slowRow xs n) : vldB xs = true ∧ 1 ≤ n ∧ n ≤ 99 ∧ (of xs).slow n.toNat ≤ 1000000000 ∧ slowRow xs n = ((of xs).slow n.toNat : Int) := by
  rw [slowRow] at h ⊢
  split at h
  · rename_i h2
    rw [if_pos h2]
    rw [slowI] at h ⊢
    split at h
    · rename_i h3
      rw [if_pos h3]
      exact ⟨h2.1, h2.2.1, h2.2.2, h3, rfl⟩
    · omega
  · omega
theorem slowRow_kind {xs : List Int} {n : Int} (h : 0 ≤ slowRow xs n) : (kindRow xs = 0 ∧ slowRow xs n = 0) ∨ ((kindRow xs = 1 ∨ kindRow xs = 2) ∧ 1 ≤ slowRow xs n) := by
  obtain ⟨h1, h2, h3, h4, h5⟩ := slowRow_some h
  rw [kindRow_val h1, h5]
  rcases kind_vals (of xs) with ⟨k1, k2⟩ | ⟨k1, k2⟩
  · left; rw [k2]; exact ⟨rfl, rfl⟩
  · right
    have h6 := slow_pos (k := n.toNat) (by omega) (nf_of h1) k2
    exact ⟨k1, by omega⟩
theorem slowRow_step {xs : List Int} {n : Int} (h : 0 ≤ slowRow xs n) (ho : stepOk xs n = true) : (kindRow xs = 1 → slowRow (stepRow xs n) n = slowRow xs n - 1) ∧ (kindRow xs = 2 → slowRow (stepRow xs n) n = slowRow xs n) := by
  obtain ⟨h1, h2, h3, h4, h5⟩ := slowRow_some h
  obtain ⟨_, _, _, k4, k5⟩ := stepOk_true ho
  have hn : ((n.toNat : Nat) : Int) = n := by omega
  obtain ⟨j1, j2⟩ := slow_step (k := n.toNat) (by omega) (nf_of h1)
  rw [hn] at j1 j2
  rw [kindRow_val h1, h5]
  refine ⟨fun hk => ?_, fun hk => ?_⟩
  · have := j1 hk
    rw [slowRow, if_pos ⟨k4, h2, h3⟩, k5, slowI, if_pos (by omega)]
    omega
  · have := j2 hk
    rw [slowRow, if_pos ⟨k4, h2, h3⟩, k5, slowI, if_pos (by omega)]
    omega

end T
end Go.Proofs.Ythalogciiochfaa
