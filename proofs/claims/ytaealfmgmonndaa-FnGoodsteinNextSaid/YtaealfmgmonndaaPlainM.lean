/- The numbers that digits are in the next base. -/
import Derived.Test.YtaealfmgmonndaaGoodN
namespace Go.Proofs.Ytaealfmgmonndaa
set_option maxRecDepth 100000
namespace T

def rd (b n : Nat) : Nat := readD (b + 1) (digs b n)
theorem rd_z (b : Nat) : rd b 0 = 0 := by rw [rd, digs_z]; rfl
theorem rd_eq {b : Nat} (hb : 2 ≤ b) (n : Nat) : rd b n = n % b + (b + 1) * rd b (n / b) := by
  rcases Nat.eq_zero_or_pos n with rfl | hn
  · rw [Nat.zero_mod, Nat.zero_div, rd_z]; rfl
  · rw [rd, digs_c hb hn]; rfl
theorem rd_lin {b : Nat} (hb : 2 ≤ b) : ∀ k n, n < b ^ (k + 1) → 2 ^ k * rd b n ≤ 3 ^ k * n := by
  intro k
  induction k with
  | zero =>
    intro n h
    have h1 : n < b := by simpa using h
    rw [rd_eq hb, Nat.div_eq_of_lt h1, rd_z, Nat.mod_eq_of_lt h1]
    simp
  | succ k ih =>
    intro n h
    have h1 := ih (n / b) ((Nat.div_lt_iff_lt_mul (by omega)).2 (by rw [← Nat.pow_succ]; exact h))
    have h2 : 2 ^ k ≤ 3 ^ k := Nat.pow_le_pow_left (by omega) k
    have h3 := Nat.div_add_mod n b
    rw [rd_eq hb]
    obtain ⟨X, hX⟩ : ∃ X, X = 2 ^ k := ⟨_, rfl⟩
    obtain ⟨Y, hY⟩ : ∃ Y, Y = 3 ^ k := ⟨_, rfl⟩
    obtain ⟨m, hm⟩ : ∃ m, m = n / b := ⟨_, rfl⟩
    obtain ⟨d, hd⟩ : ∃ d, d = n % b := ⟨_, rfl⟩
    rw [Nat.pow_succ, Nat.pow_succ, ← hX, ← hY, ← hm, ← hd]
    rw [← hX, ← hY, ← hm] at h1
    rw [← hX, ← hY] at h2
    rw [← hm, ← hd] at h3
    obtain ⟨r, hr⟩ : ∃ r, r = rd b m := ⟨_, rfl⟩
    rw [← hr] at h1 ⊢
    have h4 : X * 2 * d ≤ Y * 3 * d := Nat.mul_le_mul_right d (by omega)
    have h5 : (2 * (b + 1)) * (X * r) ≤ (3 * b) * (Y * m) := Nat.mul_le_mul (by omega) h1
    have h6 : X * 2 * ((b + 1) * r) = (2 * (b + 1)) * (X * r) := by simp only [Nat.mul_assoc, Nat.mul_comm, Nat.mul_left_comm]
    have h7 : Y * 3 * (b * m) = (3 * b) * (Y * m) := by simp only [Nat.mul_assoc, Nat.mul_comm, Nat.mul_left_comm]
    rw [← h3, Nat.mul_add, Nat.mul_add, h6, h7]
    omega
theorem rd_bound {b n : Nat} (hb : 2 ≤ b) (hn : n ≤ 1000000000) : rd b n ≤ 200000000000000 := by
  have h := rd_lin hb 29 n (big_pow hb hn)
  have h1 : 3 ^ 29 * n ≤ 3 ^ 29 * 1000000000 := Nat.mul_le_mul_left _ hn
  have h2 : (2 : Nat) ^ 29 = 536870912 := by decide
  have h3 : (3 : Nat) ^ 29 = 68630377364883 := by decide
  rw [h2] at h
  rw [h3] at h h1
  omega
theorem rd_pow {b : Nat} (hb : 2 ≤ b) : ∀ t, rd b (b ^ t) = (b + 1) ^ t := by
  intro t
  induction t with
  | zero => rw [Nat.pow_zero, Nat.pow_zero, rd_eq hb, Nat.div_eq_of_lt (by omega), rd_z, Nat.mod_eq_of_lt (by omega), Nat.mul_zero]
  | succ t ih => rw [rd_eq hb, Nat.pow_succ, Nat.mul_mod_left, Nat.mul_div_cancel _ (by omega), ih, Nat.pow_succ, Nat.mul_comm, Nat.zero_add]
theorem pow_bound {b t : Nat} (hb : 2 ≤ b) (h : b ^ t ≤ 1000000000) : (b + 1) ^ t ≤ 200000000000000 := by
  rw [← rd_pow hb]; exact rd_bound hb h
theorem mod7 : ∀ x, x < 7 → ∀ y, y < 7 → x * y % 7 = 0 → x = 0 ∨ y = 0 := by decide
theorem pow7 {B : Nat} (h : B % 7 ≠ 0) : ∀ k, B ^ k % 7 ≠ 0 := by
  intro k
  induction k with
  | zero => simp
  | succ k ih =>
    intro h1
    rw [Nat.pow_succ, Nat.mul_mod] at h1
    rcases mod7 _ (Nat.mod_lt _ (by omega)) _ (Nat.mod_lt _ (by omega)) h1 with h2 | h2
    · exact ih h2
    · exact h h2
/-- The number behind the greatest number is no power of a base. -/
theorem pow_ne {B k : Nat} (hB : B ≤ 91) : B ^ k ≠ 1000000001 := by
  intro h
  by_cases h7 : B % 7 = 0
  · obtain ⟨c, hc⟩ : ∃ c, B = 7 * c := ⟨B / 7, by omega⟩
    rcases k with _ | _ | k
    · simp at h
    · simp at h; omega
    · rw [Nat.pow_succ, Nat.pow_succ, hc] at h
      have h2 : (7 * c) ^ k * (7 * c) * (7 * c) = 49 * ((7 * c) ^ k * (c * c)) := by
        rw [show (49 : Nat) = 7 * 7 from rfl]; simp only [Nat.mul_assoc, Nat.mul_comm, Nat.mul_left_comm]
      rw [h2] at h
      omega
  · exact pow7 h7 k (by rw [h])

theorem plainI_in {b n : Nat} (h1 : 1 ≤ n) (h2 : n ≤ 1000000000) (h3 : 2 ≤ b) (h4 : b ≤ 89) : plainI (n : Int) (b : Int) = if (rd b n : Int) - 1 ≤ 1000000000 then (rd b n : Int) - 1 else -1 := by
  rw [plainI]
  show (if 1 ≤ (n : Int) ∧ (n : Int) ≤ 1000000000 ∧ 2 ≤ (b : Int) ∧ (b : Int) ≤ 89 ∧ (rd b n : Int) - 1 ≤ 1000000000 then (rd b n : Int) - 1 else -1) = _
  by_cases h : (rd b n : Int) - 1 ≤ 1000000000
  · rw [if_pos ⟨by omega, by omega, by omega, by omega, h⟩, if_pos h]
  · rw [if_neg (fun k => h k.2.2.2.2), if_neg h]
theorem plainI_out {n b : Int} (h : ¬ ((1 ≤ n ∧ n ≤ 1000000000) ∧ 2 ≤ b ∧ b ≤ 89)) : plainI n b = -1 := by
  rw [plainI, if_neg (fun k => h ⟨⟨k.1, k.2.1⟩, k.2.2.1, k.2.2.2.1⟩)]
theorem rd_step {b n t : Nat} (hb : 2 ≤ b) : rd b (n / b ^ t) = n / b ^ t % b + (b + 1) * rd b (n / b ^ (t + 1)) := by
  rw [rd_eq hb, Nat.div_div_eq_div_mul, ← Nat.pow_succ]

end T
end Go.Proofs.Ytaealfmgmonndaa
