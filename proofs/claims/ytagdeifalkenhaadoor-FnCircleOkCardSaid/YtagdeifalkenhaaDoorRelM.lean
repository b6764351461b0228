/- Sets of points as numbers: what the operations on bits make of them. No program. -/
import Derived.WalkKit
import Derived.Laws.Bits64b
import Derived.Lib.TrailingZeros
namespace Go.Proofs.YtagdeifalkenhaaDoor
set_option maxRecDepth 100000
open Go

theorem bv_nat (a : Nat) (h : a < 9223372036854775808) : (BitVec.ofInt 64 (a : Int)).toNat = a := by
  rw [BitVec.ofInt_natCast, BitVec.toNat_ofNat]; exact Nat.mod_eq_of_lt (by omega)
theorem wrap_nat (a : Nat) (h : a < 9223372036854775808) : IntKind.i64.wrap (a : Int) = (a : Int) := by
  simp [IntKind.wrap, IntKind.bits, IntKind.signed]; omega
/-- What is in the first set and not in the second one. -/
def dif (s t : Nat) : Nat := s ^^^ (s &&& t)
theorem dif_bit (s t j : Nat) : (dif s t).testBit j = (s.testBit j && !t.testBit j) := by
  rw [dif, Nat.testBit_xor, Nat.testBit_and]
  cases s.testBit j <;> cases t.testBit j <;> rfl
theorem dif_lt {s t m : Nat} (h : s < 2 ^ m) : dif s t < 2 ^ m := Nat.xor_lt_two_pow h (by rw [Nat.and_comm]; exact Nat.and_lt_two_pow _ h)
theorem and_i64 (a b : Nat) (ha : a < 9223372036854775808) (hb : b < 9223372036854775808) : bits .and .i64 (a : Int) (b : Int) = ((a &&& b : Nat) : Int) := by
  have hx : a &&& b < 2 ^ 63 := Nat.and_lt_two_pow _ (by omega)
  show IntKind.i64.wrap ((BitVec.ofInt 64 (a : Int) &&& BitVec.ofInt 64 (b : Int)).toNat : Int) = _
  rw [BitVec.toNat_and, bv_nat a ha, bv_nat b hb, wrap_nat _ hx]
theorem or_i64 (a b : Nat) (ha : a < 9223372036854775808) (hb : b < 9223372036854775808) : bits .or .i64 (a : Int) (b : Int) = ((a ||| b : Nat) : Int) := by
  have hx : a ||| b < 2 ^ 63 := Nat.or_lt_two_pow (by omega) (by omega)
  show IntKind.i64.wrap ((BitVec.ofInt 64 (a : Int) ||| BitVec.ofInt 64 (b : Int)).toNat : Int) = _
  rw [BitVec.toNat_or, bv_nat a ha, bv_nat b hb, wrap_nat _ hx]
theorem andNot_i64 (a b : Nat) (ha : a < 9223372036854775808) (hb : b < 9223372036854775808) : bits .andNot .i64 (a : Int) (b : Int) = ((dif a b : Nat) : Int) := by
  have hx : dif a b < 2 ^ 63 := dif_lt (by omega)
  have e : (BitVec.ofInt 64 (a : Int) &&& ~~~ BitVec.ofInt 64 (b : Int)).toNat = dif a b := by
    apply Nat.eq_of_testBit_eq
    intro j
    rw [dif_bit, BitVec.testBit_toNat, BitVec.getLsbD_and, BitVec.getLsbD_not, ← BitVec.testBit_toNat, ← BitVec.testBit_toNat, bv_nat a ha, bv_nat b hb]
    by_cases hj : j < 64
    · simp [hj]
    · have : a.testBit j = false := Nat.testBit_lt_two_pow (Nat.lt_of_lt_of_le (show a < 2 ^ 63 by omega) (Nat.pow_le_pow_right (by decide) (by omega)))
      simp [this]
  show IntKind.i64.wrap ((BitVec.ofInt 64 (a : Int) &&& ~~~ BitVec.ofInt 64 (b : Int)).toNat : Int) = _
  rw [e, wrap_nat _ hx]
theorem pow_i64 (k : Nat) : ((1 : Int) * 2 ^ k) = ((2 ^ k : Nat) : Int) := by simp

/-- The points of a set, the least one first. -/
def pts (s : Nat) : List Nat := (List.range 12).filter fun k => s.testBit k
theorem bit_lt {s m k : Nat} (h : s < 2 ^ m) (hk : s.testBit k = true) : k < m := by
  rcases Nat.lt_or_ge k m with h1 | h1
  · exact h1
  · rw [Nat.testBit_lt_two_pow (Nat.lt_of_lt_of_le h (Nat.pow_le_pow_right (by decide) h1))] at hk; cases hk
theorem mem_pts {s k : Nat} (h : s < 4096) : k ∈ pts s ↔ s.testBit k = true := by
  simp only [pts, List.mem_filter, List.mem_range]
  exact ⟨And.right, fun hk => ⟨bit_lt (m := 12) h hk, hk⟩⟩
theorem pts_all' : ∀ a, a < 64 → ∀ b, b < 64 → 64 * a + b ≠ 0 → pts (64 * a + b) = Lib.ctz 64 (64 * a + b) :: pts (dif (64 * a + b) (2 ^ Lib.ctz 64 (64 * a + b))) := by decide +kernel
theorem pts_all (s : Nat) (h : s < 4096) (h0 : s ≠ 0) : pts s = Lib.ctz 64 s :: pts (dif s (2 ^ Lib.ctz 64 s)) := by
  have h1 := pts_all' (s / 64) (by omega) (s % 64) (by omega)
  have e : 64 * (s / 64) + s % 64 = s := by omega
  rw [e] at h1
  exact h1 h0
theorem pts_zero : pts 0 = [] := rfl
theorem ctz_bit {s : Nat} (h : s < 4096) (h0 : s ≠ 0) : s.testBit (Lib.ctz 64 s) = true := by
  rw [← mem_pts h, pts_all s h h0]; exact List.mem_cons_self
theorem ctz_lt {s m : Nat} (h : s < 4096) (hm : s < 2 ^ m) (h0 : s ≠ 0) : Lib.ctz 64 s < m := bit_lt hm (ctz_bit h h0)
theorem set_ext {s t : Nat} (h : ∀ k, s.testBit k = t.testBit k) : s = t := Nat.eq_of_testBit_eq h
/-- A set that is in another one is no greater number. -/
theorem or_ge (s t : Nat) : s ≤ s ||| t := Nat.left_le_or
/-- Whether a point is in a set, as the model asks it. -/
theorem bit_div (s k : Nat) : ((s : Int) / 2 ^ k) % 2 = if s.testBit k = true then 1 else 0 := by
  rw [Nat.testBit_eq_decide_div_mod_eq]
  have h : ((s : Int) / 2 ^ k) % 2 = ((s / 2 ^ k % 2 : Nat) : Int) := by simp
  rw [h]
  rcases Nat.mod_two_eq_zero_or_one (s / 2 ^ k) with h1 | h1 <;> simp [h1]
theorem add_or {a b : Nat} (h : a &&& b = 0) : a + b = a ||| b := by
  have hb : ∀ m, a < 2 ^ m → b < 2 ^ m → a + b = a ||| b := fun m ha hb' => by
    have h1 := BitVec.add_eq_or_of_and_eq_zero (BitVec.ofNat (m + 1) a) (BitVec.ofNat (m + 1) b) (by
      apply BitVec.eq_of_toNat_eq
      rw [BitVec.toNat_and, BitVec.toNat_ofNat, BitVec.toNat_ofNat, Nat.mod_eq_of_lt (by omega), Nat.mod_eq_of_lt (by omega), h]; simp)
    have h2 := congrArg BitVec.toNat h1
    rw [BitVec.toNat_add, BitVec.toNat_or, BitVec.toNat_ofNat, BitVec.toNat_ofNat, Nat.mod_eq_of_lt (a := a) (by omega), Nat.mod_eq_of_lt (a := b) (by omega), Nat.mod_eq_of_lt (by omega)] at h2
    exact h2
  have h1 := Nat.lt_two_pow_self (n := a + b)
  exact hb (a + b) (by omega) (by omega)
theorem or_bit_add {s k : Nat} (h : s.testBit k = false) : s + 2 ^ k = s ||| 2 ^ k := by
  have h1 : s &&& 2 ^ k = 0 := by
    apply Nat.eq_of_testBit_eq
    intro j
    rw [Nat.testBit_and, Nat.testBit_two_pow, Nat.zero_testBit]
    by_cases hj : k = j
    · subst hj; rw [h]; rfl
    · simp [hj]
  exact add_or (a := s) (b := 2 ^ k) h1

end Go.Proofs.YtagdeifalkenhaaDoor
