/- Iterations, on numbers. -/
import Derived.Test.YtbhifmjpaageeaaMark
namespace Go.Proofs.Ytbhifmjpaageeaa
set_option maxRecDepth 100000
namespace T

/-- So many times, one after the other. -/
def many (f : Nat → Option Nat) : Nat → Nat → Option Nat
  | 0, n => some n
  | k + 1, n => (f n).bind (many f k)
def iter : Nat → Nat → Option Nat
  | 0, n => if n < 90 then some (n + 1) else none
  | l + 1, n => many (iter l) n n
def optI : Option Nat → Int
  | some m => (m : Int)
  | none => -1
def iterRes (l n : Int) : Int := if (0 ≤ l ∧ l ≤ 9) ∧ 1 ≤ n ∧ n ≤ 90 then optI (iter l.toNat n.toNat) else -1

theorem many_bnd {f : Nat → Option Nat} (hf : ∀ n m, 1 ≤ n → n ≤ 90 → f n = some m → n < m ∧ m ≤ 90) : ∀ k n m, 1 ≤ n → n ≤ 90 → many f k n = some m → n + k ≤ m ∧ m ≤ 90
  | 0, n, m, h1, h2, h => by
    simp only [many, Option.some.injEq] at h
    omega
  | k + 1, n, m, h1, h2, h => by
    simp only [many] at h
    cases hd : f n with
    | none => rw [hd] at h; cases h
    | some x =>
      rw [hd] at h
      simp only [Option.bind_some] at h
      have h3 := hf n x h1 h2 hd
      have h4 := many_bnd hf k x m (by omega) h3.2 h
      omega
theorem iter_bnd : ∀ l n m, 1 ≤ n → n ≤ 90 → iter l n = some m → n < m ∧ m ≤ 90
  | 0, n, m, h1, h2, h => by
    simp only [iter] at h
    split at h
    · injection h with h; omega
    · cases h
  | l + 1, n, m, h1, h2, h => by
    have := many_bnd (iter_bnd l) n n m h1 h2 h
    omega
theorem optI_bnd {l n : Nat} (h1 : 1 ≤ n) (h2 : n ≤ 90) : optI (iter l n) = -1 ∨ ∃ m : Nat, iter l n = some m ∧ n < m ∧ m ≤ 90 := by
  cases hd : iter l n with
  | none => exact .inl rfl
  | some m => exact .inr ⟨m, rfl, iter_bnd l n m h1 h2 hd⟩
theorem iterRes_bad {l n : Int} (h : ¬ (0 ≤ l ∧ l ≤ 9) ∨ ¬ (1 ≤ n ∧ n ≤ 90)) : iterRes l n = -1 := by
  rw [iterRes, if_neg]
  rintro ⟨h1, h2⟩
  rcases h with h | h
  · exact h h1
  · exact h h2
theorem iterRes_val {l n : Nat} (h0 : l ≤ 9) (h1 : 1 ≤ n) (h2 : n ≤ 90) : iterRes l n = optI (iter l n) := by
  rw [iterRes, if_pos ⟨⟨by omega, by omega⟩, by omega, by omega⟩]; rfl

/-- Between two rounds: what was reached after some of them. -/
def manyAt (R : Option Nat) (f : Nat → Option Nat) (k : Nat) (x : Option Nat) : Prop := R = x.bind (many f k)
theorem manyAt.next {R : Option Nat} {f : Nat → Option Nat} {k m : Nat} (h : manyAt R f (k + 1) (some m)) : manyAt R f k (f m) := by
  unfold manyAt at *
  rw [h]; rfl
theorem manyAt.none {R : Option Nat} {f : Nat → Option Nat} {k : Nat} (h : manyAt R f k none) : R = none := h
theorem manyAt.done {R : Option Nat} {f : Nat → Option Nat} {x : Option Nat} (h : manyAt R f 0 x) : R = x := by
  unfold manyAt at h
  rw [h]
  cases x <;> rfl
theorem manyAt.start {f : Nat → Option Nat} {k n : Nat} : manyAt (many f k n) f k (some n) := rfl

end T
end Go.Proofs.Ytbhifmjpaageeaa
