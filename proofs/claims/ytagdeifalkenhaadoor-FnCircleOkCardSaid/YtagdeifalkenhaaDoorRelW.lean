/- Relations: walks of so many steps; the model's step, bit by bit: the mathematics. No memory. -/
import Derived.Test.YtagdeifalkenhaaDoorRelN
namespace Go.Proofs.YtagdeifalkenhaaDoor
set_option maxRecDepth 100000
open Go

def walkN (xs : List Int) (s : Nat) : Nat → Nat
  | 0 => s
  | t + 1 => step xs (walkN xs s t)
theorem walkN_lt {xs : List Int} (h : RelOk xs) {s : Nat} (hs : s < 2 ^ xs.length) : ∀ t, walkN xs s t < 2 ^ xs.length
  | 0 => hs
  | _ + 1 => step_lt h _
open Classical in
noncomputable def walkV (xs : List Int) (p t : Int) : Int := if RelOk xs ∧ (0 ≤ p ∧ p < xs.length) ∧ 0 ≤ t ∧ t ≤ 99 then (walkN xs (2 ^ p.toNat) t.toNat : Int) else -1
theorem walkV_no {xs : List Int} {p t : Int} (h : ¬ (RelOk xs ∧ (0 ≤ p ∧ p < xs.length) ∧ 0 ≤ t ∧ t ≤ 99)) : walkV xs p t = -1 := by rw [walkV, if_neg h]
theorem walkV_yes {xs : List Int} (p t : Nat) (h : RelOk xs) (hp : p < xs.length) (ht : t ≤ 99) : walkV xs p t = (walkN xs (2 ^ p) t : Int) := by
  rw [walkV, if_pos ⟨h, by omega, by omega⟩]; simp
theorem two_lt {p n : Nat} (h : p < n) : 2 ^ p < 2 ^ n := Nat.pow_lt_pow_right (by decide) h

/-- The step, as far as the points below k, and of k itself the bits below j, are seen. -/
def PartB (xs : List Int) (s k j nx : Nat) : Prop :=
  nx < 2 ^ xs.length ∧ ∀ b, nx.testBit b = true ↔ (∃ q, q < k ∧ s.testBit q = true ∧ (rw' xs q).testBit b = true) ∨ (s.testBit k = true ∧ (rw' xs k).testBit b = true ∧ b < j)
theorem PartB.start (xs : List Int) (s : Nat) : PartB xs s 0 0 0 := by
  refine ⟨Nat.pow_pos (by decide), fun b => ?_⟩
  rw [Nat.zero_testBit]
  constructor
  · intro h; cases h
  · rintro (⟨q, hq, _⟩ | ⟨_, _, h⟩)
    · omega
    · omega
theorem PartB.skip {xs : List Int} {s k j nx : Nat} (h : PartB xs s k j nx) (hb : s.testBit k = false ∨ (rw' xs k).testBit j = false ∨ nx.testBit j = true) : PartB xs s k (j + 1) nx := by
  refine ⟨h.1, fun b => (h.2 b).trans ?_⟩
  constructor
  · exact fun h9 => h9.imp id (fun ⟨a, b, c⟩ => ⟨a, b, by omega⟩)
  · rintro (h9 | ⟨h1, h2, h3⟩)
    · exact .inl h9
    · by_cases hbj : b = j
      · subst hbj
        rcases hb with hb | hb | hb
        · rw [hb] at h1; cases h1
        · rw [hb] at h2; cases h2
        · exact (h.2 b).1 hb
      · exact .inr ⟨h1, h2, by omega⟩
theorem PartB.put {xs : List Int} (hR : RelOk xs) {s k j nx : Nat} (h : PartB xs s k j nx) (h1 : s.testBit k = true) (h2 : (rw' xs k).testBit j = true) (h3 : nx.testBit j = false) : PartB xs s k (j + 1) (nx + 2 ^ j) := by
  have hj := hR.succ_lt h2
  rw [or_bit_add h3]
  refine ⟨Nat.or_lt_two_pow h.1 (two_lt hj), fun b => ?_⟩
  rw [Nat.testBit_or, Bool.or_eq_true, h.2 b, Nat.testBit_two_pow]
  simp only [decide_eq_true_eq]
  constructor
  · rintro ((h9 | ⟨a, b', c⟩) | h9)
    · exact .inl h9
    · exact .inr ⟨a, b', by omega⟩
    · subst h9; exact .inr ⟨h1, h2, by omega⟩
  · rintro (h9 | ⟨a, b', c⟩)
    · exact .inl (.inl h9)
    · by_cases hbj : j = b
      · exact .inr hbj
      · exact .inl (.inr ⟨a, b', by omega⟩)
theorem PartB.row {xs : List Int} (hR : RelOk xs) {s k nx : Nat} (h : PartB xs s k xs.length nx) : PartB xs s (k + 1) 0 nx := by
  refine ⟨h.1, fun b => (h.2 b).trans ?_⟩
  constructor
  · rintro (⟨q, hq, h9⟩ | ⟨h1, h2, _⟩)
    · exact .inl ⟨q, by omega, h9⟩
    · exact .inl ⟨k, by omega, h1, h2⟩
  · rintro (⟨q, hq, h1, h2⟩ | ⟨_, _, h⟩)
    · by_cases hqk : q = k
      · subst hqk; exact .inr ⟨h1, h2, hR.succ_lt h2⟩
      · exact .inl ⟨q, by omega, h1, h2⟩
    · omega
theorem PartB.done {xs : List Int} (hR : RelOk xs) {s nx : Nat} (hs : s < 2 ^ xs.length) (h : PartB xs s xs.length 0 nx) : nx = step xs s := by
  apply set_ext
  intro b
  have h1 := h.2 b
  have h2 := step_bit (xs := xs) (Nat.lt_of_lt_of_le hs (two_le hR.1.2)) b
  have : nx.testBit b = true ↔ (step xs s).testBit b = true := by
    rw [h1, h2]
    constructor
    · rintro (⟨q, _, h9⟩ | ⟨_, _, h9⟩)
      · exact ⟨q, h9⟩
      · omega
    · rintro ⟨q, h9, h8⟩
      exact .inl ⟨q, bit_lt hs h9, h9, h8⟩
  cases h3 : nx.testBit b <;> cases h4 : (step xs s).testBit b <;> simp_all

end Go.Proofs.YtagdeifalkenhaaDoor
