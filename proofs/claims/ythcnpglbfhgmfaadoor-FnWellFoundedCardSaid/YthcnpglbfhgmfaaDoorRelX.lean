/- Relations: who is reached in one step or more: the mathematics. No memory. -/
import Derived.Test.YthcnpglbfhgmfaaDoorRelW
namespace Go.Proofs.YthcnpglbfhgmfaaDoor
set_option maxRecDepth 100000
open Go

/-- All that walks of one to t steps reach. -/
def un (xs : List Int) (k : Nat) : Nat → Nat
  | 0 => 0
  | t + 1 => un xs k t ||| walkN xs (2 ^ k) (t + 1)
theorem un_bit (xs : List Int) (k j : Nat) : ∀ t, (un xs k t).testBit j = true ↔ ∃ i, 1 ≤ i ∧ i ≤ t ∧ (walkN xs (2 ^ k) i).testBit j = true
  | 0 => by
    rw [un, Nat.zero_testBit]
    constructor
    · intro h; cases h
    · rintro ⟨i, h1, h2, _⟩; omega
  | t + 1 => by
    rw [un, Nat.testBit_or, Bool.or_eq_true, un_bit xs k j t]
    constructor
    · rintro (⟨i, h1, h2, h3⟩ | h)
      · exact ⟨i, h1, by omega, h3⟩
      · exact ⟨t + 1, by omega, by omega, h⟩
    · rintro ⟨i, h1, h2, h3⟩
      by_cases hi : i = t + 1
      · subst hi; exact .inr h3
      · exact .inl ⟨i, h1, by omega, h3⟩
theorem un_lt {xs : List Int} (h : RelOk xs) {k : Nat} (hk : k < xs.length) : ∀ t, un xs k t < 2 ^ xs.length
  | 0 => Nat.pow_pos (by decide)
  | t + 1 => Nat.or_lt_two_pow (un_lt h hk t) (walkN_lt h (two_lt hk) _)
theorem walk_one {xs : List Int} (h : RelOk xs) {k : Nat} (hk : k < xs.length) : walkN xs (2 ^ k) 1 = rw' xs k := by
  apply set_ext
  intro b
  have h1 := step_bit (xs := xs) (s := 2 ^ k) (Nat.lt_of_lt_of_le (two_lt hk) (two_le h.1.2)) b
  have h2 : (step xs (2 ^ k)).testBit b = true ↔ (rw' xs k).testBit b = true := by
    rw [h1]
    constructor
    · rintro ⟨q, h3, h4⟩
      rw [Nat.testBit_two_pow, decide_eq_true_eq] at h3
      subst h3; exact h4
    · intro h4; exact ⟨k, by simp, h4⟩
  show (step xs (2 ^ k)).testBit b = _
  cases h3 : (step xs (2 ^ k)).testBit b <;> cases h4 : (rw' xs k).testBit b <;> simp_all
/-- One step more than what is reached is what the point leads to, and what a step more reaches. -/
theorem un_step {xs : List Int} (h : RelOk xs) {k : Nat} (hk : k < xs.length) (t b : Nat) : (un xs k (t + 1)).testBit b = true ↔ (rw' xs k).testBit b = true ∨ (step xs (un xs k t)).testBit b = true := by
  have h4 : ∀ i, un xs k i < 4096 := fun i => Nat.lt_of_lt_of_le (un_lt h hk i) (two_le h.1.2)
  have hw4 : ∀ i, walkN xs (2 ^ k) i < 4096 := fun i => Nat.lt_of_lt_of_le (walkN_lt h (two_lt hk) i) (two_le h.1.2)
  rw [un_bit, step_bit (h4 t), ← walk_one h hk]
  constructor
  · rintro ⟨i, h1, h2, h3⟩
    by_cases hi : i = 1
    · subst hi; exact .inl h3
    · obtain ⟨j, rfl⟩ : ∃ j, i = j + 1 := ⟨i - 1, by omega⟩
      obtain ⟨q, h5, h6⟩ := (step_bit (hw4 j) b).1 h3
      exact .inr ⟨q, (un_bit xs k q t).2 ⟨j, by omega, by omega, h5⟩, h6⟩
  · rintro (h3 | ⟨q, h3, h5⟩)
    · exact ⟨1, by omega, by omega, h3⟩
    · obtain ⟨i, h6, h7, h8⟩ := (un_bit xs k q t).1 h3
      exact ⟨i + 1, by omega, by omega, (step_bit (hw4 i) b).2 ⟨q, h8, h5⟩⟩
theorem un_mono (xs : List Int) (k : Nat) {s t : Nat} (hst : s ≤ t) {b : Nat} (h : (un xs k s).testBit b = true) : (un xs k t).testBit b = true := by
  obtain ⟨i, h1, h2, h3⟩ := (un_bit xs k b s).1 h
  exact (un_bit xs k b t).2 ⟨i, h1, by omega, h3⟩
theorem un_eq_of {xs : List Int} {k s t : Nat} (h : ∀ b, (un xs k s).testBit b = true ↔ (un xs k t).testBit b = true) : un xs k s = un xs k t :=
  set_ext (fun b => by have := h b; cases h1 : (un xs k s).testBit b <;> cases h2 : (un xs k t).testBit b <;> simp_all)
theorem un_stays {xs : List Int} (h : RelOk xs) {k : Nat} (hk : k < xs.length) {t : Nat} (he : un xs k (t + 1) = un xs k t) : ∀ d, un xs k (t + d) = un xs k t
  | 0 => rfl
  | d + 1 => by
    have ih := un_stays h hk he d
    rw [← he]
    exact un_eq_of (fun b => by rw [show t + (d + 1) = (t + d) + 1 by omega, un_step h hk, un_step h hk, ih])
theorem un_card {xs : List Int} (h : RelOk xs) {k : Nat} (hk : k < xs.length) : ∀ t, (∀ i, i < t → un xs k (i + 1) ≠ un xs k i) → t ≤ card (un xs k t)
  | 0, _ => Nat.zero_le _
  | t + 1, hn => by
    have ih := un_card h hk t (fun i hi => hn i (by omega))
    have hne := hn t (by omega)
    have hsub : ∀ b, (un xs k t).testBit b = true → (un xs k (t + 1)).testBit b = true := fun b hb => un_mono xs k (by omega) hb
    obtain ⟨b, hb1, hb2⟩ : ∃ b, (un xs k (t + 1)).testBit b = true ∧ (un xs k t).testBit b = false := by
      rcases Classical.em (∃ b, (un xs k (t + 1)).testBit b = true ∧ (un xs k t).testBit b = false) with h1 | h1
      · exact h1
      · refine absurd (un_eq_of (fun b => ⟨fun h2 => ?_, hsub b⟩)) hne
        cases h3 : (un xs k t).testBit b with
        | true => rfl
        | false => exact absurd ⟨b, h2, h3⟩ h1
    have h12 : b < 12 := by have := bit_lt (un_lt h hk (t + 1)) hb1; have := h.1.2; omega
    have := card_lt hsub h12 hb1 hb2
    omega
/-- After as many steps as there are points nothing new is reached. -/
theorem un_all {xs : List Int} (h : RelOk xs) {k : Nat} (hk : k < xs.length) {i b : Nat} (hi : 1 ≤ i) (hb : (walkN xs (2 ^ k) i).testBit b = true) : (un xs k xs.length).testBit b = true := by
  obtain ⟨t, ht, he⟩ : ∃ t, t ≤ xs.length ∧ un xs k (t + 1) = un xs k t := by
    rcases Classical.em (∃ t, t ≤ xs.length ∧ un xs k (t + 1) = un xs k t) with h1 | h1
    · exact h1
    · exfalso
      have h2 := un_card h hk (xs.length + 1) (fun i hi he => h1 ⟨i, by omega, he⟩)
      have h3 := card_le h.1.2 (un_lt h hk (xs.length + 1))
      omega
  have h4 := un_stays h hk he (xs.length - t)
  have h5 := un_stays h hk he (i + xs.length - t)
  rw [show t + (xs.length - t) = xs.length by omega] at h4
  rw [show t + (i + xs.length - t) = i + xs.length by omega] at h5
  rw [h4, ← h5]
  exact (un_bit xs k b _).2 ⟨i, hi, by omega, hb⟩
/-- What has what the point leads to, is closed, and has nothing that is not reached. -/
theorem un_fix {xs : List Int} (h : RelOk xs) {k : Nat} (hk : k < xs.length) {s : Nat} (hs : s < 2 ^ xs.length) (h1 : ∀ b, (rw' xs k).testBit b = true → s.testBit b = true) (h2 : s ||| step xs s = s)
    (h3 : ∀ b, s.testBit b = true → (un xs k xs.length).testBit b = true) : s = un xs k xs.length := by
  have hs4 : s < 4096 := Nat.lt_of_lt_of_le hs (two_le h.1.2)
  have hcl : ∀ b, (step xs s).testBit b = true → s.testBit b = true := fun b hb => by rw [← h2, Nat.testBit_or, hb, Bool.or_true]
  have key : ∀ i, 1 ≤ i → ∀ b, (walkN xs (2 ^ k) i).testBit b = true → s.testBit b = true := by
    intro i
    induction i with
    | zero => intro h; omega
    | succ i ih =>
      intro _ b hb
      by_cases hi : i = 0
      · subst hi
        exact h1 b (by rw [← walk_one h hk]; exact hb)
      · obtain ⟨q, h5, h6⟩ := (step_bit (Nat.lt_of_lt_of_le (walkN_lt h (two_lt hk) i) (two_le h.1.2)) b).1 hb
        exact hcl b ((step_bit hs4 b).2 ⟨q, ih (by omega) q h5, h6⟩)
  apply set_ext
  intro b
  have : s.testBit b = true ↔ (un xs k xs.length).testBit b = true := ⟨h3 b, fun h9 => by
    obtain ⟨i, h5, _, h6⟩ := (un_bit xs k b _).1 h9
    exact key i h5 b h6⟩
  cases h5 : s.testBit b <;> cases h6 : (un xs k xs.length).testBit b <;> simp_all
/-- A step from what is reached is reached. -/
theorem un_closed {xs : List Int} (h : RelOk xs) {k : Nat} (hk : k < xs.length) {s : Nat} (hs : s < 4096) (h3 : ∀ b, s.testBit b = true → (un xs k xs.length).testBit b = true) {b : Nat} (hb : (step xs s).testBit b = true) : (un xs k xs.length).testBit b = true := by
  obtain ⟨q, h5, h6⟩ := (step_bit hs b).1 hb
  obtain ⟨i, h7, _, h8⟩ := (un_bit xs k q _).1 (h3 q h5)
  exact un_all h hk (i := i + 1) (by omega) ((step_bit (Nat.lt_of_lt_of_le (walkN_lt h (two_lt hk) i) (two_le h.1.2)) b).2 ⟨q, h8, h6⟩)

/-- What is reached, as far as walks of less than t steps, and of t steps the bits below j, are seen. -/
def PartU (xs : List Int) (k t j s : Nat) : Prop :=
  s < 2 ^ xs.length ∧ ∀ b, s.testBit b = true ↔ (un xs k t).testBit b = true ∨ ((walkN xs (2 ^ k) (t + 1)).testBit b = true ∧ b < j)
theorem PartU.start {xs : List Int} (k : Nat) : PartU xs k 0 0 0 :=
  ⟨Nat.pow_pos (by decide), fun b => by
    rw [un, Nat.zero_testBit]
    constructor
    · intro h; cases h
    · rintro (h | ⟨_, h⟩)
      · cases h
      · omega⟩
theorem PartU.skip {xs : List Int} {k t j s : Nat} (h : PartU xs k t j s) (hb : (walkN xs (2 ^ k) (t + 1)).testBit j = false ∨ s.testBit j = true) : PartU xs k t (j + 1) s := by
  refine ⟨h.1, fun b => (h.2 b).trans ?_⟩
  constructor
  · exact fun h9 => h9.imp id (fun ⟨a, c⟩ => ⟨a, by omega⟩)
  · rintro (h9 | ⟨h1, h2⟩)
    · exact .inl h9
    · by_cases hbj : b = j
      · subst hbj
        rcases hb with hb | hb
        · rw [hb] at h1; cases h1
        · exact (h.2 b).1 hb
      · exact .inr ⟨h1, by omega⟩
theorem PartU.put {xs : List Int} {k t j s : Nat} (h : PartU xs k t j s) (hj : j < xs.length) (h1 : (walkN xs (2 ^ k) (t + 1)).testBit j = true) (h2 : s.testBit j = false) : PartU xs k t (j + 1) (s + 2 ^ j) := by
  rw [or_bit_add h2]
  refine ⟨Nat.or_lt_two_pow h.1 (two_lt hj), fun b => ?_⟩
  rw [Nat.testBit_or, Bool.or_eq_true, h.2 b, Nat.testBit_two_pow]
  simp only [decide_eq_true_eq]
  constructor
  · rintro ((h9 | ⟨a, c⟩) | h9)
    · exact .inl h9
    · exact .inr ⟨a, by omega⟩
    · subst h9; exact .inr ⟨h1, by omega⟩
  · rintro (h9 | ⟨a, c⟩)
    · exact .inl (.inl h9)
    · by_cases hbj : j = b
      · exact .inr hbj
      · exact .inl (.inr ⟨a, by omega⟩)
theorem PartU.next {xs : List Int} (hR : RelOk xs) {k t s : Nat} (hk : k < xs.length) (h : PartU xs k t xs.length s) : PartU xs k (t + 1) 0 s := by
  refine ⟨h.1, fun b => (h.2 b).trans ?_⟩
  rw [un, Nat.testBit_or, Bool.or_eq_true]
  constructor
  · rintro (h9 | ⟨a, _⟩)
    · exact .inl (.inl h9)
    · exact .inl (.inr a)
  · rintro ((h9 | a) | ⟨_, h9⟩)
    · exact .inl h9
    · exact .inr ⟨a, bit_lt (walkN_lt hR (two_lt hk) _) a⟩
    · omega
theorem PartU.done {xs : List Int} {k t s : Nat} (h : PartU xs k t 0 s) : s = un xs k t := by
  apply set_ext
  intro b
  have h1 := h.2 b
  have : s.testBit b = true ↔ (un xs k t).testBit b = true := by
    rw [h1]
    constructor
    · rintro (h9 | ⟨_, h9⟩)
      · exact h9
      · omega
    · exact .inl
  cases h3 : s.testBit b <;> cases h4 : (un xs k t).testBit b <;> simp_all

/-- The closed relation. -/
def closedN (xs : List Int) (k : Nat) : List Int := (List.range k).map fun k => (un xs k xs.length : Int)
theorem closedN_len (xs : List Int) (k : Nat) : (closedN xs k).length = k := by simp [closedN]
theorem closedN_snoc (xs : List Int) (k : Nat) : closedN xs (k + 1) = closedN xs k ++ [(un xs k xs.length : Int)] := by simp [closedN, List.range_succ]
theorem closedN_get (xs : List Int) {k n : Nat} (h : k < n) : (closedN xs n).getD k 0 = (un xs k xs.length : Int) := by simp [closedN, List.getD, h]
open Classical in
noncomputable def closedV (xs : List Int) : List Int := if RelOk xs then closedN xs xs.length else []
theorem closedV_in {xs : List Int} (h : RelOk xs) : closedV xs = closedN xs xs.length := by rw [closedV, if_pos h]
theorem closedV_no {xs : List Int} (h : ¬ RelOk xs) : closedV xs = [] := by rw [closedV, if_neg h]
theorem closedV_len (xs : List Int) : (closedV xs).length ≤ 1000 := by
  rcases Classical.em (RelOk xs) with h | h
  · rw [closedV_in h, closedN_len]; have := h.1.2; omega
  · rw [closedV_no h]; decide

end Go.Proofs.YthcnpglbfhgmfaaDoor
