/- The closed relation: it is one, stays closed, and has the same ranks. No memory. -/
import Derived.Test.YthcnpglbfhgmfaaDoorRelX
namespace Go.Proofs.YthcnpglbfhgmfaaDoor
set_option maxRecDepth 100000
open Go

def Rch (xs : List Int) (k j : Nat) : Prop := ∃ i, 1 ≤ i ∧ (walkN xs (2 ^ k) i).testBit j = true
theorem rch_un {xs : List Int} (h : RelOk xs) {k : Nat} (hk : k < xs.length) (j : Nat) : (un xs k xs.length).testBit j = true ↔ Rch xs k j := by
  constructor
  · intro h9
    obtain ⟨i, h1, _, h3⟩ := (un_bit xs k j _).1 h9
    exact ⟨i, h1, h3⟩
  · rintro ⟨i, h1, h3⟩
    exact un_all h hk h1 h3
theorem rch_one {xs : List Int} (h : RelOk xs) {k j : Nat} (hk : k < xs.length) (hj : (rw' xs k).testBit j = true) : Rch xs k j := ⟨1, Nat.le_refl _, by rw [walk_one h hk]; exact hj⟩
theorem rch_step {xs : List Int} (h : RelOk xs) {k q j : Nat} (hk : k < xs.length) (hq : Rch xs k q) (hj : (rw' xs q).testBit j = true) : Rch xs k j := by
  obtain ⟨i, h1, h2⟩ := hq
  exact ⟨i + 1, by omega, (step_bit (Nat.lt_of_lt_of_le (walkN_lt h (two_lt hk) i) (two_le h.1.2)) j).2 ⟨q, h2, hj⟩⟩
theorem rch_ind {xs : List Int} (h : RelOk xs) {k : Nat} (hk : k < xs.length) {Q : Nat → Prop} (h1 : ∀ j, (rw' xs k).testBit j = true → Q j) (h2 : ∀ q j, Q q → (rw' xs q).testBit j = true → Q j) {j : Nat} (hj : Rch xs k j) : Q j := by
  obtain ⟨i, hi, hb⟩ := hj
  induction i generalizing j with
  | zero => omega
  | succ i ih =>
    by_cases h0 : i = 0
    · subst h0
      exact h1 j (by rw [← walk_one h hk]; exact hb)
    · obtain ⟨q, h5, h6⟩ := (step_bit (Nat.lt_of_lt_of_le (walkN_lt h (two_lt hk) i) (two_le h.1.2)) j).1 hb
      exact h2 q j (ih (by omega) h5) h6
theorem rch_lt {xs : List Int} (h : RelOk xs) {k j : Nat} (hk : k < xs.length) (hj : Rch xs k j) : j < xs.length := bit_lt (un_lt h hk _) ((rch_un h hk j).2 hj)
theorem rch_trans {xs : List Int} (h : RelOk xs) {k q j : Nat} (hk : k < xs.length) (h1 : Rch xs k q) (h2 : Rch xs q j) : Rch xs k j :=
  rch_ind h (rch_lt h hk h1) (Q := Rch xs k) (fun _ hb => rch_step h hk h1 hb) (fun _ _ h3 hb => rch_step h hk h3 hb) h2

theorem closed_len {xs : List Int} (h : RelOk xs) : (closedV xs).length = xs.length := by rw [closedV_in h, closedN_len]
theorem closed_row {xs : List Int} (h : RelOk xs) {k : Nat} (hk : k < xs.length) : rw' (closedV xs) k = un xs k xs.length := by
  rw [rw', closedV_in h, closedN_get xs hk]; rfl
theorem closed_bit {xs : List Int} (h : RelOk xs) {k : Nat} (hk : k < xs.length) (j : Nat) : (rw' (closedV xs) k).testBit j = true ↔ Rch xs k j := by
  rw [closed_row h hk]; exact rch_un h hk j
theorem closed_ok {xs : List Int} (h : RelOk xs) : RelOk (closedV xs) := by
  refine ⟨by rw [closed_len h]; exact h.1, fun x hx => ?_⟩
  rw [closed_len h]
  rw [closedV_in h, closedN] at hx
  obtain ⟨k, hk, rfl⟩ := List.mem_map.1 hx
  have h1 := un_lt h (List.mem_range.1 hk) xs.length
  have h3 : ((2 ^ xs.length : Nat) : Int) = 2 ^ xs.length := by simp
  omega
theorem closed_more {xs : List Int} (h : RelOk xs) {k j : Nat} (hk : k < xs.length) (hj : (rw' xs k).testBit j = true) : (rw' (closedV xs) k).testBit j = true := (closed_bit h hk j).2 (rch_one h hk hj)
theorem closed_twice {xs : List Int} (h : RelOk xs) : closedV (closedV xs) = closedV xs := by
  have hy := closed_ok h
  have hl := closed_len h
  have key : ∀ k, k < xs.length → un (closedV xs) k xs.length = un xs k xs.length := fun k hk => by
    apply set_ext
    intro b
    have h1 : (un (closedV xs) k xs.length).testBit b = true ↔ (un xs k xs.length).testBit b = true := by
      have h2 := rch_un hy (k := k) (by rw [hl]; exact hk) b
      rw [hl] at h2
      rw [h2, rch_un h hk]
      constructor
      · refine fun h9 => (rch_ind hy (by rw [hl]; exact hk) (Q := fun j => j < xs.length ∧ Rch xs k j) (fun j hj => ?_) (fun q j hq hj => ?_) h9).2
        · have h5 := (closed_bit h hk j).1 hj
          exact ⟨rch_lt h hk h5, h5⟩
        · have h5 := (closed_bit h hq.1 j).1 hj
          exact ⟨rch_lt h hq.1 h5, rch_trans h hk hq.2 h5⟩
      · exact fun h9 => rch_one hy (by rw [hl]; exact hk) ((closed_bit h hk b).2 h9)
    cases h3 : (un (closedV xs) k xs.length).testBit b <;> cases h4 : (un xs k xs.length).testBit b <;> simp_all
  rw [closedV_in hy, hl, closedN, hl]
  rw [show closedV xs = closedN xs xs.length from closedV_in h] at key ⊢
  rw [closedN]
  apply List.map_congr_left
  intro k hk
  have := key k (List.mem_range.1 hk)
  rw [closedN] at this
  rw [this]
theorem closed_ranks {xs : List Int} (h : RelOk xs) : ranks (closedV xs) = ranks xs := by
  have hy := closed_ok h
  have hl := closed_len h
  obtain ⟨h1, h2, _⟩ := ranks_spec h
  refine (ranks_eq hy (by rw [h1, hl]) ?_).symm
  intro p hp
  rw [hl] at hp
  rcases h2 p hp with ⟨a, q, hq, b⟩ | ⟨a, b, c⟩
  · exact .inl ⟨a, q, closed_more h hp hq, b⟩
  · refine .inr ⟨a, fun q hq => ?_, c.imp id (fun ⟨q, hq, he⟩ => ⟨q, closed_more h hp hq, he⟩)⟩
    have h5 := (closed_bit h hp q).1 hq
    refine (rch_ind h hp (Q := fun j => j < xs.length ∧ (0 ≤ (ranks xs).getD j 0 ∧ (ranks xs).getD j 0 < (ranks xs).getD p 0)) (fun j hj => ⟨h.succ_lt hj, b j hj⟩) (fun u j hu hj => ⟨h.succ_lt hj, ?_⟩) h5).2
    rcases h2 u hu.1 with ⟨e, _⟩ | ⟨_, e, _⟩
    · have e' : (ranks xs).getD u 0 = -1 := e
      have := hu.2.1
      omega
    · have h6 := e j hj
      have h7 : 0 ≤ (ranks xs).getD j 0 ∧ (ranks xs).getD j 0 < (ranks xs).getD u 0 := h6
      exact ⟨h7.1, by have := hu.2.2; omega⟩

end Go.Proofs.YthcnpglbfhgmfaaDoor
