/- Relations: a rank is the length of the longest walk. No memory. -/
import Derived.Test.YtagdeifalkenhaaDoorRelW
namespace Go.Proofs.YtagdeifalkenhaaDoor
set_option maxRecDepth 100000
open Go

theorem bit_ne {s j : Nat} (h : s.testBit j = true) : s ≠ 0 := fun h0 => by rw [h0, Nat.zero_testBit] at h; cases h
theorem walk_front (xs : List Int) (s : Nat) : ∀ t, walkN xs s (t + 1) = walkN xs (step xs s) t
  | 0 => rfl
  | t + 1 => by rw [walkN, walk_front xs s t, walkN]
theorem walk_bit {xs : List Int} (h : RelOk xs) {s : Nat} (hs : s < 2 ^ xs.length) (j : Nat) : ∀ t, ((walkN xs s t).testBit j = true ↔ ∃ p, s.testBit p = true ∧ (walkN xs (2 ^ p) t).testBit j = true) := by
  intro t
  induction t generalizing j with
  | zero =>
    constructor
    · exact fun h9 => ⟨j, h9, by rw [walkN, Nat.testBit_two_pow]; simp⟩
    · rintro ⟨p, h1, h2⟩
      rw [walkN, Nat.testBit_two_pow] at h2
      have : p = j := by simpa using h2
      subst this
      exact h1
  | succ t ih =>
    have h4 := two_le h.1.2
    have hlt := walkN_lt h hs t
    rw [walkN, step_bit (by omega)]
    constructor
    · rintro ⟨k, h1, h2⟩
      obtain ⟨p, h3, h5⟩ := (ih k).1 h1
      have hp := walkN_lt h (two_lt (bit_lt hs h3)) t
      exact ⟨p, h3, by rw [walkN, step_bit (by omega)]; exact ⟨k, h5, h2⟩⟩
    · rintro ⟨p, h3, h5⟩
      have hp := walkN_lt h (two_lt (bit_lt hs h3)) t
      rw [walkN, step_bit (by omega)] at h5
      obtain ⟨k, h6, h7⟩ := h5
      exact ⟨k, (ih k).2 ⟨p, h3, h6⟩, h7⟩
theorem walk_next {xs : List Int} (h : RelOk xs) {p : Nat} (hp : p < xs.length) (t : Nat) : walkN xs (2 ^ p) (t + 1) ≠ 0 ↔ ∃ q, (rw' xs p).testBit q = true ∧ walkN xs (2 ^ q) t ≠ 0 := by
  have h4 := two_le h.1.2
  have h5 := two_lt hp
  have hsl := step_lt h (2 ^ p)
  have hst : ∀ q, (step xs (2 ^ p)).testBit q = true ↔ (rw' xs p).testBit q = true := fun q => by
    rw [step_bit (by omega)]
    constructor
    · rintro ⟨k, h1, h2⟩
      rw [Nat.testBit_two_pow] at h1
      have : p = k := by simpa using h1
      subst this
      exact h2
    · exact fun h2 => ⟨p, by rw [Nat.testBit_two_pow]; simp, h2⟩
  rw [walk_front]
  constructor
  · intro h9
    obtain ⟨j, hj⟩ := ne_zero h9
    obtain ⟨q, h6, h7⟩ := (walk_bit h hsl j t).1 hj
    exact ⟨q, (hst q).1 h6, bit_ne h7⟩
  · rintro ⟨q, h6, h7⟩
    obtain ⟨j, hj⟩ := ne_zero h7
    exact bit_ne ((walk_bit h hsl j t).2 ⟨q, (hst q).2 h6, hj⟩)
theorem rank_long {xs : List Int} (h : RelOk xs) {f : Nat → Int} (hf : IsRank xs f) : ∀ (t p : Nat), p < xs.length → f p = -1 → walkN xs (2 ^ p) t ≠ 0
  | 0, p, _, _ => by have := Nat.pow_pos (n := p) (show 0 < 2 by decide); rw [walkN]; omega
  | t + 1, p, hp, h1 => by
    rcases hf p hp with ⟨_, q, hq, hfq⟩ | ⟨h2, _⟩
    · exact (walk_next h hp t).2 ⟨q, hq, rank_long h hf t q (h.succ_lt hq) hfq⟩
    · omega
theorem rank_walk {xs : List Int} (h : RelOk xs) {f : Nat → Int} (hf : IsRank xs f) : ∀ (t p : Nat), p < xs.length → 0 ≤ f p → (walkN xs (2 ^ p) t ≠ 0 ↔ (t : Int) ≤ f p)
  | 0, p, _, h0 => by
    have := Nat.pow_pos (n := p) (show 0 < 2 by decide)
    rw [walkN]
    exact ⟨fun _ => by simpa using h0, fun _ => by omega⟩
  | t + 1, p, hp, h0 => by
    rw [walk_next h hp]
    rcases hf p hp with ⟨h1, _⟩ | ⟨_, h2, h3⟩
    · omega
    · constructor
      · rintro ⟨q, hq, hw⟩
        have h4 := h2 q hq
        have := (rank_walk h hf t q (h.succ_lt hq) h4.1).1 hw
        omega
      · intro h9
        rcases h3 with h3 | ⟨q, hq, h3⟩
        · omega
        · exact ⟨q, hq, (rank_walk h hf t q (h.succ_lt hq) (h2 q hq).1).2 (by omega)⟩
theorem rank_low {xs : List Int} (h : RelOk xs) {p : Nat} (hp : p < xs.length) {k : Int} (hk : (ranks xs).getD p 0 = k) (h0 : k < 0) : k = -1 ∧ 0 < walkV xs p 99 := by
  have hr := (ranks_spec h).2.1
  have h1 : (ranks xs).getD p 0 = -1 := by
    rcases hr p hp with ⟨h1, _⟩ | ⟨h1, _⟩
    · exact h1
    · have h2 : 0 ≤ (ranks xs).getD p 0 := h1
      omega
  have h2 := rank_long h hr 99 p hp h1
  rw [show walkV xs p 99 = walkV xs p (99 : Nat) from rfl, walkV_yes p 99 h hp (by decide)]
  exact ⟨by omega, by omega⟩
theorem rank_high {xs : List Int} (h : RelOk xs) {p : Nat} (hp : p < xs.length) {k : Int} (hk : (ranks xs).getD p 0 = k) (h0 : 0 ≤ k) : k ≤ 11 ∧ 0 < walkV xs p k ∧ walkV xs p (k + 1) = 0 := by
  have hr := (ranks_spec h).2.1
  have h9 := (ranks_spec h).2.2 p hp
  have h12 := h.1.2
  obtain ⟨r, rfl⟩ := Int.eq_ofNat_of_zero_le h0
  have hge : (0 : Int) ≤ (ranks xs).getD p 0 := by omega
  have h1 := (rank_walk h hr r p hp hge).2 (by show (r : Int) ≤ (ranks xs).getD p 0; omega)
  have h2 : walkN xs (2 ^ p) (r + 1) = 0 := by
    refine Classical.byContradiction (fun h9' => ?_)
    have h3 : ((r + 1 : Nat) : Int) ≤ (ranks xs).getD p 0 := (rank_walk h hr (r + 1) p hp hge).1 h9'
    omega
  rw [show (r : Int) + 1 = ((r + 1 : Nat) : Int) from rfl, walkV_yes p r h hp (by omega), walkV_yes p (r + 1) h hp (by omega), h2]
  exact ⟨by omega, by omega, rfl⟩

end Go.Proofs.YtagdeifalkenhaaDoor
