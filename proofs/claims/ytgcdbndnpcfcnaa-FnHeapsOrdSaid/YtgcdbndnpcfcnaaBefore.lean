/- OrdBefore of the program; OrdDepth of the program. -/
import Derived.Test.YtgcdbndnpcfcnaaNext
namespace Go.Proofs.Ytgcdbndnpcfcnaa
set_option maxRecDepth 100000
open Go.RowKit

theorem TC.front {w : World} {d r : T} {cs : List Value} (h : TC w (d.app r) cs) : TC w d (cs.take (2 * d.cnt)) := by
  induction d generalizing cs with
  | z => simp [T.cnt, TC]
  | c k f q _ ih =>
    obtain ⟨b, off, cap, cs', rfl, h1, h2, h3, h4⟩ := h
    refine ⟨b, off, cap, cs'.take (2 * q.cnt), ?_, h1, h2, h3, ih h4⟩
    rw [show 2 * (T.c k f q).cnt = 2 * q.cnt + 2 by simp [T.cnt]; omega]
    rfl

theorem kind_row {xs : List Int} (h : T.kindRow xs = 1) : T.vldB xs = true ∧ (T.of xs).kind = 1 := by
  unfold T.kindRow at h
  split at h
  · rename_i hv; exact ⟨hv, h⟩
  · omega

theorem kindRow_vals (xs : List Int) : T.kindRow xs = -1 ∨ T.kindRow xs = 0 ∨ T.kindRow xs = 1 ∨ T.kindRow xs = 2 := by
  unfold T.kindRow
  split
  · right
    rcases Nat.eq_zero_or_pos (T.of xs).cnt with h | h
    · rw [T.cnt_zero h]; left; rfl
    · obtain ⟨d, n, e, h1, _⟩ := T.last_of _ h
      rw [h1, T.kind_app]
      split <;> simp
  · left; rfl

theorem bef_bad {xs : List Int} (h : ¬ T.kindRow xs = 1) : T.befRow xs = [] ∧ T.befOk xs = false := by
  have h2 : ¬ (T.vldB xs = true ∧ (T.of xs).kind = 1) := by
    rintro ⟨h3, h4⟩
    exact h (by rw [T.kindRow, if_pos h3, h4])
  refine ⟨by rw [T.befRow, if_neg h2], ?_⟩
  rw [T.befOk]
  cases hv : T.vldB xs with
  | false => rfl
  | true => simp; intro hk; exact h2 ⟨hv, hk⟩

/-- The front of a row is a row. -/
theorem own_take {w : World} {B e n size g cap k : Nat} {xs : List Value} (h : w.ownsRow B e size (.slice (some ⟨g, 0, none⟩) n cap) n xs) (hk : k ≤ n) :
    w.ownsRow B e size (.slice (some ⟨g, 0, none⟩) k cap) k (xs.take (k * size)) := by
  have hl : k * size ≤ n * size := Nat.mul_le_mul_right _ hk
  refine ⟨by rw [List.length_take, h.1]; omega, ?_⟩
  rcases h.2 with ⟨h1, _⟩ | ⟨g', cap', cur, h1, h2, h3, h4, h5, h6, h7⟩
  · simp at h1
  · simp at h1
    obtain ⟨rfl, rfl⟩ := h1
    refine .inr ⟨g, cap, cur, rfl, h2, h3, by omega, h5, h6, ?_⟩
    rw [← h7, List.take_take, Nat.min_eq_left hl]

theorem T.depth_le (t : T) : t.depth ≤ t.body.length := by
  induction t with
  | z => simp [T.depth]
  | c n e r ih _ => rw [T.body_c]; simp [T.depth, T.enc]; omega

end Go.Proofs.Ytgcdbndnpcfcnaa
