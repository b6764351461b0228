/- OrdBefore of the program; OrdDepth of the program. -/
import Derived.Test.YtaleaagnkfbhpabNext
namespace Go.Proofs.Ytaleaagnkfbhpab
open Go.RowKit

theorem TC.front {w : World} {d r : T} {cs : List Value} (h : TC w (d.app r) cs) : TC w d (cs.take (2 * d.cnt)) := by
  induction d generalizing cs with
  | z => simp [T.cnt, TC]
  | c k f q _ ih =>
    obtain ⟨b, off, cap, cs', rfl, h1, h2, h3, h4⟩ := h
    refine ⟨b, off, cap, cs'.take (2 * q.cnt), ?_, h1, h2, h3, ih h4⟩
    rw [show 2 * (T.c k f q).cnt = 2 * q.cnt + 2 by simp [T.cnt]; omega]
    rfl

theorem kind_row {xs : List Int} (h : T.kindRow xs = 1) : T.vldB xs = true ∧ (T.of xs).kind = 1 := by
  unfold T.kindRow at h
  split at h
  · rename_i hv; exact ⟨hv, h⟩
  · omega

theorem kindRow_vals (xs : List Int) : T.kindRow xs = -1 ∨ T.kindRow xs = 0 ∨ T.kindRow xs = 1 ∨ T.kindRow xs = 2 := by
  unfold T.kindRow
  split
  · right
    rcases Nat.eq_zero_or_pos (T.of xs).cnt with h | h
    · rw [T.cnt_zero h]; left; rfl
    · obtain ⟨d, n, e, h1, _⟩ := T.last_of _ h
      rw [h1, T.kind_app]
      split <;> simp
  · left; rfl

theorem bef_bad {xs : List Int} (h : ¬ T.kindRow xs = 1) : T.befRow xs = [] ∧ T.befOk xs = false := by
  have h2 : ¬ (T.vldB xs = true ∧ (T.of xs).kind = 1) := by
    rintro ⟨h3, h4⟩
    exact h (by rw [T.kindRow, if_pos h3, h4])
  refine ⟨by rw [T.befRow, if_neg h2], ?_⟩
  rw [T.befOk]
  cases hv : T.vldB xs with
  | false => rfl
  | true => simp; intro hk; exact h2 ⟨hv, hk⟩

theorem T.depth_le (t : T) : t.depth ≤ t.body.length := by
  induction t with
  | z => simp [T.depth]
  | c n e r ih _ => rw [T.body_c]; simp [T.depth, T.enc]; omega

end Go.Proofs.Ytaleaagnkfbhpab
