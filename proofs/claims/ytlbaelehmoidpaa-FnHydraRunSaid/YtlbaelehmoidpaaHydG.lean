/- Rows of trees that lie in rows of their own. -/
import Derived.Test.YtlbaelehmoidpaaHydT
namespace Go.Proofs.Ytlbaelehmoidpaa
set_option maxRecDepth 100000
open Go.RowKit

/-- Trees, each in a row of its own behind a place. -/
def HG (w : World) (B : Nat) : H → List Value → Prop
  | .z, es => es = []
  | .c k r, es => ∃ b cap es', es = .slice (some ⟨b, 0, none⟩) k.enc.length cap :: es' ∧ w.ownsRow B 3 1 (.slice (some ⟨b, 0, none⟩) k.enc.length cap) k.enc.length (ints k.enc) ∧ HG w B r es'

theorem HG.hc {w : World} {B : Nat} {t : H} {es : List Value} (h : HG w B t es) : HC w t es := by
  induction t generalizing es with
  | z => exact h
  | c k r _ ih =>
    obtain ⟨b, cap, es', rfl, h1, h2⟩ := h
    obtain ⟨q1, q2, q3, q4⟩ := Sl.of_own h1
    obtain ⟨b', off, q5, q6⟩ := q4 (by rw [H.enc_len]; omega)
    cases q5
    exact ⟨b, 0, cap, es', rfl, q6, q2, q3, ih h2⟩

theorem HG.snoc {w : World} {B : Nat} {t : H} {es : List Value} {e : H} {b cap : Nat} (h : HG w B t es) (ha : w.ownsRow B 3 1 (.slice (some ⟨b, 0, none⟩) e.enc.length cap) e.enc.length (ints e.enc)) :
    HG w B (t.app (.c e .z)) (es ++ [.slice (some ⟨b, 0, none⟩) e.enc.length cap]) := by
  induction t generalizing es with
  | z => simp only [HG] at h; subst h; exact ⟨b, cap, [], rfl, ha, rfl⟩
  | c f r _ ih =>
    obtain ⟨b', cap', es', rfl, h1, h2⟩ := h
    exact ⟨b', cap', _, rfl, h1, ih h2⟩

/-- They stay behind whatever leaves their rows alone. -/
theorem HG.kept {w w' : World} {B : Nat} {row : Option Nat} {t : H} {es : List Value} (h : HG w B t es) (hg : w.grownBy w' row) (hr : ∀ k, row = some k → k < B ∨ ∃ cs fr, w.heap[k]? = some (.cells cs 23 fr)) : HG w' B t es := by
  induction t generalizing es with
  | z => exact h
  | c f r _ ih =>
    obtain ⟨b, cap, es', rfl, h1, h2⟩ := h
    refine ⟨b, cap, es', rfl, h1.kept hg (.inr fun he => ?_), ih h2⟩
    have hb := h1.lt b rfl
    rcases hr b (by rw [← he]; rfl) with h3 | ⟨cs, fr, h3⟩
    · omega
    · rcases h1.2 with ⟨h4, _⟩ | ⟨g, c, cur, h4, _, h5, _⟩
      · cases h4
      · simp only [Value.slice.injEq, Option.some.injEq, Addr.mk.injEq] at h4
        obtain ⟨⟨rfl, _⟩, _⟩ := h4
        rw [h3] at h5
        simp at h5

theorem own_tag {w : World} {B e n size : Nat} {v : Value} {xs : List Value} (h : w.ownsRow B e size v n xs) : ∀ k, v.ownBlock = some k → ∃ cs fr, w.heap[k]? = some (.cells cs e fr) := by
  intro k hk
  rcases h.2 with ⟨rfl, _⟩ | ⟨g, cap, cur, rfl, _, hg, _⟩
  · simp [Value.ownBlock] at hk
  · simp [Value.ownBlock] at hk
    subst hk
    exact ⟨_, _, hg⟩

end Go.Proofs.Ytlbaelehmoidpaa
