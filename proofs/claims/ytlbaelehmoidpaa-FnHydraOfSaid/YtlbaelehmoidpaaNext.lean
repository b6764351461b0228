/- OrdNext: the program's and the model's answers. -/
import Derived.Test.YtlbaelehmoidpaaMake
import Derived.Test.YtlbaelehmoidpaaOld
namespace Go.Proofs.Ytlbaelehmoidpaa
set_option maxRecDepth 100000
open Go.RowKit

theorem T.nf_last {d : T} {n : Int} {e r : T} (h : (d.app (.c n e r)).Nf) : 1 ≤ n ∧ n ≤ 9999 ∧ e.Nf := by
  induction d with
  | z => exact ⟨h.1, h.2.1, h.2.2.1⟩
  | c m f q _ ih => exact ih h.2.2.2.1

theorem TC.set {w : World} {d e r : T} {n m : Int} {cs : List Value} (h : TC w (d.app (.c n e r)) cs) : TC w (d.app (.c m e r)) (cs.set (2 * d.cnt) (.int .i64 m)) := by
  induction d generalizing cs with
  | z =>
    obtain ⟨b, off, cap, cs', rfl, h1, h2, h3, h4⟩ := h
    exact ⟨b, off, cap, cs', by simp [T.cnt], h1, h2, h3, h4⟩
  | c k f q _ ih =>
    obtain ⟨b, off, cap, cs', rfl, h1, h2, h3, h4⟩ := h
    refine ⟨b, off, cap, _, ?_, h1, h2, h3, ih h4⟩
    rw [show 2 * (T.c k f q).cnt = 2 * q.cnt + 2 by simp [T.cnt]; omega]
    rfl

theorem two_one (x y : Value) (hx : x.oneCell' = true) (hy : y.oneCell' = true) : ∀ u ∈ [x, y], u.oneCell' = true := by
  intro u hu
  simp at hu
  rcases hu with rfl | rfl
  · exact hx
  · exact hy

theorem T.enc_app_len (t : T) : (t.app (.c 1 .z .z)).enc.length = t.enc.length + 2 := by
  rw [T.enc_len, T.enc_len, T.app_body, T.body_c]; simp [T.enc, T.body]

end Go.Proofs.Ytlbaelehmoidpaa
