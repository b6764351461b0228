/- OrdMost: the program's and the model's answers. -/
import Derived.Test.YtlbaelehmoidpaaBeforeS
import Derived.Test.YtlbaelehmoidpaaSteps
import Derived.Test.YtlbaelehmoidpaaTerms2
namespace Go.Proofs.Ytlbaelehmoidpaa
set_option maxRecDepth 100000
open Go.RowKit

/-- The parts of a term among others. -/
theorem T.part_len {d e r t : T} {x : Int} (h : d.app (.c x e r) = t) : e.enc.length + 1 ≤ t.body.length ∧ e.body.length + 2 ≤ t.body.length := by
  have e1 := congrArg T.body h
  have e2 := congrArg List.length e1
  rw [T.app_body, T.body_c] at e2
  simp only [List.length_append, List.length_cons] at e2
  have e3 := T.enc_len e
  exact ⟨by omega, by omega⟩
theorem T.part_nf {d e r t : T} {x : Int} (h : d.app (.c x e r) = t) (hn : t.Nf) : 1 ≤ x ∧ x ≤ 9999 ∧ e.Nf := T.nf_last (h ▸ hn)

end Go.Proofs.Ytlbaelehmoidpaa
