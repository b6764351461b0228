/- The program's OrdAdd. -/
import Derived.Test.YtlbaelehmoidpaaAddI
import Derived.Test.YtlbaelehmoidpaaPost
namespace Go.Proofs.Ytlbaelehmoidpaa
set_option maxRecDepth 100000
open Go.RowKit

theorem T.nf_times {t : T} (h : t.Nf) : ∀ x ∈ t.times, 1 ≤ x ∧ x ≤ 9999 := by
  induction t with
  | z => intro x hx; cases hx
  | c n e r _ ih =>
    intro x hx
    rcases List.mem_cons.1 (show x ∈ n :: r.times from hx) with rfl | hx
    · exact ⟨h.1, h.2.1⟩
    · exact ih h.2.2.2.1 x hx

theorem Tz.of_own {w : World} {B g n c : Nat} {t : T} {cs : List Value} (h : w.ownsRow B 57 2 (.slice (some ⟨g, 0, none⟩) n c) n cs) (hT : TC w t cs) (hn : n = t.cnt) : Tz w g n c t cs := by
  refine ⟨hn, ?_, ?_, hT, (h.lt g rfl).2, fun j hj => h.cellAt j (by omega)⟩
  · rcases h.2 with ⟨h1, _⟩ | ⟨_, _, _, h0, _, _, h3, _⟩
    · cases h1
    · cases h0; exact h3
  · rcases h.2 with ⟨h1, _⟩ | ⟨_, _, _, h0, _, _, _, h4, _⟩
    · cases h1
    · cases h0; exact h4

end Go.Proofs.Ytlbaelehmoidpaa
