/- OrdCompare, OrdOf, OrdNumber, OrdKind: the program's and the model's answers. -/
import Derived.Test.YtfigkfcdfmoihaaDoorLawKit
import Derived.Test.YtfigkfcdfmoihaaDoorFnMath
namespace Go.Proofs.YtfigkfcdfmoihaaDoor
set_option maxRecDepth 100000
open Go.RowKit

theorem impl_valid {v : Bool} (ao : Option Addr) (len cap : Nat) (xs : List Int) (w : World) (h : Sl w ao len cap xs) (hv : T.vldB xs = v) :
    Calls Tryd.prog 41 #[.slice ao len cap] w fun e w' => e = .returned (.bool v) ∧ Below w.heap.size w w' := by
  subst hv
  exact impl_OrdValid ao len cap xs w h

theorem spec_valid {v : Bool} (ao : Option Addr) (len cap : Nat) (xs : List Int) (w : World) (h : Sl w ao len cap xs) (hv : T.vldB xs = v) :
    Calls Tryd.prog 26 #[.slice ao len cap] w fun e w' => e = .returned (.bool v) ∧ Below w.heap.size w w' := by
  subst hv
  exact spec_OrdValid ao len cap xs w h

/-- A slice that reads as a valid ordinal. -/
theorem Sl.valid {w : World} {ao : Option Addr} {len cap : Nat} {xs : List Int} (h : Sl w ao len cap xs) (hv : T.vldB xs = true) :
    ∃ b off t, ao = some ⟨b, off, none⟩ ∧ xs = T.enc t ∧ t.Nf ∧ T.of xs = t ∧ At w b off t.enc ∧ len = t.enc.length ∧ len ≤ 60 ∧ 1 ≤ len ∧ len ≤ cap ∧ cap ≤ maxLen := by
  obtain ⟨t, h1, h2, h3, h4⟩ := T.vld_of hv
  have hl : len = t.enc.length := by rw [← h.1, h1]
  have hel := T.enc_len t
  obtain ⟨b, off, h5, h6⟩ := h.2.2.2 (by omega)
  exact ⟨b, off, t, h5, h1, h2, h4, by rw [← h1]; exact h6, hl, by omega, by omega, h.2.1, h.2.2.1⟩

theorem vld_tf (xs : List Int) : T.vldB xs = true ∨ T.vldB xs = false := by cases T.vldB xs <;> simp


end Go.Proofs.YtfigkfcdfmoihaaDoor
