/- Slices of rules: which are valid, by the program and by the model. -/
import Derived.Test.YtfigkfcdfmoihaaDoorTrD
namespace Go.Proofs.YtfigkfcdfmoihaaDoor
set_option maxRecDepth 100000
open Go.RowKit

/-- A slice of rules in memory. -/
def SlT (w : World) (ao : Option Addr) (n c : Nat) (ts : List Tr) : Prop :=
  ts.length = n ∧ n ≤ c ∧ c ≤ maxLen ∧ (0 < n → ∃ b off, ao = some ⟨b, off, none⟩ ∧ ∀ k t, ts[k]? = some t → ∃ a1 n1 c1 a2 n2 c2, w.cell? ⟨b, off + k * 2, none⟩ = some (.slice a1 n1 c1) ∧ w.cell? ⟨b, off + k * 2 + 1, none⟩ = some (.slice a2 n2 c2) ∧ Sl w a1 n1 c1 t.take ∧ Sl w a2 n2 c2 t.give)

theorem SlT.below {w w' : World} {ao : Option Addr} {n c : Nat} {ts : List Tr} (h : SlT w ao n c ts) (hb : Below w.heap.size w w') : SlT w' ao n c ts := by
  obtain ⟨h1, h2, h3, h4⟩ := h
  refine ⟨h1, h2, h3, fun hp => ?_⟩
  obtain ⟨b, off, rfl, hat⟩ := h4 hp
  refine ⟨b, off, rfl, fun k t hk => ?_⟩
  obtain ⟨a1, n1, c1, a2, n2, c2, e1, e2, s1, s2⟩ := hat k t hk
  exact ⟨a1, n1, c1, a2, n2, c2, (hb.cell (cell_in e1)).trans e1, (hb.cell (cell_in e2)).trans e2, s1.below hb, s2.below hb⟩


theorem tradesB_tf (ts : List Tr) : tradesB ts = true ∨ tradesB ts = false := by cases tradesB ts <;> simp



end Go.Proofs.YtfigkfcdfmoihaaDoor
