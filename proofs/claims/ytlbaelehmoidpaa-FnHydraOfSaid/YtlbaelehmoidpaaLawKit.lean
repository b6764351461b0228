/- The laws' own helpers: copies and comparisons of lists. -/
import Derived.Test.YtlbaelehmoidpaaValid
namespace Go.Proofs.Ytlbaelehmoidpaa
set_option maxRecDepth 100000
open Go.RowKit

def ints (xs : List Int) : List Value := xs.map (.int .i64)
theorem ints_len (xs : List Int) : (ints xs).length = xs.length := by simp [ints]
theorem ints_get (xs : List Int) (j : Nat) (h : j < xs.length) : (ints xs)[j]? = some (.int .i64 (xs.getD j 0)) := by simp [ints, h]

/-- A row of numbers that the call made, as a slice. -/
theorem Sl.of_own {w : World} {B n cap : Nat} {ao : Option Addr} {xs : List Int} (h : w.ownsRow B 3 1 (.slice ao n cap) n (ints xs)) : Sl w ao n cap xs := by
  have hl : xs.length = n := by have := h.1; rw [ints_len] at this; omega
  rcases h.2 with ⟨h1, h2⟩ | ⟨g, c, cur, h1, h2, h3, h4, h5, h6, h7⟩
  · simp at h1
    obtain ⟨rfl, rfl, rfl⟩ := h1
    exact ⟨hl, Nat.le_refl _, Nat.zero_le _, fun h => by omega⟩
  · simp at h1
    obtain ⟨rfl, rfl⟩ := h1
    refine ⟨hl, h4, h5, fun _ => ⟨g, 0, rfl, fun j hj => ?_⟩⟩
    rw [Nat.zero_add, h.cellAt j (by omega), ints_get xs j hj]

theorem sl_of_row {w : World} {a : Option Addr} {len cap : Nat} {zs : List Int}
    (h : (a = none ∧ len = 0 ∧ cap = 0 ∧ zs = []) ∨
      ∃ x, a = some x ∧ len ≤ cap ∧ cap ≤ maxLen ∧ zs.length = cap ∧ (∀ i, i < zs.length → w.cell? (x.add i) = some (.int .i64 (zs.getD i 0))) ∧ ∀ n ∈ zs, (Lit.int .i64 n).wf = true) :
    Sl w a len cap (zs.take len) := by
  rcases h with ⟨rfl, rfl, rfl, rfl⟩ | ⟨x, rfl, hl, hm, hz, hcell, _⟩
  · exact ⟨rfl, Nat.le_refl _, Nat.zero_le _, fun h => by omega⟩
  · refine ⟨by rw [List.length_take]; omega, hl, hm, fun hp => ?_⟩
    obtain ⟨b, off, spot⟩ := x
    have hc := hcell 0 (by omega)
    have hspot : spot = none := by simpa [Addr.add] using World.cell?_spot hc
    subst hspot
    refine ⟨b, off, rfl, fun j hj => ?_⟩
    rw [List.length_take] at hj
    have h1 := hcell j (by omega)
    rw [Addr.add_lit] at h1
    rw [h1]
    simp [List.getD, show j < len by omega]

theorem set_next (xs : List Int) (k : Nat) (z : Value) (zs : List Value) (h : k < xs.length) :
    (ints (xs.take k) ++ z :: zs).set k (.int .i64 (xs.getD k 0)) = ints (xs.take (k + 1)) ++ zs := by
  have hl : (ints (xs.take k)).length = k := by rw [ints_len, List.length_take]; omega
  have h1 : xs.take (k + 1) = xs.take k ++ [xs.getD k 0] := by
    rw [List.take_succ_eq_append_getElem h]
    simp [List.getD, h]
  rw [List.set_append_right _ _ (by omega), hl, Nat.sub_self, h1]
  simp [ints]

/-- Equality of rows, as a truth that the walk does not open. -/
def eqB (xs ys : List Int) : Bool := decide (xs = ys)
theorem eqB_true {xs ys : List Int} : eqB xs ys = true ↔ xs = ys := by simp [eqB]
theorem eqB_refl (xs : List Int) : eqB xs xs = true := by simp [eqB]

theorem eqB_len {xs ys : List Int} (h : xs.length ≠ ys.length) : eqB xs ys = false := by
  simp only [eqB, decide_eq_false_iff_not]; intro h'; exact h (by rw [h'])
theorem eqB_at {xs ys : List Int} {k : Nat} (h : xs.getD k 0 ≠ ys.getD k 0) : eqB xs ys = false := by
  simp only [eqB, decide_eq_false_iff_not]; intro h'; exact h (by rw [h'])
theorem eqB_all {xs ys : List Int} (hl : xs.length = ys.length) (h : ∀ j, j < xs.length → xs.getD j 0 = ys.getD j 0) : eqB xs ys = true := by
  rw [eqB_true]
  apply List.ext_getElem hl
  intro i h1 h2
  have := h i h1
  simpa [List.getD, h1, h2] using this

end Go.Proofs.Ytlbaelehmoidpaa
