/- What the frames of chapter 8 open besides: rows of rows. -/
import Derived.Test.YtfigkfcdfmoihaaDoorTrQ
import Derived.Test.YtfigkfcdfmoihaaDoorFrK
namespace Go.Proofs.YtfigkfcdfmoihaaDoor
set_option maxRecDepth 100000
open Go.RowKit Go.ChangeShapes Go.WideShapes Go.ChangeAt Go.Joins Go.Deep

variable {H : Type} {enc : TypeId × Value → H}

theorem rows_open {W : World} {base : Nat} {held : Bool} {v : Value} {d : DataW H} {p : List MemPlace} {r : Reach} {b : Nat} (hv : Value.okWide Tryd.prog W r b 29 v) (h : DataW.Trod enc Tryd.prog W base (fun _ => true) held 29 v d p) : ∃ a n c ts, v = .slice a n c ∧ SlR W a n c ts := by
  obtain ⟨a, n, c, rfl⟩ := okWide_slice Tryd.underlying29 hv
  obtain ⟨fuel, hf⟩ := h
  rcases open_slice1 Tryd.underlying29 (by kernel_rfl) hf with ⟨hcs, _⟩ | ⟨x, len, cap, m, nn, V, D, Pl, hcs, _, hl, hm, hmm, _, hat⟩
  · simp [Value.cells] at hcs
    obtain ⟨rfl, rfl, rfl⟩ := hcs
    exact ⟨_, _, _, [], rfl, rfl, Nat.le_refl _, Nat.zero_le _, fun h => by omega⟩
  · simp [Value.cells] at hcs
    obtain ⟨rfl, rfl, rfl⟩ := hcs
    have hm' : m = c := by simpa using hmm
    have each : ∀ i, ∃ t : List Int, i < n → ∃ a1 n1 c1, W.cell? (x.add i) = some (.slice a1 n1 c1) ∧ Sl W a1 n1 c1 t := by
      intro i
      by_cases hi : i < n
      · obtain ⟨e1, t1⟩ := hat i (by omega)
        obtain ⟨a1, n1, k1, z1, q1, s1⟩ := row_cell t1
        exact ⟨z1, fun _ => ⟨a1, n1, k1, by rw [e1, q1], s1⟩⟩
      · exact ⟨[], fun h => absurd h hi⟩
    obtain ⟨F, hF⟩ := Classical.skolem.1 each
    refine ⟨some x, n, c, (List.range n).map F, rfl, by simp, hl, hm, fun hp => ?_⟩
    obtain ⟨b, off, spot⟩ := x
    have hc := (hat 0 (by omega)).1
    have hspot : spot = none := by simpa [Addr.add] using World.cell?_spot hc
    subst hspot
    refine ⟨b, off, rfl, fun k t hk => ?_⟩
    rw [List.getElem?_map] at hk
    have hkn : k < n := by
      by_cases hkn : k < n
      · exact hkn
      · rw [List.getElem?_eq_none (by simp; omega)] at hk
        simp at hk
    rw [List.getElem?_range hkn] at hk
    simp at hk
    subst hk
    obtain ⟨a1, n1, c1, e1, s1⟩ := hF k hkn
    rw [Addr.add_lit] at e1
    exact ⟨a1, n1, c1, e1, s1⟩

end Go.Proofs.YtfigkfcdfmoihaaDoor
