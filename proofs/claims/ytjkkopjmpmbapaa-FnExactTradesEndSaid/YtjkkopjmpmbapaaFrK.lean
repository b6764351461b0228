/- What the frames of chapter 8 open: rows of numbers, rules, rows of rules, rows of rows. -/
import Derived.Test.YtjkkopjmpmbapaaTrS
import Derived.ProofKit
import Derived.OpenShut
import Derived.ChangeOld
import Derived.Lib.SmallJoins
import Derived.Deep.SlicePairs
import Derived.Deep.Matrix
namespace Go.Proofs.Ytjkkopjmpmbapaa
set_option maxRecDepth 100000
open Go.RowKit Go.ChangeShapes Go.WideShapes Go.ChangeAt Go.Joins Go.Deep

variable {H : Type} {enc : TypeId × Value → H}

theorem row_cell {W : World} {base fuel : Nat} {held : Bool} {v : Value} {x : DataW H × List MemPlace} (h : DataW.trod enc Try.prog W base (fun _ => true) held fuel 22 [v] = some x) : ∃ a l c zs, v = .slice a l c ∧ Sl W a l c zs := by
  rcases open_ints Try.underlying22 Try.underlying3 (by kernel_rfl) h with ⟨hcs, _⟩ | ⟨x, l, c, zs, hcs, _, hl, hm, hz, _, hcell, hwz⟩
  · simp at hcs
    exact ⟨_, _, _, _, hcs, sl_of_row (zs := []) (.inl ⟨rfl, rfl, rfl, rfl⟩)⟩
  · simp at hcs
    exact ⟨_, _, _, _, hcs, sl_of_row (.inr ⟨_, rfl, hl, hm, by simpa using hz, hcell, hwz⟩)⟩

theorem row_open {W : World} {base : Nat} {held : Bool} {v : Value} {d : DataW H} {p : List MemPlace} {r : Reach} {b : Nat} (hv : Value.okWide Try.prog W r b 22 v) (h : DataW.Trod enc Try.prog W base (fun _ => true) held 22 v d p) : ∃ a l c zs, v = .slice a l c ∧ Sl W a l c zs := by
  obtain ⟨a, l, c, rfl⟩ := okWide_slice Try.underlying22 hv
  obtain ⟨fuel, hf⟩ := h
  exact row_cell (fuel := fuel) (by simpa [Value.cells] using hf)

theorem row_openb {W : World} {base : Nat} {held : Bool} {v : Value} {d : DataW H} {p : List MemPlace} {r : Reach} {b : Nat} (hv : Value.okWide Try.prog W r b 22 v) (h : DataW.Trod enc Try.prog W base (fun _ => true) held 22 v d p) : ∃ a l c zs, v = .slice a l c ∧ Sl W a l c zs ∧ ∀ x ∈ zs, -9223372036854775808 ≤ x ∧ x ≤ 9223372036854775807 := by
  obtain ⟨a, l, c, rfl⟩ := okWide_slice Try.underlying22 hv
  obtain ⟨fuel, hf⟩ := h
  rcases open_ints Try.underlying22 Try.underlying3 (by kernel_rfl) hf with ⟨hcs, _⟩ | ⟨x, l', c', zs, hcs, _, hl, hm, hz, _, hcell, hwz⟩
  · simp [Value.cells] at hcs
    obtain ⟨rfl, rfl, rfl⟩ := hcs
    exact ⟨_, _, _, [], rfl, sl_of_row (zs := []) (.inl ⟨rfl, rfl, rfl, rfl⟩), fun x hx => by cases hx⟩
  · simp [Value.cells] at hcs
    obtain ⟨rfl, rfl, rfl⟩ := hcs
    exact ⟨_, _, _, _, rfl, sl_of_row (.inr ⟨_, rfl, hl, hm, by simpa using hz, hcell, hwz⟩), fun x hx => by simpa [Lit.wf, IntKind.min, IntKind.max, IntKind.signed, IntKind.bits] using hwz x (List.mem_of_mem_take hx)⟩

theorem tr_open {W : World} {base : Nat} {held : Bool} {v : Value} {d : DataW H} {p : List MemPlace} {r : Reach} {b : Nat} (hv : Value.okWide Try.prog W r b 24 v) (h : DataW.Trod enc Try.prog W base (fun _ => true) held 24 v d p) : ∃ t, TrIn W v t := by
  obtain ⟨c0, c1, y0, y1, m, rfl, rfl, rfl, hy0, hy1⟩ := open_agg2 Try.underlying24 (by kernel_rfl) (by kernel_rfl) hv h
  obtain ⟨a1, n1, k1, z1, rfl, s1⟩ := row_cell hy0
  obtain ⟨a2, n2, k2, z2, rfl, s2⟩ := row_cell hy1
  exact ⟨⟨z1, z2⟩, a1, a2, n1, k1, n2, k2, rfl, s1, s2⟩

theorem trs_open {W : World} {base : Nat} {held : Bool} {v : Value} {d : DataW H} {p : List MemPlace} {r : Reach} {b : Nat} (hv : Value.okWide Try.prog W r b 31 v) (h : DataW.Trod enc Try.prog W base (fun _ => true) held 31 v d p) : ∃ a n c ts, v = .slice a n c ∧ SlT W a n c ts := by
  obtain ⟨a, n, c, rfl⟩ := okWide_slice Try.underlying31 hv
  obtain ⟨fuel, hf⟩ := h
  rcases open_slice_pairs Try.underlying31 Try.underlying24 (by kernel_rfl) rfl rfl (by kernel_rfl) (by kernel_rfl) hf with ⟨hcs, _⟩ | ⟨x, len, cap, m, nn, V0, V1, D0, D1, P0, P1, hcs, _, hl, hm, hmm, _, hat⟩
  · simp [Value.cells] at hcs
    obtain ⟨rfl, rfl, rfl⟩ := hcs
    exact ⟨_, _, _, [], rfl, rfl, Nat.le_refl _, Nat.zero_le _, fun h => by omega⟩
  · simp [Value.cells] at hcs
    obtain ⟨rfl, rfl, rfl⟩ := hcs
    have hm' : m = c := by simpa using hmm
    have each : ∀ i, ∃ t : Tr, i < n → ∃ a1 n1 c1 a2 n2 c2, W.cell? (x.add (i * 2)) = some (.slice a1 n1 c1) ∧ W.cell? (x.add (i * 2 + 1)) = some (.slice a2 n2 c2) ∧ Sl W a1 n1 c1 t.take ∧ Sl W a2 n2 c2 t.give := by
      intro i
      by_cases hi : i < n
      · obtain ⟨e1, e2, t1, t2⟩ := hat i (by omega)
        obtain ⟨a1, n1, k1, z1, q1, s1⟩ := row_cell t1
        obtain ⟨a2, n2, k2, z2, q2, s2⟩ := row_cell t2
        exact ⟨⟨z1, z2⟩, fun _ => ⟨a1, n1, k1, a2, n2, k2, by rw [e1, q1], by rw [e2, q2], s1, s2⟩⟩
      · exact ⟨⟨[], []⟩, fun h => absurd h hi⟩
    obtain ⟨F, hF⟩ := Classical.skolem.1 each
    refine ⟨some x, n, c, (List.range n).map F, rfl, by simp, hl, hm, fun hp => ?_⟩
    obtain ⟨b, off, spot⟩ := x
    have hc := (hat 0 (by omega)).1
    have hspot : spot = none := by simpa [Addr.add] using World.cell?_spot hc
    subst hspot
    refine ⟨b, off, rfl, fun k t hk => ?_⟩
    rw [List.getElem?_map] at hk
    have hkn : k < n := by
      by_cases hkn : k < n
      · exact hkn
      · rw [List.getElem?_eq_none (by simp; omega)] at hk
        simp at hk
    rw [List.getElem?_range hkn] at hk
    simp at hk
    subst hk
    obtain ⟨a1, n1, c1, a2, n2, c2, e1, e2, s1, s2⟩ := hF k hkn
    rw [Addr.add_lit] at e1
    rw [Addr.add_lit] at e2
    exact ⟨a1, n1, c1, a2, n2, c2, e1, e2, s1, s2⟩

end Go.Proofs.Ytjkkopjmpmbapaa
