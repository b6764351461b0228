/- OrdNext: the model's answer. -/
import Derived.Test.YtlbaelehmoidpaaNext
import Derived.Test.YtlbaelehmoidpaaMakeS
namespace Go.Proofs.Ytlbaelehmoidpaa
set_option maxRecDepth 100000
open Go.RowKit

theorem EC.renum {w : World} {d e r : T} {n m : Int} {es : List Value} (h : EC w (d.app (.c n e r)) es) : EC w (d.app (.c m e r)) es := by
  induction d generalizing es with
  | z => exact h
  | c k f q _ ih =>
    obtain ⟨b, off, cap, cs', rfl, h1, h2, h3, h4⟩ := h
    exact ⟨b, off, cap, _, rfl, h1, h2, h3, ih h4⟩

theorem T.times_set (d e : T) (n m : Int) : (ints (d.app (.c n e .z)).times).set d.cnt (.int .i64 m) = ints (d.app (.c m e .z)).times := by
  rw [T.times_app, T.times_app]
  simp only [ints, List.map_append, T.times, List.map_cons, List.map_nil]
  rw [List.set_append_right _ _ (by simp [T.times_len])]
  simp [T.times_len]

theorem one_kept {wr w1 : World} {B e n size : Nat} {v : Value} {xs : List Value} (ho : wr.ownsRow B e size v n xs) {a : Value} {ty : TypeId} {o2 : Obj}
    (hg : ((wr.alloc (.cells #[a] ty)).alloc o2).grownBy w1 v.ownBlock) : w1.cell? ⟨wr.heap.size, 0, none⟩ = some a := by
  refine hg.cell (a := ⟨wr.heap.size, 0, none⟩) ?_ ?_
  · have h1 : ((wr.alloc (.cells #[a] ty)).alloc o2).cell? ⟨wr.heap.size, 0, none⟩ = (wr.alloc (.cells #[a] ty)).cell? ⟨wr.heap.size, 0, none⟩ := World.cell?_alloc_past _ _ _ (by simp)
    rw [h1, Joins.cell_alloc_mark_at _ _ _ _ _ _ rfl]
    rfl
  · intro h
    have := (ho.lt _ h.symm).2
    exact absurd this (Nat.lt_irrefl _)

end Go.Proofs.Ytlbaelehmoidpaa
