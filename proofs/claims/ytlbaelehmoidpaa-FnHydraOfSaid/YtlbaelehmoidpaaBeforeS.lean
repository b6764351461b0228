/- OrdBefore and OrdDepth: the model's answers. -/
import Derived.Test.YtlbaelehmoidpaaBefore
import Derived.Test.YtlbaelehmoidpaaNextS
namespace Go.Proofs.Ytlbaelehmoidpaa
set_option maxRecDepth 100000
open Go.RowKit

theorem EC.front {w : World} {d r : T} {es : List Value} (h : EC w (d.app r) es) : EC w d (es.take d.cnt) := by
  induction d generalizing es with
  | z => simp [T.cnt, EC]
  | c k f q _ ih =>
    obtain ⟨b, off, cap, cs', rfl, h1, h2, h3, h4⟩ := h
    exact ⟨b, off, cap, cs'.take q.cnt, by simp [T.cnt], h1, h2, h3, ih h4⟩

theorem Ex.below {w w' : World} {ao : Option Addr} {n : Nat} {t : T} (h : Ex w ao n t) (hb : Below w.heap.size w w') : Ex w' ao n t := by
  obtain ⟨h1, es, h2, h3⟩ := h
  refine ⟨h1, es, h2.below hb, fun hp => ?_⟩
  obtain ⟨g, h4, h5, h6⟩ := h3 hp
  exact ⟨g, h4, Nat.lt_of_lt_of_le h5 hb.size, fun j hj => (hb.cell (p := ⟨g, j, none⟩) h5).trans (h6 j hj)⟩

theorem T.times_front (d : T) (r : T) : (d.app r).times.take d.cnt = d.times := by
  rw [T.times_app, List.take_left' (T.times_len d)]

end Go.Proofs.Ytlbaelehmoidpaa
