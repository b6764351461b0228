/- OrdPower: the program's and the model's answers. -/
import Derived.Test.YtgkcpmhgmhioiaaMake
import Derived.Laws.AppendOwnNone
namespace Go.Proofs.Ytgkcpmhgmhioiaa
set_option maxRecDepth 100000
open Go.RowKit

theorem nf_power {t : T} (h : t.Nf) : (T.c 1 t .z).Nf := ⟨by omega, by omega, h, trivial, T.ok_z _⟩


/-- What append reads of a slice that came in. -/
theorem Sl.news {w : World} {x : Addr} {len cap : Nat} {xs : List Int} (h : Sl w (some x) len cap xs) : ∀ j u, (ints xs)[j]? = some u → w.cell? (x.add j) = some u := by
  intro j u hu
  have hj : j < xs.length := by
    have := (List.getElem?_eq_some_iff.1 hu).1
    rwa [ints_len] at this
  obtain ⟨b, off, h1, h2⟩ := h.2.2.2 (by rw [← h.1]; omega)
  obtain rfl := Option.some.inj h1
  exact h2.news j u hu

theorem Sl.alloc {w : World} {ao : Option Addr} {len cap : Nat} {xs : List Int} (h : Sl w ao len cap xs) (o : Obj) : Sl (w.alloc o) ao len cap xs :=
  h.below ((Below.refl _ _).alloc (Nat.le_refl _) o)


end Go.Proofs.Ytgkcpmhgmhioiaa
