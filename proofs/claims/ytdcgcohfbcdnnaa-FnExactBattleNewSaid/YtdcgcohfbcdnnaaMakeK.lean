/- Rows that an append reads. -/
import Derived.Test.YtdcgcohfbcdnnaaLawKit
import Derived.Maps.AppendAt
import Derived.OwnWalk
namespace Go.Proofs.Ytdcgcohfbcdnnaa
set_option maxRecDepth 100000
open Go.RowKit

theorem cell_one_at (w : World) (x : Value) (t : TypeId) (n : Nat) (hn : n = w.heap.size) : ∀ j u, [x][j]? = some u → (w.alloc (.cells #[x] t)).cell? ((⟨n, 0, none⟩ : Addr).add j) = some u := by
  subst hn
  exact cell_one_new w x t

theorem At.news {w : World} {b off : Nat} {xs : List Int} (h : At w b off xs) : ∀ j u, (ints xs)[j]? = some u → w.cell? ((⟨b, off, none⟩ : Addr).add j) = some u := by
  intro j u hu
  have hj : j < xs.length := by
    have := (List.getElem?_eq_some_iff.1 hu).1
    rwa [ints_len] at this
  rw [ints_get xs j hj] at hu
  rw [Addr.add_lit, h j hj]
  exact hu

theorem ints_one (xs : List Int) : ∀ u ∈ ints xs, u.oneCell' = true := ints_oneCell _ xs

theorem At.alloc {w : World} {b off : Nat} {xs : List Int} (h : At w b off xs) (hx : xs ≠ []) (o : Obj) : At (w.alloc o) b off xs :=
  h.below ((Below.refl _ _).alloc (Nat.le_refl _) o) (h.lt hx)

end Go.Proofs.Ytdcgcohfbcdnnaa
