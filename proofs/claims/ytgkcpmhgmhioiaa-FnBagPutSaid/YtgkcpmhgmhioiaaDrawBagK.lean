/- Rows in new memory, read by an append. -/
import Derived.Test.YtgkcpmhgmhioiaaRawKit
import Derived.Test.YtgkcpmhgmhioiaaMake
namespace Go.Proofs.Ytgkcpmhgmhioiaa
set_option maxRecDepth 100000
open Go.RowKit

theorem bg_news {w : World} {B e n b c : Nat} {xs : List Value} {o : Obj} (ho : w.ownsRow B e 1 (.slice (some ⟨b, 0, none⟩) n c) n xs) :
    ∀ j x, xs[j]? = some x → (w.alloc o).cell? ((⟨b, 0, none⟩ : Addr).add j) = some x := by
  intro j x hx
  have hj : j < xs.length := (List.getElem?_eq_some_iff.1 hx).1
  have hl := ho.1
  rw [Addr.add_lit, Nat.zero_add, World.cell?_alloc_past _ _ _ (ho.lt b rfl).2, ho.cellAt j (by omega)]
  exact hx
theorem bg_one (xs : List Int) (z : Int) : ∀ u ∈ ints xs ++ [.int .i64 z], u.oneCell' = true := by
  intro u hu
  rcases List.mem_append.1 hu with h9 | h9
  · exact ints_one xs u h9
  · simp at h9
    subst h9
    rfl
theorem bg_news0 {w : World} {B e n b c : Nat} {xs : List Value} (ho : w.ownsRow B e 1 (.slice (some ⟨b, 0, none⟩) n c) n xs) :
    ∀ j x, xs[j]? = some x → w.cell? ((⟨b, 0, none⟩ : Addr).add j) = some x := by
  intro j x hx
  have hj : j < xs.length := (List.getElem?_eq_some_iff.1 hx).1
  have hl := ho.1
  rw [Addr.add_lit, Nat.zero_add, ho.cellAt j (by omega)]
  exact hx

end Go.Proofs.Ytgkcpmhgmhioiaa
