/- What functions answer that answer a row and whether it is there; the model's l2Fit. -/
import Derived.Test.YtlbaelehmoidpaaMake
namespace Go.Proofs.Ytlbaelehmoidpaa
set_option maxRecDepth 100000
open Go.RowKit

def OrdOkPost (w : World) (r : List Int) (o : Bool) (e : Ending) (w' : World) : Prop :=
  ∃ a c, e = .returned (.tuple #[.slice a r.length c, .bool o]) ∧ w'.ownsRow w.heap.size 3 1 (.slice a r.length c) r.length (ints r) ∧ Below w.heap.size w w'

theorem OrdOkPost.nil {w w' : World} {a : Option Addr} {c : Nat} (ho : w'.ownsRow w.heap.size 3 1 (.slice a 0 c) 0 []) (hb : Below w.heap.size w w') : OrdOkPost w [] false (.returned (.tuple #[.slice a 0 c, .bool false])) w' :=
  ⟨a, c, rfl, ho, hb⟩

theorem nil_own (w w' : World) : w'.ownsRow w.heap.size 3 1 (.slice none 0 0) 0 [] := ⟨rfl, .inl ⟨rfl, rfl⟩⟩

/-- What a bad argument is answered by. -/
theorem lit_post {w w1 : World} (hb : Below w.heap.size w w1) : OrdOkPost w [] false (.returned (.tuple #[.slice (some ⟨w1.heap.size, 0, none⟩) 0 0, .bool false])) (w1.alloc (.cells #[] 3)) :=
  ⟨_, 0, rfl, World.ownsRow_lit w1 #[] 0 (by have := hb.size; omega) (by simp [maxLen]) rfl, hb.alloc (by have := hb.size; omega) _⟩

end Go.Proofs.Ytlbaelehmoidpaa
