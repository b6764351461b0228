/- The model's OrdAdd. -/
import Derived.Test.YtaleaagnkfbhpaaAddS
import Derived.Test.YtaleaagnkfbhpaaAddJ
namespace Go.Proofs.Ytaleaagnkfbhpaa
open Go.RowKit

theorem l2Fit_yes (a : Option Addr) (n c : Nat) (xs : List Int) (w : World) (h : Sl w a n c xs) (hv : T.vldB xs = true) :
    Calls Try.prog 25 #[.slice a n c] w fun e w' => e = .returned (.tuple #[.slice a n c, .bool true]) ∧ Below w.heap.size w w' := by
  have k1 := Lib.hid (spec_valid a n c xs w h hv)
  clear h hv
  go_enter Try.func25, Try.ntmps25
  go_wp2_with fail
  refine (k1.out).mono ?_
  rintro ee w1 ⟨rfl, hb1⟩
  have Hb1 := Lib.hid hb1
  clear hb1
  go_wp2_with fail
  go_ret2
  exact ⟨rfl, Hb1.out⟩

theorem l2Fit_no (a : Option Addr) (n c : Nat) (xs : List Int) (w : World) (h : Sl w a n c xs) (hv : T.vldB xs = false) :
    Calls Try.prog 25 #[.slice a n c] w fun e w' => ∃ a', e = .returned (.tuple #[.slice a' 0 0, .bool false]) ∧ w'.ownsRow w.heap.size 3 1 (.slice a' 0 0) 0 [] ∧ Below w.heap.size w w' := by
  have k1 := Lib.hid (spec_valid a n c xs w h hv)
  clear h hv
  go_enter Try.func25, Try.ntmps25
  go_wp2_with fail
  refine (k1.out).mono ?_
  rintro ee w1 ⟨rfl, hb1⟩
  have Hb1 := Lib.hid hb1
  clear hb1
  go_wp2_with fail
  go_ret2
  exact ⟨_, rfl, World.ownsRow_lit w1 #[] 0 (by have := Hb1.out.size; omega) (by simp [maxLen]) rfl, Hb1.out.alloc (by have := Hb1.out.size; omega) _⟩

/-- What a bad argument is answered by. -/
theorem lit_post {w w1 : World} (hb : Below w.heap.size w w1) : OrdOkPost w [] false (.returned (.tuple #[.slice (some ⟨w1.heap.size, 0, none⟩) 0 0, .bool false])) (w1.alloc (.cells #[] 3)) :=
  ⟨_, 0, rfl, World.ownsRow_lit w1 #[] 0 (by have := hb.size; omega) (by simp [maxLen]) rfl, hb.alloc (by have := hb.size; omega) _⟩


end Go.Proofs.Ytaleaagnkfbhpaa
