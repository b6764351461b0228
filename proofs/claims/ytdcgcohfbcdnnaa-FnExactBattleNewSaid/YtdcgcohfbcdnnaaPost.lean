/- What functions answer that answer a row and whether it is there; the model's l2Fit. -/
import Derived.Test.YtdcgcohfbcdnnaaMake
namespace Go.Proofs.Ytdcgcohfbcdnnaa
set_option maxRecDepth 100000
open Go.RowKit

def OrdOkPost (w : World) (r : List Int) (o : Bool) (e : Ending) (w' : World) : Prop :=
  ∃ a c, e = .returned (.tuple #[.slice a r.length c, .bool o]) ∧ w'.ownsRow w.heap.size 3 1 (.slice a r.length c) r.length (ints r) ∧ Below w.heap.size w w'

theorem OrdOkPost.nil {w w' : World} {a : Option Addr} {c : Nat} (ho : w'.ownsRow w.heap.size 3 1 (.slice a 0 c) 0 []) (hb : Below w.heap.size w w') : OrdOkPost w [] false (.returned (.tuple #[.slice a 0 c, .bool false])) w' :=
  ⟨a, c, rfl, ho, hb⟩

theorem nil_own (w w' : World) : w'.ownsRow w.heap.size 3 1 (.slice none 0 0) 0 [] := ⟨rfl, .inl ⟨rfl, rfl⟩⟩

/-- What a bad argument is answered by. -/
theorem lit_post {w w1 : World} (hb : Below w.heap.size w w1) : OrdOkPost w [] false (.returned (.tuple #[.slice (some ⟨w1.heap.size, 0, none⟩) 0 0, .bool false])) (w1.alloc (.cells #[] 3)) :=
  ⟨_, 0, rfl, World.ownsRow_lit w1 #[] 0 (by have := hb.size; omega) (by simp [maxLen]) rfl, hb.alloc (by have := hb.size; omega) _⟩

theorem l2Fit_yes (a : Option Addr) (n c : Nat) (xs : List Int) (w : World) (h : Sl w a n c xs) (hv : T.vldB xs = true) :
    Calls Try.prog 81 #[.slice a n c] w fun e w' => e = .returned (.tuple #[.slice a n c, .bool true]) ∧ Below w.heap.size w w' := by
  have k1 := Lib.hid (spec_valid a n c xs w h hv)
  clear h hv
  go_enter Try.func81, Try.ntmps81
  go_wp2_with fail
  refine (k1.out).mono ?_
  rintro ee w1 ⟨rfl, hb1⟩
  have Hb1 := Lib.hid hb1
  clear hb1
  go_wp2_with fail
  go_ret2
  exact ⟨rfl, Hb1.out⟩

theorem l2Fit_no (a : Option Addr) (n c : Nat) (xs : List Int) (w : World) (h : Sl w a n c xs) (hv : T.vldB xs = false) :
    Calls Try.prog 81 #[.slice a n c] w fun e w' => ∃ a', e = .returned (.tuple #[.slice a' 0 0, .bool false]) ∧ w'.ownsRow w.heap.size 3 1 (.slice a' 0 0) 0 [] ∧ Below w.heap.size w w' := by
  have k1 := Lib.hid (spec_valid a n c xs w h hv)
  clear h hv
  go_enter Try.func81, Try.ntmps81
  go_wp2_with fail
  refine (k1.out).mono ?_
  rintro ee w1 ⟨rfl, hb1⟩
  have Hb1 := Lib.hid hb1
  clear hb1
  go_wp2_with fail
  go_ret2
  exact ⟨_, rfl, World.ownsRow_lit w1 #[] 0 (by have := Hb1.out.size; omega) (by simp [maxLen]) rfl, Hb1.out.alloc (by have := Hb1.out.size; omega) _⟩

theorem l2Fit_any (a : Option Addr) (c : Nat) (t : T) (w0 w : World) (hb : Below w0.heap.size w0 w) (ho : w.ownsRow w0.heap.size 3 1 (.slice a t.enc.length c) t.enc.length (ints t.enc)) :
    Calls Try.prog 81 #[.slice a t.enc.length c] w (OrdOkPost w0 (T.fit t) (T.vldB t.enc)) := by
  rcases vld_tf t.enc with h1 | h1
  · rw [h1, T.fit, if_pos h1]
    refine (l2Fit_yes a t.enc.length c t.enc w (Sl.of_own ho) h1).mono ?_
    rintro e w' ⟨rfl, hb'⟩
    exact ⟨a, c, rfl, ownsRow_below' ho hb', hb.trans (hb'.mono hb.size)⟩
  · rw [h1, T.fit, if_neg (by rw [h1]; decide)]
    refine (l2Fit_no a t.enc.length c t.enc w (Sl.of_own ho) h1).mono ?_
    rintro e w' ⟨a', rfl, ho', hb'⟩
    exact ⟨a', 0, rfl, Joins.ownsRow_le (base' := w0.heap.size) ho' hb.size, hb.trans (hb'.mono hb.size)⟩

end Go.Proofs.Ytdcgcohfbcdnnaa
