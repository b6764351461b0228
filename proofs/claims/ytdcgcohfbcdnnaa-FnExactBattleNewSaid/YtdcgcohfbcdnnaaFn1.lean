/- OrdCompare, OrdOf, OrdNumber, OrdKind: the program's and the model's answers. -/
import Derived.Test.YtdcgcohfbcdnnaaLawKit
import Derived.Test.YtdcgcohfbcdnnaaFnMath
namespace Go.Proofs.Ytdcgcohfbcdnnaa
set_option maxRecDepth 100000
open Go.RowKit

theorem impl_valid {v : Bool} (ao : Option Addr) (len cap : Nat) (xs : List Int) (w : World) (h : Sl w ao len cap xs) (hv : T.vldB xs = v) :
    Calls Try.prog 103 #[.slice ao len cap] w fun e w' => e = .returned (.bool v) ∧ Below w.heap.size w w' := by
  subst hv
  exact impl_OrdValid ao len cap xs w h

theorem spec_valid {v : Bool} (ao : Option Addr) (len cap : Nat) (xs : List Int) (w : World) (h : Sl w ao len cap xs) (hv : T.vldB xs = v) :
    Calls Try.prog 90 #[.slice ao len cap] w fun e w' => e = .returned (.bool v) ∧ Below w.heap.size w w' := by
  subst hv
  exact spec_OrdValid ao len cap xs w h

/-- A slice that reads as a valid ordinal. -/
theorem Sl.valid {w : World} {ao : Option Addr} {len cap : Nat} {xs : List Int} (h : Sl w ao len cap xs) (hv : T.vldB xs = true) :
    ∃ b off t, ao = some ⟨b, off, none⟩ ∧ xs = T.enc t ∧ t.Nf ∧ T.of xs = t ∧ At w b off t.enc ∧ len = t.enc.length ∧ len ≤ 60 ∧ 1 ≤ len ∧ len ≤ cap ∧ cap ≤ maxLen := by
  obtain ⟨t, h1, h2, h3, h4⟩ := T.vld_of hv
  have hl : len = t.enc.length := by rw [← h.1, h1]
  have hel := T.enc_len t
  obtain ⟨b, off, h5, h6⟩ := h.2.2.2 (by omega)
  exact ⟨b, off, t, h5, h1, h2, h4, by rw [← h1]; exact h6, hl, by omega, by omega, h.2.1, h.2.2.1⟩

theorem vld_tf (xs : List Int) : T.vldB xs = true ∨ T.vldB xs = false := by cases T.vldB xs <;> simp


theorem impl_OrdOf (n : Int) (w : World) (h1 : -9223372036854775808 ≤ n) (h2 : n ≤ 9223372036854775807) :
    Calls Try.prog 92 #[.int .i64 n] w fun e w' => ∃ ao cap, e = .returned (.slice ao (T.num' n).length cap) ∧ w'.ownsRow w.heap.size 3 1 (.slice ao (T.num' n).length cap) (T.num' n).length (ints (T.num' n)) ∧ Below w.heap.size w w' := by
  by_cases ha : n < 0
  · have hr : T.num' n = [] := by rw [T.num', if_pos (.inl ha)]
    rw [hr]
    go_enter Try.func92, Try.ntmps92
    go_wp2_with fail
    go_ret
    exact ⟨none, 0, rfl, World.ownsRow_nil _ _ _ _, Below.refl _ _⟩
  · by_cases hb : 9999 < n
    · have hr : T.num' n = [] := by rw [T.num', if_pos (.inr hb)]
      rw [hr]
      go_enter Try.func92, Try.ntmps92
      go_wp2_with fail
      go_ret
      exact ⟨none, 0, rfl, World.ownsRow_nil _ _ _ _, Below.refl _ _⟩
    · by_cases h0 : n = 0
      · subst h0
        have hr : T.num' 0 = [0] := rfl
        rw [hr]
        go_enter Try.func92, Try.ntmps92
        go_wp2_with fail
        go_ret
        exact ⟨_, 1, rfl, World.ownsRow_lit w _ 1 (Nat.le_refl _) (by simp [maxLen]) rfl, (Below.refl _ _).alloc (Nat.le_refl _) _⟩
      · have hr : T.num' n = [1, n, 0] := by rw [T.num', if_neg (by omega), if_neg h0]
        rw [hr]
        have hz : (n == 0) = false := by simpa using h0
        clear hr h0
        go_enter Try.func92, Try.ntmps92
        go_wp2_with fail
        go_ret
        exact ⟨_, 3, rfl, World.ownsRow_lit w _ 3 (Nat.le_refl _) (by simp [maxLen]) rfl, (Below.refl _ _).alloc (Nat.le_refl _) _⟩


end Go.Proofs.Ytdcgcohfbcdnnaa
