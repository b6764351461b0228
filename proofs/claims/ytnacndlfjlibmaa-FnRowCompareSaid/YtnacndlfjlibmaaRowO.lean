/- Lists of numbers: their ordinals, by the program. -/
import Derived.Test.YtnacndlfjlibmaaRowA
import Derived.Test.YtnacndlfjlibmaaBaseK
import Derived.Test.YtnacndlfjlibmaaFn1
namespace Go.Proofs.Ytnacndlfjlibmaa
set_option maxRecDepth 100000
open Go.RowKit

namespace T
theorem ofDigs_ok {xs : List Int} {t : Nat} (h : xs.length ≤ t) : ok (some (numT t)) (ofDigs numT xs) := by
  induction xs with
  | nil => exact ok_z _
  | cons x xs ih =>
    simp only [List.length_cons] at h
    by_cases hx : x = 0
    · subst hx; rw [ofDigs_skip]; exact ih (by omega)
    · rw [ofDigs_next hx]; exact ok_c.2 (numT_lt (by omega))
theorem ofDigs_nf {xs : List Int} (hl : xs.length ≤ 9999) (h : ∀ x ∈ xs, 0 ≤ x ∧ x ≤ 9999) : (ofDigs numT xs).Nf := by
  induction xs with
  | nil => trivial
  | cons x xs ih =>
    simp only [List.length_cons] at hl
    have ih' := ih (by omega) (fun y hy => h y (List.mem_cons_of_mem _ hy))
    have hx9 := h x List.mem_cons_self
    by_cases hx : x = 0
    · subst hx; rw [ofDigs_skip]; exact ih'
    · rw [ofDigs_next hx]
      exact ⟨by omega, by omega, numT_nf (by omega), ih', ofDigs_ok (Nat.le_refl _)⟩
theorem ofDigs_cnt {f : Nat → T} (xs : List Int) : (ofDigs f xs).cnt ≤ xs.length := by
  induction xs with
  | nil => exact Nat.le_refl _
  | cons x xs ih =>
    simp only [List.length_cons]
    by_cases hx : x = 0
    · subst hx; rw [ofDigs_skip]; omega
    · rw [ofDigs_next hx, cnt]; omega
theorem ofDigs_blen (xs : List Int) : (ofDigs numT xs).body.length ≤ 4 * xs.length := by
  induction xs with
  | nil => exact Nat.le_refl _
  | cons x xs ih =>
    simp only [List.length_cons]
    by_cases hx : x = 0
    · subst hx; rw [ofDigs_skip]; omega
    · have h1 := numT_len xs.length
      have h2 := enc_len (numT xs.length)
      rw [ofDigs_next hx, body]
      simp
      omega
theorem ofDigs_len (xs : List Int) : (ofDigs numT xs).enc.length ≤ 1 + 4 * xs.length := by
  have h1 := ofDigs_blen xs
  have h2 := enc_len (ofDigs numT xs)
  omega
/-- The ordinal of a list. -/
noncomputable def rowOrd (xs : List Int) : List Int := if rowB xs = true then (ofDigs numT xs).enc else []
theorem rowOrd_in {xs : List Int} (h : rowB xs = true) : rowOrd xs = (ofDigs numT xs).enc := by rw [rowOrd, if_pos h]
theorem rowOrd_out {xs : List Int} (h : rowB xs = false) : rowOrd xs = [] := by rw [rowOrd, if_neg (by rw [h]; simp)]
theorem rowOrd_len (xs : List Int) : (rowOrd xs).length ≤ 1000 := by
  rcases row_tf xs with h | h
  · have h1 := ofDigs_len xs
    have h2 := (rowB_true.1 h).1
    rw [rowOrd_in h]
    omega
  · rw [rowOrd_out h]; decide
theorem rowOrd_fit {xs : List Int} (h : rowB xs = true) : fit (ofDigs numT xs) = rowOrd xs := by
  have h1 := rowB_true.1 h
  have h3 := ofDigs_len xs
  rw [rowOrd_in h, fit, if_pos (vld_mk (ofDigs_nf (by omega) (upTo_true.1 h1.2)) (by omega))]
end T

theorem impl_RowOrdN (ao : Option Addr) (n c : Nat) (xs : List Int) (w : World) (h : Sl w ao n c xs) :
    Calls Try.prog 22 #[.slice ao n c] w (IntPostN w (T.rowOrd xs)) := by
  have k1 := Lib.hid (iRowValid_any ao n c xs w h)
  rcases row_tf xs with h1 | h1
  · rw [h1] at k1
    have hl := (rowB_true.1 h1).1
    have hll := T.ofDigs_len xs
    have kd := ofDigits_any _ (enters_of Try.func27 (by kernel_rfl) rfl) #[] T.numT ao n c xs w h (by rw [h.1] at hl; omega) (upTo_true.1 (rowB_true.1 h1).2) (by omega)
      (fun e _ _ _ _ => by have := T.numT_len e; omega)
      (fun e _ wr _ _ he _ => by
        have he9 : e ≤ 9999 := by rw [h.1] at hl; omega
        have h1 := T.numT_row (e := e) he9
        rw [← h1]
        refine (impl_OrdOf e wr (by omega) (by omega)).mono ?_
        rintro ee wx ⟨a, c, rfl, ho, hbx⟩
        exact ⟨a, c, rfl, ho, hbx⟩)
    rw [T.rowOrd_fit h1] at kd
    have Kd := Lib.hid kd
    obtain ⟨r, hr⟩ : ∃ r, r = T.rowOrd xs := ⟨_, rfl⟩
    rw [← hr] at Kd ⊢
    clear h h1 hl hll kd hr
    go_enter Try.func22, Try.ntmps22
    go_wp2_with fail
    refine (k1.out).mono ?_
    rintro ee wx ⟨rfl, rfl⟩
    go_wp2_with fail
    refine (Kd.out).mono ?_
    rintro ee w3 ⟨a, c, rfl, hnn, ho, hb3⟩
    have hfin : IntPostN w r (.returned (.slice a r.length c)) w3 := ⟨a, c, rfl, hnn, ho, hb3⟩
    have Hfin := Lib.hid hfin
    clear ho hb3 hnn hfin
    go_wp2_with fail
    go_ret
    exact Hfin.out
  · rw [h1] at k1
    rw [T.rowOrd_out h1]
    clear h h1
    go_enter Try.func22, Try.ntmps22
    go_wp2_with fail
    refine (k1.out).mono ?_
    rintro ee wx ⟨rfl, rfl⟩
    go_wp2_with fail
    go_ret
    exact IntPostN.nil (Below.refl _ _)

theorem impl_RowOrd (ao : Option Addr) (n c : Nat) (xs : List Int) (w : World) (h : Sl w ao n c xs) :
    Calls Try.prog 22 #[.slice ao n c] w (IntPost w (T.rowOrd xs)) := (impl_RowOrdN ao n c xs w h).mono (fun _ _ h => h.weak)

end Go.Proofs.Ytnacndlfjlibmaa
