/- Lists of numbers: which are valid, by the program and by the model. -/
import Derived.Test.YtnacndlfjlibmaaLawKit
import Derived.Test.YtnacndlfjlibmaaLeaf
import Derived.Deep.LoopGhost
namespace Go.Proofs.Ytnacndlfjlibmaa
set_option maxRecDepth 100000
open Go.RowKit

/-- All numbers of a list are in 0..m. -/
def upTo (m : Int) (xs : List Int) : Bool := decide (∀ x ∈ xs, 0 ≤ x ∧ x ≤ m)
theorem upTo_true {m : Int} {xs : List Int} : upTo m xs = true ↔ ∀ x ∈ xs, 0 ≤ x ∧ x ≤ m := by rw [upTo, decide_eq_true_eq]
theorem upTo_false {m : Int} {xs : List Int} : upTo m xs = false ↔ ¬ ∀ x ∈ xs, 0 ≤ x ∧ x ≤ m := by rw [upTo, decide_eq_false_iff_not]
theorem getD_at {xs : List Int} {k : Nat} (h : k < xs.length) : xs.getD k 0 = xs[k] := by simp [List.getD, h]
theorem getD_in {xs : List Int} {k : Nat} (h : k < xs.length) : xs.getD k 0 ∈ xs := by rw [getD_at h]; exact List.getElem_mem h
theorem upTo_all {m : Int} {xs : List Int} (h : ∀ j, j < xs.length → 0 ≤ xs.getD j 0 ∧ xs.getD j 0 ≤ m) : upTo m xs = true := by
  rw [upTo_true]
  intro x hx
  obtain ⟨j, hj, rfl⟩ := List.mem_iff_getElem.1 hx
  rw [← getD_at hj]
  exact h j hj
theorem upTo_at {m : Int} {xs : List Int} {k : Nat} (hk : k < xs.length) (h : xs.getD k 0 < 0 ∨ m < xs.getD k 0) : upTo m xs = false := by
  rw [upTo_false]
  intro h'
  have := h' _ (getD_in hk)
  omega
theorem upTo_get {m : Int} {xs : List Int} (h : upTo m xs = true) {k : Nat} (hk : k < xs.length) : 0 ≤ xs.getD k 0 ∧ xs.getD k 0 ≤ m := upTo_true.1 h _ (getD_in hk)

/-- A list of one to five numbers from 0 to 9999. -/
def rowB (xs : List Int) : Bool := decide (1 ≤ xs.length ∧ xs.length ≤ 5) && upTo 9999 xs
theorem rowB_true {xs : List Int} : rowB xs = true ↔ (1 ≤ xs.length ∧ xs.length ≤ 5) ∧ upTo 9999 xs = true := by rw [rowB, Bool.and_eq_true, decide_eq_true_eq]
theorem rowB_len {xs : List Int} (h : ¬ (1 ≤ xs.length ∧ xs.length ≤ 5)) : rowB xs = false := by rw [rowB, decide_eq_false h]; rfl
theorem rowB_in {xs : List Int} (h : 1 ≤ xs.length ∧ xs.length ≤ 5) : rowB xs = upTo 9999 xs := by rw [rowB, decide_eq_true h]; rfl
theorem rowB_up {xs : List Int} (h : upTo 9999 xs = false) : rowB xs = false := by rw [rowB, h, Bool.and_false]
theorem row_tf (xs : List Int) : rowB xs = true ∨ rowB xs = false := by cases rowB xs <;> simp
theorem up_tf (m : Int) (xs : List Int) : upTo m xs = true ∨ upTo m xs = false := by cases upTo m xs <;> simp

set_option maxHeartbeats 1000000 in
theorem allUpTo_any (ao : Option Addr) (n c : Nat) (xs : List Int) (m : Int) (w : World) (hb : n ≤ 1000000000000) (h : Sl w ao n c xs) :
    Calls Try.prog 60 #[.slice ao n c, .int .i64 m] w fun e w' => e = .returned (.bool (upTo m xs)) ∧ w = w' := by
  obtain ⟨x1, x2, x3, x4⟩ := h
  have X1 := Lib.hid x1
  have X4 := Lib.hid x4
  obtain ⟨o, ho⟩ : ∃ o, o = upTo m xs := ⟨_, rfl⟩
  rw [← ho]
  have Ho := Lib.hid ho
  clear x1 x4 ho
  go_enter Try.func60, Try.ntmps60
  go_wp2_with fail
  go_loopg [9] n (fun gk i wr => ∃ (k : Nat), gk + k = n ∧ i = .int .i64 k ∧ Hid (∀ j, j < k → 0 ≤ xs.getD j 0 ∧ xs.getD j 0 ≤ m) ∧ w = wr)
  case atStart => exact ⟨0, rfl, rfl, fun j hj => by omega, rfl⟩
  case round =>
    obtain ⟨k, hgk, rfl, HE, rfl⟩ := hrel
    have Hgk := Lib.hid hgk
    have hk : k ≤ n := by omega
    clear hgk
    by_cases hlt : k < n
    · obtain ⟨b, off, rfl, hat⟩ := X4.out (by omega)
      have hkx : k < xs.length := by rw [X1.out]; exact hlt
      have hx : w.cell? ⟨b, off + k, none⟩ = some (.int .i64 (xs.getD k 0)) := hat k hkx
      obtain ⟨x, hxe⟩ : ∃ x, x = xs.getD k 0 := ⟨_, rfl⟩
      rw [← hxe] at hx
      have Hx := Lib.hid hxe
      have Hkx := Lib.hid hkx
      clear hkx hxe
      by_cases hx0 : x < 0
      · have hoF : o = false := by rw [Ho.out]; exact upTo_at Hkx.out (.inl (by rw [← Hx.out]; exact hx0))
        subst hoF
        go_wp2_with fail
        go_ret
        exact ⟨rfl, rfl⟩
      · have hx0' : decide (x < 0) = false := by simpa using hx0
        by_cases hxm : m < x
        · have hoF : o = false := by rw [Ho.out]; exact upTo_at Hkx.out (.inr (by rw [← Hx.out]; exact hxm))
          subst hoF
          go_wp2_with fail
          go_ret
          exact ⟨by simp, rfl⟩
        · have hxm' : decide (m < x) = false := by simpa using hxm
          go_wp2_with fail
          go_roundg (gk - 1)
          case measure => have := Hgk.out; omega
          case rel =>
            refine ⟨k + 1, by have := Hgk.out; omega, by go_num, fun j hj => ?_, rfl⟩
            by_cases hjk : j = k
            · subst hjk; rw [← Hx.out]; omega
            · exact HE.out j (by omega)
    · obtain rfl : k = n := by omega
      have hoT : o = true := by rw [Ho.out]; exact upTo_all (fun j hj => HE.out j (by rw [← X1.out]; exact hj))
      subst hoT
      go_wp2_with fail
      go_ret
      exact ⟨rfl, rfl⟩

theorem iRowValid_any (ao : Option Addr) (n c : Nat) (xs : List Int) (w : World) (h : Sl w ao n c xs) :
    Calls Try.prog 15 #[.slice ao n c] w fun e w' => e = .returned (.bool (rowB xs)) ∧ w = w' := by
  have hn9 : n ≤ 9223372036854775807 := by have h2 := h.2.1; have h3 := h.2.2.1; unfold maxLen at h3; omega
  have Hl := Lib.hid h.1
  by_cases h1 : 1 ≤ n
  · by_cases h5 : n ≤ 5
    · have k1 := Lib.hid (allUpTo_any ao n c xs 9999 w (by omega) h)
      rw [rowB_in (by rw [Hl.out]; exact ⟨h1, h5⟩)]
      clear h
      go_enter Try.func15, Try.ntmps15
      go_wp2_with fail
      refine (k1.out).mono ?_
      rintro ee wx ⟨rfl, rfl⟩
      go_wp2_with fail
      go_ret
      exact ⟨rfl, rfl⟩
    · have h5' : decide ((n : Int) ≤ 5) = false := by simp; omega
      rw [rowB_len (by rw [Hl.out]; omega)]
      clear h
      go_enter Try.func15, Try.ntmps15
      go_wp2_with fail
      go_ret
      exact ⟨rfl, rfl⟩
  · have h1' : decide ((1 : Int) ≤ (n : Int)) = false := by simp; omega
    rw [rowB_len (by rw [Hl.out]; omega)]
    clear h
    go_enter Try.func15, Try.ntmps15
    go_wp2_with fail
    go_ret
    exact ⟨rfl, rfl⟩

set_option maxHeartbeats 1000000 in
theorem sRowValid_any (ao : Option Addr) (n c : Nat) (xs : List Int) (w : World) (h : Sl w ao n c xs) :
    Calls Try.prog 16 #[.slice ao n c] w fun e w' => e = .returned (.bool (rowB xs)) ∧ w = w' := by
  have hn9 : n ≤ 9223372036854775807 := by have h2 := h.2.1; have h3 := h.2.2.1; unfold maxLen at h3; omega
  obtain ⟨x1, x2, x3, x4⟩ := h
  have X1 := Lib.hid x1
  have X4 := Lib.hid x4
  obtain ⟨o, ho⟩ : ∃ o, o = rowB xs := ⟨_, rfl⟩
  rw [← ho]
  have Ho := Lib.hid ho
  clear x1 x2 x3 x4 ho
  go_enter Try.func16, Try.ntmps16
  go_wp2_with fail
  go_loopw [3] (fun i wr => ∃ (k : Nat), k ≤ n ∧ i = .int .i64 k ∧ Hid (∀ j, j < k → 0 ≤ xs.getD j 0 ∧ xs.getD j 0 ≤ 9999) ∧ w = wr) (fun i _ => n - (intOf i).toNat)
  case atStart => exact ⟨0, Nat.zero_le _, rfl, fun j hj => by omega, rfl⟩
  case round =>
    obtain ⟨k, hk, rfl, HE, rfl⟩ := hrel
    by_cases hlt : k < n
    · obtain ⟨b, off, rfl, hat⟩ := X4.out (by omega)
      have hkx : k < xs.length := by rw [X1.out]; exact hlt
      have hx : w.cell? ⟨b, off + k, none⟩ = some (.int .i64 (xs.getD k 0)) := hat k hkx
      obtain ⟨x, hxe⟩ : ∃ x, x = xs.getD k 0 := ⟨_, rfl⟩
      rw [← hxe] at hx
      have Hx := Lib.hid hxe
      have Hkx := Lib.hid hkx
      clear hkx hxe
      by_cases hx0 : x < 0 ∨ 9999 < x
      · have hoF : o = false := by rw [Ho.out]; exact rowB_up (upTo_at Hkx.out (by rw [← Hx.out]; exact hx0))
        subst hoF
        have ci := Lib.hid (l1In_no x 0 9999 w hx0)
        clear hx0
        go_wp2_with fail
        refine (ci.out).mono ?_
        rintro ee wx ⟨rfl, rfl⟩
        go_wp2_with fail
        go_ret
        exact ⟨rfl, rfl⟩
      · have ci := Lib.hid (l1In_yes x 0 9999 w (by omega) (by omega))
        have Hx0 := Lib.hid (show 0 ≤ x ∧ x ≤ 9999 by omega)
        clear hx0
        go_wp2_with fail
        refine (ci.out).mono ?_
        rintro ee wx ⟨rfl, rfl⟩
        go_wp2_with fail
        go_roundw
        case rel =>
          refine ⟨k + 1, by omega, by go_num, fun j hj => ?_, by trivial⟩
          by_cases hjk : j = k
          · subst hjk; rw [← Hx.out]; exact Hx0.out
          · exact HE.out j (by omega)
        case measure => simp [intOf]; omega
    · obtain rfl : k = n := by omega
      have hoT : upTo 9999 xs = true := upTo_all (fun j hj => HE.out j (by rw [← X1.out]; exact hj))
      have HoT := Lib.hid hoT
      clear hoT
      by_cases h15 : 1 ≤ k ∧ k ≤ 5
      · have ci := Lib.hid (l1In_yes (k : Int) 1 5 w (by omega) (by omega))
        have hoF : o = true := by rw [Ho.out, rowB_in (by rw [X1.out]; exact h15)]; exact HoT.out
        subst hoF
        go_wp2_with fail
        refine (ci.out).mono ?_
        rintro ee wx ⟨rfl, rfl⟩
        go_wp2_with fail
        go_ret
        exact ⟨rfl, rfl⟩
      · have ci := Lib.hid (l1In_no (k : Int) 1 5 w (by omega))
        have hoF : o = false := by rw [Ho.out, rowB_len (by rw [X1.out]; exact h15)]
        subst hoF
        go_wp2_with fail
        refine (ci.out).mono ?_
        rintro ee wx ⟨rfl, rfl⟩
        go_wp2_with fail
        go_ret
        exact ⟨rfl, rfl⟩

theorem impl_RowValid (ao : Option Addr) (n c : Nat) (xs : List Int) (w : World) (h : Sl w ao n c xs) :
    Calls Try.prog 15 #[.slice ao n c] w fun e w' => e = .returned (.bool (rowB xs)) ∧ Below w.heap.size w w' :=
  (iRowValid_any ao n c xs w h).mono (fun _ _ h9 => by obtain ⟨h1, rfl⟩ := h9; exact ⟨h1, Below.refl _ _⟩)

theorem spec_RowValid (ao : Option Addr) (n c : Nat) (xs : List Int) (w : World) (h : Sl w ao n c xs) :
    Calls Try.prog 16 #[.slice ao n c] w fun e w' => e = .returned (.bool (rowB xs)) ∧ Below w.heap.size w w' :=
  (sRowValid_any ao n c xs w h).mono (fun _ _ h9 => by obtain ⟨h1, rfl⟩ := h9; exact ⟨h1, Below.refl _ _⟩)

end Go.Proofs.Ytnacndlfjlibmaa
