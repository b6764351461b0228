/- Lists of numbers: which are valid, by the program and by the model. -/
import Derived.Test.YtagdeifalkenhaaDoorLawKit
import Derived.Test.YtagdeifalkenhaaDoorLeaf
import Derived.Deep.LoopGhost
namespace Go.Proofs.YtagdeifalkenhaaDoor
set_option maxRecDepth 100000
open Go.RowKit

/-- All numbers of a list are in 0..m. -/
def upTo (m : Int) (xs : List Int) : Bool := decide (∀ x ∈ xs, 0 ≤ x ∧ x ≤ m)
theorem upTo_true {m : Int} {xs : List Int} : upTo m xs = true ↔ ∀ x ∈ xs, 0 ≤ x ∧ x ≤ m := by rw [upTo, decide_eq_true_eq]
theorem upTo_false {m : Int} {xs : List Int} : upTo m xs = false ↔ ¬ ∀ x ∈ xs, 0 ≤ x ∧ x ≤ m := by rw [upTo, decide_eq_false_iff_not]
theorem getD_at {xs : List Int} {k : Nat} (h : k < xs.length) : xs.getD k 0 = xs[k] := by simp [List.getD, h]
theorem getD_in {xs : List Int} {k : Nat} (h : k < xs.length) : xs.getD k 0 ∈ xs := by rw [getD_at h]; exact List.getElem_mem h
theorem upTo_all {m : Int} {xs : List Int} (h : ∀ j, j < xs.length → 0 ≤ xs.getD j 0 ∧ xs.getD j 0 ≤ m) : upTo m xs = true := by
  rw [upTo_true]
  intro x hx
  obtain ⟨j, hj, rfl⟩ := List.mem_iff_getElem.1 hx
  rw [← getD_at hj]
  exact h j hj
theorem upTo_at {m : Int} {xs : List Int} {k : Nat} (hk : k < xs.length) (h : xs.getD k 0 < 0 ∨ m < xs.getD k 0) : upTo m xs = false := by
  rw [upTo_false]
  intro h'
  have := h' _ (getD_in hk)
  omega
theorem upTo_get {m : Int} {xs : List Int} (h : upTo m xs = true) {k : Nat} (hk : k < xs.length) : 0 ≤ xs.getD k 0 ∧ xs.getD k 0 ≤ m := upTo_true.1 h _ (getD_in hk)

/-- A list of one to five numbers from 0 to 9999. -/
def rowB (xs : List Int) : Bool := decide (1 ≤ xs.length ∧ xs.length ≤ 5) && upTo 9999 xs
theorem rowB_true {xs : List Int} : rowB xs = true ↔ (1 ≤ xs.length ∧ xs.length ≤ 5) ∧ upTo 9999 xs = true := by rw [rowB, Bool.and_eq_true, decide_eq_true_eq]
theorem rowB_len {xs : List Int} (h : ¬ (1 ≤ xs.length ∧ xs.length ≤ 5)) : rowB xs = false := by rw [rowB, decide_eq_false h]; rfl
theorem rowB_in {xs : List Int} (h : 1 ≤ xs.length ∧ xs.length ≤ 5) : rowB xs = upTo 9999 xs := by rw [rowB, decide_eq_true h]; rfl
theorem rowB_up {xs : List Int} (h : upTo 9999 xs = false) : rowB xs = false := by rw [rowB, h, Bool.and_false]
theorem row_tf (xs : List Int) : rowB xs = true ∨ rowB xs = false := by cases rowB xs <;> simp
theorem up_tf (m : Int) (xs : List Int) : upTo m xs = true ∨ upTo m xs = false := by cases upTo m xs <;> simp

set_option maxHeartbeats 1000000 in
theorem allUpTo_any (ao : Option Addr) (n c : Nat) (xs : List Int) (m : Int) (w : World) (hb : n ≤ 1000000000000) (h : Sl w ao n c xs) :
    Calls Tryd.prog 30 #[.slice ao n c, .int .i64 m] w fun e w' => e = .returned (.bool (upTo m xs)) ∧ w = w' := by
  obtain ⟨x1, x2, x3, x4⟩ := h
  have X1 := Lib.hid x1
  have X4 := Lib.hid x4
  obtain ⟨o, ho⟩ : ∃ o, o = upTo m xs := ⟨_, rfl⟩
  rw [← ho]
  have Ho := Lib.hid ho
  clear x1 x4 ho
  go_enter Tryd.func30, Tryd.ntmps30
  go_wp2_with fail
  go_loopg [9] n (fun gk i wr => ∃ (k : Nat), gk + k = n ∧ i = .int .i64 k ∧ Hid (∀ j, j < k → 0 ≤ xs.getD j 0 ∧ xs.getD j 0 ≤ m) ∧ w = wr)
  case atStart => exact ⟨0, rfl, rfl, fun j hj => by omega, rfl⟩
  case round =>
    obtain ⟨k, hgk, rfl, HE, rfl⟩ := hrel
    have Hgk := Lib.hid hgk
    have hk : k ≤ n := by omega
    clear hgk
    by_cases hlt : k < n
    · obtain ⟨b, off, rfl, hat⟩ := X4.out (by omega)
      have hkx : k < xs.length := by rw [X1.out]; exact hlt
      have hx : w.cell? ⟨b, off + k, none⟩ = some (.int .i64 (xs.getD k 0)) := hat k hkx
      obtain ⟨x, hxe⟩ : ∃ x, x = xs.getD k 0 := ⟨_, rfl⟩
      rw [← hxe] at hx
      have Hx := Lib.hid hxe
      have Hkx := Lib.hid hkx
      clear hkx hxe
      by_cases hx0 : x < 0
      · have hoF : o = false := by rw [Ho.out]; exact upTo_at Hkx.out (.inl (by rw [← Hx.out]; exact hx0))
        subst hoF
        go_wp2_with fail
        go_ret
        exact ⟨rfl, rfl⟩
      · have hx0' : decide (x < 0) = false := by simpa using hx0
        by_cases hxm : m < x
        · have hoF : o = false := by rw [Ho.out]; exact upTo_at Hkx.out (.inr (by rw [← Hx.out]; exact hxm))
          subst hoF
          go_wp2_with fail
          go_ret
          exact ⟨by simp, rfl⟩
        · have hxm' : decide (m < x) = false := by simpa using hxm
          go_wp2_with fail
          go_roundg (gk - 1)
          case measure => have := Hgk.out; omega
          case rel =>
            refine ⟨k + 1, by have := Hgk.out; omega, by go_num, fun j hj => ?_, rfl⟩
            by_cases hjk : j = k
            · subst hjk; rw [← Hx.out]; omega
            · exact HE.out j (by omega)
    · obtain rfl : k = n := by omega
      have hoT : o = true := by rw [Ho.out]; exact upTo_all (fun j hj => HE.out j (by rw [← X1.out]; exact hj))
      subst hoT
      go_wp2_with fail
      go_ret
      exact ⟨rfl, rfl⟩





end Go.Proofs.YtagdeifalkenhaaDoor
