/- slices.Index and slices.Contains at rows of numbers. -/
import Derived.Test.YtagdeifalkenhaaDoorLawKit
import Derived.Test.YtagdeifalkenhaaDoorLeaf
import Derived.Deep.LoopGhost
namespace Go.Proofs.YtagdeifalkenhaaDoor
set_option maxRecDepth 100000
open Go.RowKit

/-- The first place of a number in a list; -1 where it is not there. -/
def idxI : List Int → Int → Int
  | [], _ => -1
  | x :: t, m => if x = m then 0 else if idxI t m < 0 then -1 else idxI t m + 1
theorem idx_at : ∀ {xs : List Int} {m : Int} {k : Nat}, k < xs.length → xs.getD k 0 = m → (∀ j, j < k → xs.getD j 0 ≠ m) → idxI xs m = k
  | [], _, _, h, _, _ => by simp at h
  | x :: t, m, 0, _, he, _ => by rw [idxI, if_pos (by simpa using he)]; rfl
  | x :: t, m, k + 1, h, he, hn => by
    have h0 := hn 0 (by omega)
    have ih := idx_at (xs := t) (m := m) (k := k) (by simpa using h) (by simpa using he) (fun j hj => by have := hn (j + 1) (by omega); simpa using this)
    rw [idxI, if_neg (by simpa using h0), ih, if_neg (by omega)]
    omega
theorem idx_no : ∀ {xs : List Int} {m : Int}, (∀ j, j < xs.length → xs.getD j 0 ≠ m) → idxI xs m = -1
  | [], _, _ => rfl
  | x :: t, m, h => by
    have h0 := h 0 (by simp)
    have ih := idx_no (xs := t) (m := m) (fun j hj => by have := h (j + 1) (by simpa using hj); simpa using this)
    rw [idxI, if_neg (by simpa using h0), ih, if_pos (by omega)]
theorem idx_mem : ∀ (xs : List Int) (m : Int), 0 ≤ idxI xs m ↔ m ∈ xs
  | [], m => by simp [idxI]
  | x :: t, m => by
    have ih := idx_mem t m
    rw [idxI]
    by_cases hx : x = m
    · rw [if_pos hx, hx]; simp
    · rw [if_neg hx]
      have hx' : ¬ m = x := fun e => hx e.symm
      by_cases h : idxI t m < 0
      · rw [if_pos h]
        have : ¬ m ∈ t := fun h9 => by have := ih.2 h9; omega
        simp [hx', this]
      · rw [if_neg h]
        have := ih.1 (by omega)
        simp [this] <;> omega
theorem idx_lt : ∀ (xs : List Int) (m : Int), idxI xs m < xs.length
  | [], _ => by simp [idxI]
  | x :: t, m => by
    have := idx_lt t m
    rw [idxI]
    split
    · simp <;> omega
    · split
      · simp <;> omega
      · simp <;> omega
theorem idx_ge (xs : List Int) (m : Int) : -1 ≤ idxI xs m := by
  cases xs with
  | nil => simp [idxI]
  | cons x t =>
    rw [idxI]
    split
    · omega
    · split <;> omega
theorem idx_measure {n k : Nat} (h : k < n) : n - (intOf (.int .i64 ((k : Int) + 1))).toNat < n - (intOf (.int .i64 (k : Int))).toNat := by
  simp [intOf]; omega

set_option maxHeartbeats 1000000 in
theorem index_any (ao : Option Addr) (n c : Nat) (xs : List Int) (m : Int) (w : World) (hb : n ≤ 1000000000000) (h : Sl w ao n c xs) :
    Calls Tryd.prog 52 #[.slice ao n c, .int .i64 m] w fun e w' => e = .returned (.int .i64 (idxI xs m)) ∧ w = w' := by
  obtain ⟨x1, x2, x3, x4⟩ := h
  have X1 := Lib.hid x1
  have X4 := Lib.hid x4
  obtain ⟨o, ho⟩ : ∃ o, o = idxI xs m := ⟨_, rfl⟩
  rw [← ho]
  have Ho := Lib.hid ho
  clear x1 x4 ho
  go_enter Tryd.func52, Tryd.ntmps52
  go_wp2_with fail
  go_loopw [5, 8] (fun _ i wr => ∃ (k : Nat), k ≤ n ∧ i = .int .i64 k ∧ Hid (∀ j, j < k → xs.getD j 0 ≠ m) ∧ w = wr) (fun _ i _ => n - (intOf i).toNat)
  case atStart => exact ⟨0, Nat.zero_le _, rfl, fun j hj => by omega, rfl⟩
  case round =>
    obtain ⟨k, hk, rfl, HE, rfl⟩ := hrel
    by_cases hlt : k < n
    · obtain ⟨b, off, rfl, hat⟩ := X4.out (by omega)
      have hkx : k < xs.length := by rw [X1.out]; exact hlt
      have hx : w.cell? ⟨b, off + k, none⟩ = some (.int .i64 (xs.getD k 0)) := hat k hkx
      obtain ⟨x, hxe⟩ : ∃ x, x = xs.getD k 0 := ⟨_, rfl⟩
      rw [← hxe] at hx
      have Hx := Lib.hid hxe
      have Hkx := Lib.hid hkx
      clear hkx hxe
      by_cases hxm : m = x
      · have hoF : o = (k : Int) := by rw [Ho.out]; exact idx_at Hkx.out (by rw [← Hx.out]; exact hxm.symm) HE.out
        have hq : (m == x) = true := by simp [hxm]
        subst hoF
        clear hxm
        go_wp2_with fail
        go_ret
        exact ⟨rfl, rfl⟩
      · have hq : (m == x) = false := by simp [hxm]
        have HE2 := Lib.hid (show ∀ j, j < k + 1 → xs.getD j 0 ≠ m from fun j hj => by
          by_cases hjk : j = k
          · subst hjk; rw [← Hx.out]; exact fun e => hxm e.symm
          · exact HE.out j (by omega))
        clear hxm
        go_wp2_with fail
        go_roundw
        case rel => exact ⟨k + 1, by omega, by go_num, HE2, by trivial⟩
        case measure => exact idx_measure hlt
    · obtain rfl : k = n := by omega
      have hoT : o = -1 := by rw [Ho.out]; exact idx_no (fun j hj => HE.out j (by rw [← X1.out]; exact hj))
      subst hoT
      go_wp2_with fail
      go_ret
      exact ⟨rfl, rfl⟩


end Go.Proofs.YtagdeifalkenhaaDoor
