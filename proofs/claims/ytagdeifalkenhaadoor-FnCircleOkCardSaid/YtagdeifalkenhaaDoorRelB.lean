/- Relations: whether a point is in a set, by the model. -/
import Derived.Test.YtagdeifalkenhaaDoorRelA
namespace Go.Proofs.YtagdeifalkenhaaDoor
set_option maxRecDepth 100000
open Go.RowKit

/-- Whether a point is in a set, as a number. -/
def bitI (s k : Nat) : Int := if s.testBit k = true then 1 else 0
theorem bitI_1 {s k : Nat} (h : s.testBit k = true) : bitI s k = 1 := by rw [bitI, if_pos h]
theorem bitI_0 {s k : Nat} (h : s.testBit k = false) : bitI s k = 0 := by rw [bitI, h]; rfl
theorem bitI_eq (s k : Nat) : (bitI s k == 1) = s.testBit k := by
  cases h : s.testBit k
  · rw [bitI_0 h]; rfl
  · rw [bitI_1 h]; rfl
theorem bit_tf (s k : Nat) : s.testBit k = true ∨ s.testBit k = false := by cases s.testBit k <;> simp

theorem l7Bit_any (s k : Nat) (hk : k ≤ 60) (w : World) :
    Calls Tryd.prog 34 #[.int .i64 s, .int .i64 k] w fun e w' => e = .returned (.int .i64 (bitI s k)) ∧ w = w' := by
  have hb := bit_div s k
  have h0 : (0 : Int) ≤ (s : Int) / 2 ^ k := by
    have hd : ((s : Int) / 2 ^ k) = ((s / 2 ^ k : Nat) : Int) := by simp
    rw [hd]; exact Int.natCast_nonneg _
  have ht : ((s : Int) / 2 ^ k).tmod 2 = bitI s k := by rw [Int.tmod_eq_emod_of_nonneg h0, hb]; rfl
  obtain ⟨z, hz⟩ : ∃ z : Int, z = bitI s k := ⟨_, rfl⟩
  rw [← hz] at ht ⊢
  have Ht := Lib.hid ht
  clear hz ht h0 hb
  go_enter Tryd.func34, Tryd.ntmps34
  go_wp2_with fail
  rw [Ht.out]
  go_ret
  exact ⟨rfl, rfl⟩
end Go.Proofs.YtagdeifalkenhaaDoor
