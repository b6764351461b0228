/- Relations: WalksTo of the program and of the model. -/
import Derived.Test.YtagdeifalkenhaaDoorRelB
import Derived.Test.YtagdeifalkenhaaDoorRelD
import Derived.Test.YtagdeifalkenhaaDoorRelW
import Derived.Test.YtagdeifalkenhaaDoorIdx
namespace Go.Proofs.YtagdeifalkenhaaDoor
set_option maxRecDepth 100000
open Go.RowKit

theorem sum_wrap {a b : Nat} (ha : a < 4096) (hb : b ≤ 4096) : wrap64 ((a : Int) + (b : Int)) = ((a + b : Nat) : Int) := by
  rw [IntWalk.wrap64_in _ (by omega)]; omega
theorem bitI_k1 {s k : Nat} (h : s.testBit k = true) {P : Program} {f : Nat} (hc : ∀ w : World, Calls P f #[.int .i64 s, .int .i64 k] w fun e w' => e = .returned (.int .i64 (bitI s k)) ∧ w = w') (w : World) :
    Calls P f #[.int .i64 s, .int .i64 k] w fun e w' => e = .returned (.int .i64 1) ∧ w = w' := by
  have h9 := hc w
  rw [bitI_1 h] at h9
  exact h9
theorem bitI_k0 {s k : Nat} (h : s.testBit k = false) {P : Program} {f : Nat} (hc : ∀ w : World, Calls P f #[.int .i64 s, .int .i64 k] w fun e w' => e = .returned (.int .i64 (bitI s k)) ∧ w = w') (w : World) :
    Calls P f #[.int .i64 s, .int .i64 k] w fun e w' => e = .returned (.int .i64 0) ∧ w = w' := by
  have h9 := hc w
  rw [bitI_0 h] at h9
  exact h9



end Go.Proofs.YtagdeifalkenhaaDoor
