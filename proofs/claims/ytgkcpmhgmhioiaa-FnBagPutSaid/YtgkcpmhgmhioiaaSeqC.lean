/- slices.Values, slices.Collect. -/
import Derived.Test.YtgkcpmhgmhioiaaSeqA
namespace Go.Proofs.Ytgkcpmhgmhioiaa
set_option maxRecDepth 100000
open Go.RowKit

theorem values_any (a : Option Addr) (n c : Nat) (w : World) :
    Calls Try.prog 79 #[.slice a n c] w fun e w' => e = .returned (.func (.func 91) #[] #[.pointer (some ⟨w.heap.size, 0, none⟩)]) ∧
      w' = w.alloc (.cells #[.slice a n c] 23) := by
  go_enter Try.func79, Try.ntmps79
  go_wp2
  go_ret
  exact ⟨rfl, rfl⟩

theorem collect_any (bs : Nat) (ao : Option Addr) (len cap : Nat) (ns : List Num) (w : World) (hM : len ≤ 3000) (hbs : bs < w.heap.size) (hc1 : w.cell? ⟨bs, 0, none⟩ = some (.slice ao len cap)) (hsl : Sl w ao len cap (nums ns)) :
    Calls Try.prog 89 #[.func (.func 91) #[] #[.pointer (some ⟨bs, 0, none⟩)]] w fun e w' =>
      ∃ v, e = .returned v ∧ w'.ownsRow w.heap.size 3 1 v len (ints (nums ns)) ∧ Below w.heap.size w w' := by
  have ka := Lib.hid (appendSeq_any bs ao len cap ns w hM hbs hc1 hsl)
  clear hc1 hsl
  go_enter Try.func89, Try.ntmps89
  go_wp2_with fail
  refine (ka.out).mono ?_
  rintro ee w1 ⟨v, rfl, ho, hb⟩
  have Ho := Lib.hid ho
  have Hb := Lib.hid hb
  clear ho hb
  go_wp2_with fail
  go_ret
  exact ⟨v, rfl, Ho.out, Hb.out⟩

end Go.Proofs.Ytgkcpmhgmhioiaa
