/-
  No cell of these rows narrows 'for every input' (looked for: loops, veiled, ifaces, maps, wideKeys, modest, calm, conditions, laid).
  DERIVED. THE GIVEN ROWS OF THIS SEAT. 12 by the template 'for every input the law returns true; each argument reads behind the call as it read before'; 0 by the template 'total and deterministic' (their statements: YtienfbdgghnnpaaTotals.lean).
  GIVEN WITH THE SEED: the statements are not yours to turn. If you find one false, say at which input.
  Laid BY PROGRAM, IN A SANDBOX (cutbox-rows.mjs): the forced cells as the released guide's own fill.sh prints them over the translation 3864365e640b2ad9… (all of the seat's roots in one cut). By AI agents, Wed Nov 11 2026. No macro, syntax, notation, axiom, sorry.
-/
import Derived.Test.YtienfbdgghnnpaaChecked
import GoSem.Claim
import GoSem.ClaimJoined
import GoSem.ClaimMapViews
import Derived.JoinedTies
import Derived.KernelRfl
namespace Go.Proofs.Ytienfbdgghnnpaa
/- THE CELL 'sum', in the pinned program and in every row, IS THE sha256 OF THE DUMP (.gsa) THAT YtienfbdgghnnpaaProg.lean LOADS. Nothing in Lean hashes anything: it is a label: what it is worth is what the hold of that sum in a sandbox is worth. -/
noncomputable def Try.pinned : Pinned := { name := "ytienfbdgghnnpaa", sum := "3864365e640b2ad9b18f149cc64a59baf6a46cd6a61ca765f0be50c01475da9d", checked := Try.checked }
namespace Rows
def none {H : Type} : Left H := { results := [], args := [] }

/-- 'laws.FnOrdValid': WHATEVER THE INPUT: true; the input reads as it did. -/
def fnOrdValidSpec : ChangeSpec := { name := "fnOrdValid", fn := fun _ => fun
  | [d] => { results := [.lit (.bool true)], args := [d] }
  | _ => none }
def fnOrdValidRow : OpenClaim := { program := "ytienfbdgghnnpaa", sum := "3864365e640b2ad9b18f149cc64a59baf6a46cd6a61ca765f0be50c01475da9d", func := "loop.example/ordinalhydras/laws.FnOrdValid", spec := "fnOrdValid", recurses := true, apart := false }
def FnOrdValidSaid : Prop := fnOrdValidRow.holds Try.pinned (OpenSpec.ofChange fnOrdValidSpec)

/-- ITS FALSE NEIGHBOUR: 'it returns false'. Refute it at one input. -/
def fnOrdValidWrong : ChangeSpec := { name := "fnOrdValid", fn := fun _ => fun
  | [d] => { results := [.lit (.bool false)], args := [d] }
  | _ => none }
def FnOrdValidWrongFalsely : Prop := fnOrdValidRow.holds Try.pinned (OpenSpec.ofChange fnOrdValidWrong)

/-- 'laws.FnExactOrdValid': WHATEVER THE INPUT: true; the input reads as it did. -/
def fnExactOrdValidSpec : ChangeSpec := { name := "fnExactOrdValid", fn := fun _ => fun
  | [d] => { results := [.lit (.bool true)], args := [d] }
  | _ => none }
def fnExactOrdValidRow : OpenClaim := { program := "ytienfbdgghnnpaa", sum := "3864365e640b2ad9b18f149cc64a59baf6a46cd6a61ca765f0be50c01475da9d", func := "loop.example/ordinalhydras/laws.FnExactOrdValid", spec := "fnExactOrdValid", recurses := true, apart := false }
def FnExactOrdValidSaid : Prop := fnExactOrdValidRow.holds Try.pinned (OpenSpec.ofChange fnExactOrdValidSpec)

/-- ITS FALSE NEIGHBOUR: 'it returns false'. Refute it at one input. -/
def fnExactOrdValidWrong : ChangeSpec := { name := "fnExactOrdValid", fn := fun _ => fun
  | [d] => { results := [.lit (.bool false)], args := [d] }
  | _ => none }
def FnExactOrdValidWrongFalsely : Prop := fnExactOrdValidRow.holds Try.pinned (OpenSpec.ofChange fnExactOrdValidWrong)

/-- 'laws.FnOrdCompare': WHATEVER THE INPUT: true; the input reads as it did. -/
def fnOrdCompareSpec : ChangeSpec := { name := "fnOrdCompare", fn := fun _ => fun
  | [d1, d2] => { results := [.lit (.bool true)], args := [d1, d2] }
  | _ => none }
def fnOrdCompareRow : OpenClaim := { program := "ytienfbdgghnnpaa", sum := "3864365e640b2ad9b18f149cc64a59baf6a46cd6a61ca765f0be50c01475da9d", func := "loop.example/ordinalhydras/laws.FnOrdCompare", spec := "fnOrdCompare", recurses := true, apart := false }
def FnOrdCompareSaid : Prop := fnOrdCompareRow.holds Try.pinned (OpenSpec.ofChange fnOrdCompareSpec)

/-- ITS FALSE NEIGHBOUR: 'it returns false'. Refute it at one input. -/
def fnOrdCompareWrong : ChangeSpec := { name := "fnOrdCompare", fn := fun _ => fun
  | [d1, d2] => { results := [.lit (.bool false)], args := [d1, d2] }
  | _ => none }
def FnOrdCompareWrongFalsely : Prop := fnOrdCompareRow.holds Try.pinned (OpenSpec.ofChange fnOrdCompareWrong)

/-- 'laws.FnExactOrdCompare': WHATEVER THE INPUT: true; the input reads as it did. -/
def fnExactOrdCompareSpec : ChangeSpec := { name := "fnExactOrdCompare", fn := fun _ => fun
  | [d1, d2] => { results := [.lit (.bool true)], args := [d1, d2] }
  | _ => none }
def fnExactOrdCompareRow : OpenClaim := { program := "ytienfbdgghnnpaa", sum := "3864365e640b2ad9b18f149cc64a59baf6a46cd6a61ca765f0be50c01475da9d", func := "loop.example/ordinalhydras/laws.FnExactOrdCompare", spec := "fnExactOrdCompare", recurses := true, apart := false }
def FnExactOrdCompareSaid : Prop := fnExactOrdCompareRow.holds Try.pinned (OpenSpec.ofChange fnExactOrdCompareSpec)

/-- ITS FALSE NEIGHBOUR: 'it returns false'. Refute it at one input. -/
def fnExactOrdCompareWrong : ChangeSpec := { name := "fnExactOrdCompare", fn := fun _ => fun
  | [d1, d2] => { results := [.lit (.bool false)], args := [d1, d2] }
  | _ => none }
def FnExactOrdCompareWrongFalsely : Prop := fnExactOrdCompareRow.holds Try.pinned (OpenSpec.ofChange fnExactOrdCompareWrong)

/-- 'laws.FnOrdOf': WHATEVER THE INPUT: true; the input reads as it did. -/
def fnOrdOfSpec : ChangeSpec := { name := "fnOrdOf", fn := fun _ => fun
  | [d] => { results := [.lit (.bool true)], args := [d] }
  | _ => none }
def fnOrdOfRow : OpenClaim := { program := "ytienfbdgghnnpaa", sum := "3864365e640b2ad9b18f149cc64a59baf6a46cd6a61ca765f0be50c01475da9d", func := "loop.example/ordinalhydras/laws.FnOrdOf", spec := "fnOrdOf", recurses := true, apart := false }
def FnOrdOfSaid : Prop := fnOrdOfRow.holds Try.pinned (OpenSpec.ofChange fnOrdOfSpec)

/-- ITS FALSE NEIGHBOUR: 'it returns false'. Refute it at one input. -/
def fnOrdOfWrong : ChangeSpec := { name := "fnOrdOf", fn := fun _ => fun
  | [d] => { results := [.lit (.bool false)], args := [d] }
  | _ => none }
def FnOrdOfWrongFalsely : Prop := fnOrdOfRow.holds Try.pinned (OpenSpec.ofChange fnOrdOfWrong)

/-- 'laws.FnExactOrdOf': WHATEVER THE INPUT: true; the input reads as it did. -/
def fnExactOrdOfSpec : ChangeSpec := { name := "fnExactOrdOf", fn := fun _ => fun
  | [d] => { results := [.lit (.bool true)], args := [d] }
  | _ => none }
def fnExactOrdOfRow : OpenClaim := { program := "ytienfbdgghnnpaa", sum := "3864365e640b2ad9b18f149cc64a59baf6a46cd6a61ca765f0be50c01475da9d", func := "loop.example/ordinalhydras/laws.FnExactOrdOf", spec := "fnExactOrdOf", apart := false }
def FnExactOrdOfSaid : Prop := fnExactOrdOfRow.holds Try.pinned (OpenSpec.ofChange fnExactOrdOfSpec)

/-- ITS FALSE NEIGHBOUR: 'it returns false'. Refute it at one input. -/
def fnExactOrdOfWrong : ChangeSpec := { name := "fnExactOrdOf", fn := fun _ => fun
  | [d] => { results := [.lit (.bool false)], args := [d] }
  | _ => none }
def FnExactOrdOfWrongFalsely : Prop := fnExactOrdOfRow.holds Try.pinned (OpenSpec.ofChange fnExactOrdOfWrong)

/-- 'laws.FnOrdNumber': WHATEVER THE INPUT: true; the input reads as it did. -/
def fnOrdNumberSpec : ChangeSpec := { name := "fnOrdNumber", fn := fun _ => fun
  | [d] => { results := [.lit (.bool true)], args := [d] }
  | _ => none }
def fnOrdNumberRow : OpenClaim := { program := "ytienfbdgghnnpaa", sum := "3864365e640b2ad9b18f149cc64a59baf6a46cd6a61ca765f0be50c01475da9d", func := "loop.example/ordinalhydras/laws.FnOrdNumber", spec := "fnOrdNumber", recurses := true, apart := false }
def FnOrdNumberSaid : Prop := fnOrdNumberRow.holds Try.pinned (OpenSpec.ofChange fnOrdNumberSpec)

/-- ITS FALSE NEIGHBOUR: 'it returns false'. Refute it at one input. -/
def fnOrdNumberWrong : ChangeSpec := { name := "fnOrdNumber", fn := fun _ => fun
  | [d] => { results := [.lit (.bool false)], args := [d] }
  | _ => none }
def FnOrdNumberWrongFalsely : Prop := fnOrdNumberRow.holds Try.pinned (OpenSpec.ofChange fnOrdNumberWrong)

/-- 'laws.FnExactOrdNumber': WHATEVER THE INPUT: true; the input reads as it did. -/
def fnExactOrdNumberSpec : ChangeSpec := { name := "fnExactOrdNumber", fn := fun _ => fun
  | [d] => { results := [.lit (.bool true)], args := [d] }
  | _ => none }
def fnExactOrdNumberRow : OpenClaim := { program := "ytienfbdgghnnpaa", sum := "3864365e640b2ad9b18f149cc64a59baf6a46cd6a61ca765f0be50c01475da9d", func := "loop.example/ordinalhydras/laws.FnExactOrdNumber", spec := "fnExactOrdNumber", recurses := true, apart := false }
def FnExactOrdNumberSaid : Prop := fnExactOrdNumberRow.holds Try.pinned (OpenSpec.ofChange fnExactOrdNumberSpec)

/-- ITS FALSE NEIGHBOUR: 'it returns false'. Refute it at one input. -/
def fnExactOrdNumberWrong : ChangeSpec := { name := "fnExactOrdNumber", fn := fun _ => fun
  | [d] => { results := [.lit (.bool false)], args := [d] }
  | _ => none }
def FnExactOrdNumberWrongFalsely : Prop := fnExactOrdNumberRow.holds Try.pinned (OpenSpec.ofChange fnExactOrdNumberWrong)

/-- 'laws.FnOrdPower': WHATEVER THE INPUT: true; the input reads as it did. -/
def fnOrdPowerSpec : ChangeSpec := { name := "fnOrdPower", fn := fun _ => fun
  | [d1, d2] => { results := [.lit (.bool true)], args := [d1, d2] }
  | _ => none }
def fnOrdPowerRow : OpenClaim := { program := "ytienfbdgghnnpaa", sum := "3864365e640b2ad9b18f149cc64a59baf6a46cd6a61ca765f0be50c01475da9d", func := "loop.example/ordinalhydras/laws.FnOrdPower", spec := "fnOrdPower", recurses := true, apart := false }
def FnOrdPowerSaid : Prop := fnOrdPowerRow.holds Try.pinned (OpenSpec.ofChange fnOrdPowerSpec)

/-- ITS FALSE NEIGHBOUR: 'it returns false'. Refute it at one input. -/
def fnOrdPowerWrong : ChangeSpec := { name := "fnOrdPower", fn := fun _ => fun
  | [d1, d2] => { results := [.lit (.bool false)], args := [d1, d2] }
  | _ => none }
def FnOrdPowerWrongFalsely : Prop := fnOrdPowerRow.holds Try.pinned (OpenSpec.ofChange fnOrdPowerWrong)

/-- 'laws.FnExactOrdPower': WHATEVER THE INPUT: true; the input reads as it did. -/
def fnExactOrdPowerSpec : ChangeSpec := { name := "fnExactOrdPower", fn := fun _ => fun
  | [d] => { results := [.lit (.bool true)], args := [d] }
  | _ => none }
def fnExactOrdPowerRow : OpenClaim := { program := "ytienfbdgghnnpaa", sum := "3864365e640b2ad9b18f149cc64a59baf6a46cd6a61ca765f0be50c01475da9d", func := "loop.example/ordinalhydras/laws.FnExactOrdPower", spec := "fnExactOrdPower", recurses := true, apart := false }
def FnExactOrdPowerSaid : Prop := fnExactOrdPowerRow.holds Try.pinned (OpenSpec.ofChange fnExactOrdPowerSpec)

/-- ITS FALSE NEIGHBOUR: 'it returns false'. Refute it at one input. -/
def fnExactOrdPowerWrong : ChangeSpec := { name := "fnExactOrdPower", fn := fun _ => fun
  | [d] => { results := [.lit (.bool false)], args := [d] }
  | _ => none }
def FnExactOrdPowerWrongFalsely : Prop := fnExactOrdPowerRow.holds Try.pinned (OpenSpec.ofChange fnExactOrdPowerWrong)

/-- 'laws.FnOrdKind': WHATEVER THE INPUT: true; the input reads as it did. -/
def fnOrdKindSpec : ChangeSpec := { name := "fnOrdKind", fn := fun _ => fun
  | [d] => { results := [.lit (.bool true)], args := [d] }
  | _ => none }
def fnOrdKindRow : OpenClaim := { program := "ytienfbdgghnnpaa", sum := "3864365e640b2ad9b18f149cc64a59baf6a46cd6a61ca765f0be50c01475da9d", func := "loop.example/ordinalhydras/laws.FnOrdKind", spec := "fnOrdKind", recurses := true, apart := false }
def FnOrdKindSaid : Prop := fnOrdKindRow.holds Try.pinned (OpenSpec.ofChange fnOrdKindSpec)

/-- ITS FALSE NEIGHBOUR: 'it returns false'. Refute it at one input. -/
def fnOrdKindWrong : ChangeSpec := { name := "fnOrdKind", fn := fun _ => fun
  | [d] => { results := [.lit (.bool false)], args := [d] }
  | _ => none }
def FnOrdKindWrongFalsely : Prop := fnOrdKindRow.holds Try.pinned (OpenSpec.ofChange fnOrdKindWrong)

/-- 'laws.FnExactOrdKind': WHATEVER THE INPUT: true; the input reads as it did. -/
def fnExactOrdKindSpec : ChangeSpec := { name := "fnExactOrdKind", fn := fun _ => fun
  | [d] => { results := [.lit (.bool true)], args := [d] }
  | _ => none }
def fnExactOrdKindRow : OpenClaim := { program := "ytienfbdgghnnpaa", sum := "3864365e640b2ad9b18f149cc64a59baf6a46cd6a61ca765f0be50c01475da9d", func := "loop.example/ordinalhydras/laws.FnExactOrdKind", spec := "fnExactOrdKind", recurses := true, apart := false }
def FnExactOrdKindSaid : Prop := fnExactOrdKindRow.holds Try.pinned (OpenSpec.ofChange fnExactOrdKindSpec)

/-- ITS FALSE NEIGHBOUR: 'it returns false'. Refute it at one input. -/
def fnExactOrdKindWrong : ChangeSpec := { name := "fnExactOrdKind", fn := fun _ => fun
  | [d] => { results := [.lit (.bool false)], args := [d] }
  | _ => none }
def FnExactOrdKindWrongFalsely : Prop := fnExactOrdKindRow.holds Try.pinned (OpenSpec.ofChange fnExactOrdKindWrong)

/- THE SECOND FORM. 'bulk': how many values and letters a reading holds, each counted each time it is reached (what is shared counts as often as it is met; a slice's spare places count too). A statement '..UptoSaid' is the law's where the arguments, and the package variables that the reading takes, are together of bulk at most 1048576: NARROWER than '..Said'. Prove '..Said' where nothing that the law and all that it calls make is longer than what came in: it says more and counts as full. Else prove '..UptoSaid'. A law counts once. -/
mutual
def uptoBulk {H : Type} : DataW H → Nat
  | .lit (.string bytes) => bytes.length + 1
  | .lit _ => 1
  | .nil => 1
  | .ptr d => uptoBulk d + 1
  | .slice elems spare => uptoBulkAll elems + uptoBulkAll spare + 1
  | .agg parts => uptoBulkAll parts + 1
  | .iface _ d => uptoBulk d + 1
  | .map entries => uptoBulkEntries entries + 1
  | .held _ => 1
def uptoBulkAll {H : Type} : List (DataW H) → Nat
  | [] => 0
  | d :: r => uptoBulk d + uptoBulkAll r
def uptoBulkEntries {H : Type} : List (Lit × DataW H) → Nat
  | [] => 0
  | x :: r => uptoBulkEntry x + uptoBulkEntries r
def uptoBulkEntry {H : Type} : Lit × DataW H → Nat
  | (.string bytes, d) => bytes.length + uptoBulk d + 1
  | (_, d) => uptoBulk d + 1
 end
def uptoSmall : (H : Type) → List (DataW H) → Bool := fun _ ds => decide (uptoBulkAll ds ≤ 1048576)
def OpenSpec.upto (s : _root_.Go.ChangeSpec) : _root_.Go.OpenSpec := { _root_.Go.OpenSpec.ofChange s with cond := some uptoSmall }

/-- 'laws.FnOrdValid', WHERE WHAT IT READS IS OF BULK AT MOST 1048576: true; the input reads as it did. -/
def fnOrdValidUptoRow : OpenClaim := { program := "ytienfbdgghnnpaa", sum := "3864365e640b2ad9b18f149cc64a59baf6a46cd6a61ca765f0be50c01475da9d", func := "loop.example/ordinalhydras/laws.FnOrdValid", spec := "fnOrdValid", recurses := true, apart := false, narrowed := true }
def FnOrdValidUptoSaid : Prop := fnOrdValidUptoRow.holds Try.pinned (OpenSpec.upto fnOrdValidSpec)

/-- 'laws.FnExactOrdValid', WHERE WHAT IT READS IS OF BULK AT MOST 1048576: true; the input reads as it did. -/
def fnExactOrdValidUptoRow : OpenClaim := { program := "ytienfbdgghnnpaa", sum := "3864365e640b2ad9b18f149cc64a59baf6a46cd6a61ca765f0be50c01475da9d", func := "loop.example/ordinalhydras/laws.FnExactOrdValid", spec := "fnExactOrdValid", recurses := true, apart := false, narrowed := true }
def FnExactOrdValidUptoSaid : Prop := fnExactOrdValidUptoRow.holds Try.pinned (OpenSpec.upto fnExactOrdValidSpec)

/-- 'laws.FnOrdCompare', WHERE WHAT IT READS IS OF BULK AT MOST 1048576: true; the input reads as it did. -/
def fnOrdCompareUptoRow : OpenClaim := { program := "ytienfbdgghnnpaa", sum := "3864365e640b2ad9b18f149cc64a59baf6a46cd6a61ca765f0be50c01475da9d", func := "loop.example/ordinalhydras/laws.FnOrdCompare", spec := "fnOrdCompare", recurses := true, apart := false, narrowed := true }
def FnOrdCompareUptoSaid : Prop := fnOrdCompareUptoRow.holds Try.pinned (OpenSpec.upto fnOrdCompareSpec)

/-- 'laws.FnExactOrdCompare', WHERE WHAT IT READS IS OF BULK AT MOST 1048576: true; the input reads as it did. -/
def fnExactOrdCompareUptoRow : OpenClaim := { program := "ytienfbdgghnnpaa", sum := "3864365e640b2ad9b18f149cc64a59baf6a46cd6a61ca765f0be50c01475da9d", func := "loop.example/ordinalhydras/laws.FnExactOrdCompare", spec := "fnExactOrdCompare", recurses := true, apart := false, narrowed := true }
def FnExactOrdCompareUptoSaid : Prop := fnExactOrdCompareUptoRow.holds Try.pinned (OpenSpec.upto fnExactOrdCompareSpec)

/-- 'laws.FnOrdOf', WHERE WHAT IT READS IS OF BULK AT MOST 1048576: true; the input reads as it did. -/
def fnOrdOfUptoRow : OpenClaim := { program := "ytienfbdgghnnpaa", sum := "3864365e640b2ad9b18f149cc64a59baf6a46cd6a61ca765f0be50c01475da9d", func := "loop.example/ordinalhydras/laws.FnOrdOf", spec := "fnOrdOf", recurses := true, apart := false, narrowed := true }
def FnOrdOfUptoSaid : Prop := fnOrdOfUptoRow.holds Try.pinned (OpenSpec.upto fnOrdOfSpec)

/-- 'laws.FnExactOrdOf', WHERE WHAT IT READS IS OF BULK AT MOST 1048576: true; the input reads as it did. -/
def fnExactOrdOfUptoRow : OpenClaim := { program := "ytienfbdgghnnpaa", sum := "3864365e640b2ad9b18f149cc64a59baf6a46cd6a61ca765f0be50c01475da9d", func := "loop.example/ordinalhydras/laws.FnExactOrdOf", spec := "fnExactOrdOf", apart := false, narrowed := true }
def FnExactOrdOfUptoSaid : Prop := fnExactOrdOfUptoRow.holds Try.pinned (OpenSpec.upto fnExactOrdOfSpec)

/-- 'laws.FnOrdNumber', WHERE WHAT IT READS IS OF BULK AT MOST 1048576: true; the input reads as it did. -/
def fnOrdNumberUptoRow : OpenClaim := { program := "ytienfbdgghnnpaa", sum := "3864365e640b2ad9b18f149cc64a59baf6a46cd6a61ca765f0be50c01475da9d", func := "loop.example/ordinalhydras/laws.FnOrdNumber", spec := "fnOrdNumber", recurses := true, apart := false, narrowed := true }
def FnOrdNumberUptoSaid : Prop := fnOrdNumberUptoRow.holds Try.pinned (OpenSpec.upto fnOrdNumberSpec)

/-- 'laws.FnExactOrdNumber', WHERE WHAT IT READS IS OF BULK AT MOST 1048576: true; the input reads as it did. -/
def fnExactOrdNumberUptoRow : OpenClaim := { program := "ytienfbdgghnnpaa", sum := "3864365e640b2ad9b18f149cc64a59baf6a46cd6a61ca765f0be50c01475da9d", func := "loop.example/ordinalhydras/laws.FnExactOrdNumber", spec := "fnExactOrdNumber", recurses := true, apart := false, narrowed := true }
def FnExactOrdNumberUptoSaid : Prop := fnExactOrdNumberUptoRow.holds Try.pinned (OpenSpec.upto fnExactOrdNumberSpec)

/-- 'laws.FnOrdPower', WHERE WHAT IT READS IS OF BULK AT MOST 1048576: true; the input reads as it did. -/
def fnOrdPowerUptoRow : OpenClaim := { program := "ytienfbdgghnnpaa", sum := "3864365e640b2ad9b18f149cc64a59baf6a46cd6a61ca765f0be50c01475da9d", func := "loop.example/ordinalhydras/laws.FnOrdPower", spec := "fnOrdPower", recurses := true, apart := false, narrowed := true }
def FnOrdPowerUptoSaid : Prop := fnOrdPowerUptoRow.holds Try.pinned (OpenSpec.upto fnOrdPowerSpec)

/-- 'laws.FnExactOrdPower', WHERE WHAT IT READS IS OF BULK AT MOST 1048576: true; the input reads as it did. -/
def fnExactOrdPowerUptoRow : OpenClaim := { program := "ytienfbdgghnnpaa", sum := "3864365e640b2ad9b18f149cc64a59baf6a46cd6a61ca765f0be50c01475da9d", func := "loop.example/ordinalhydras/laws.FnExactOrdPower", spec := "fnExactOrdPower", recurses := true, apart := false, narrowed := true }
def FnExactOrdPowerUptoSaid : Prop := fnExactOrdPowerUptoRow.holds Try.pinned (OpenSpec.upto fnExactOrdPowerSpec)

/-- 'laws.FnOrdKind', WHERE WHAT IT READS IS OF BULK AT MOST 1048576: true; the input reads as it did. -/
def fnOrdKindUptoRow : OpenClaim := { program := "ytienfbdgghnnpaa", sum := "3864365e640b2ad9b18f149cc64a59baf6a46cd6a61ca765f0be50c01475da9d", func := "loop.example/ordinalhydras/laws.FnOrdKind", spec := "fnOrdKind", recurses := true, apart := false, narrowed := true }
def FnOrdKindUptoSaid : Prop := fnOrdKindUptoRow.holds Try.pinned (OpenSpec.upto fnOrdKindSpec)

/-- 'laws.FnExactOrdKind', WHERE WHAT IT READS IS OF BULK AT MOST 1048576: true; the input reads as it did. -/
def fnExactOrdKindUptoRow : OpenClaim := { program := "ytienfbdgghnnpaa", sum := "3864365e640b2ad9b18f149cc64a59baf6a46cd6a61ca765f0be50c01475da9d", func := "loop.example/ordinalhydras/laws.FnExactOrdKind", spec := "fnExactOrdKind", recurses := true, apart := false, narrowed := true }
def FnExactOrdKindUptoSaid : Prop := fnExactOrdKindUptoRow.holds Try.pinned (OpenSpec.upto fnExactOrdKindSpec)

end Rows
end Go.Proofs.Ytienfbdgghnnpaa
