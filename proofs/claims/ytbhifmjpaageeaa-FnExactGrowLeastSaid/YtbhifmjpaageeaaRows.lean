/-
  No cell of these rows narrows 'for every input' (looked for: loops, veiled, ifaces, maps, wideKeys, modest, calm, conditions, laid).
  DERIVED. THE GIVEN ROWS OF THIS SEAT. 8 by the template 'for every input the law returns true; each argument reads behind the call as it read before'; 0 by the template 'total and deterministic' (their statements: YtbhifmjpaageeaaTotals.lean).
  GIVEN WITH THE SEED: the statements are not yours to turn. If you find one false, say at which input.
  Laid BY PROGRAM, IN A SANDBOX (cutbox-rows.mjs): the forced cells as the released guide's own fill.sh prints them over the translation bf93c10eab7aa07c… (all of the seat's roots in one cut). By AI agents, Wed Nov 11 2026. No macro, syntax, notation, axiom, sorry.
-/
import Derived.Test.YtbhifmjpaageeaaChecked
import GoSem.Claim
import GoSem.ClaimJoined
import GoSem.ClaimMapViews
import Derived.JoinedTies
import Derived.KernelRfl
namespace Go.Proofs.Ytbhifmjpaageeaa
/- THE CELL 'sum', in the pinned program and in every row, IS THE sha256 OF THE DUMP (.gsa) THAT YtbhifmjpaageeaaProg.lean LOADS. Nothing in Lean hashes anything: it is a label: what it is worth is what the hold of that sum in a sandbox is worth. -/
noncomputable def Try.pinned : Pinned := { name := "ytbhifmjpaageeaa", sum := "bf93c10eab7aa07cec3a6a9cd8f9ca8de2bab2822f6575bdd34dbeeb91e0bb6f", checked := Try.checked }
namespace Rows
def none {H : Type} : Left H := { results := [], args := [] }

/-- 'laws.FnExactGrow': WHATEVER THE INPUT: true; the input reads as it did. -/
def fnExactGrowSpec : ChangeSpec := { name := "fnExactGrow", fn := fun _ => fun
  | [d1, d2] => { results := [.lit (.bool true)], args := [d1, d2] }
  | _ => none }
def fnExactGrowRow : OpenClaim := { program := "ytbhifmjpaageeaa", sum := "bf93c10eab7aa07cec3a6a9cd8f9ca8de2bab2822f6575bdd34dbeeb91e0bb6f", func := "loop.example/ordinalhydras/laws.FnExactGrow", spec := "fnExactGrow", unfollowed := true, recurses := true, apart := false }
def FnExactGrowSaid : Prop := fnExactGrowRow.holds Try.pinned (OpenSpec.ofChange fnExactGrowSpec)

/-- ITS FALSE NEIGHBOUR: 'it returns false'. Refute it at one input. -/
def fnExactGrowWrong : ChangeSpec := { name := "fnExactGrow", fn := fun _ => fun
  | [d1, d2] => { results := [.lit (.bool false)], args := [d1, d2] }
  | _ => none }
def FnExactGrowWrongFalsely : Prop := fnExactGrowRow.holds Try.pinned (OpenSpec.ofChange fnExactGrowWrong)

/-- 'laws.FnExactIterate': WHATEVER THE INPUT: true; the input reads as it did. -/
def fnExactIterateSpec : ChangeSpec := { name := "fnExactIterate", fn := fun _ => fun
  | [d1, d2] => { results := [.lit (.bool true)], args := [d1, d2] }
  | _ => none }
def fnExactIterateRow : OpenClaim := { program := "ytbhifmjpaageeaa", sum := "bf93c10eab7aa07cec3a6a9cd8f9ca8de2bab2822f6575bdd34dbeeb91e0bb6f", func := "loop.example/ordinalhydras/laws.FnExactIterate", spec := "fnExactIterate", unfollowed := true, recurses := true, apart := false }
def FnExactIterateSaid : Prop := fnExactIterateRow.holds Try.pinned (OpenSpec.ofChange fnExactIterateSpec)

/-- ITS FALSE NEIGHBOUR: 'it returns false'. Refute it at one input. -/
def fnExactIterateWrong : ChangeSpec := { name := "fnExactIterate", fn := fun _ => fun
  | [d1, d2] => { results := [.lit (.bool false)], args := [d1, d2] }
  | _ => none }
def FnExactIterateWrongFalsely : Prop := fnExactIterateRow.holds Try.pinned (OpenSpec.ofChange fnExactIterateWrong)

/-- 'laws.FnExactGrowPath': WHATEVER THE INPUT: true; the input reads as it did. -/
def fnExactGrowPathSpec : ChangeSpec := { name := "fnExactGrowPath", fn := fun _ => fun
  | [d1, d2] => { results := [.lit (.bool true)], args := [d1, d2] }
  | _ => none }
def fnExactGrowPathRow : OpenClaim := { program := "ytbhifmjpaageeaa", sum := "bf93c10eab7aa07cec3a6a9cd8f9ca8de2bab2822f6575bdd34dbeeb91e0bb6f", func := "loop.example/ordinalhydras/laws.FnExactGrowPath", spec := "fnExactGrowPath", unfollowed := true, recurses := true, apart := false }
def FnExactGrowPathSaid : Prop := fnExactGrowPathRow.holds Try.pinned (OpenSpec.ofChange fnExactGrowPathSpec)

/-- ITS FALSE NEIGHBOUR: 'it returns false'. Refute it at one input. -/
def fnExactGrowPathWrong : ChangeSpec := { name := "fnExactGrowPath", fn := fun _ => fun
  | [d1, d2] => { results := [.lit (.bool false)], args := [d1, d2] }
  | _ => none }
def FnExactGrowPathWrongFalsely : Prop := fnExactGrowPathRow.holds Try.pinned (OpenSpec.ofChange fnExactGrowPathWrong)

/-- 'laws.FnExactGrowLeast': WHATEVER THE INPUT: true; the input reads as it did. -/
def fnExactGrowLeastSpec : ChangeSpec := { name := "fnExactGrowLeast", fn := fun _ => fun
  | [d1, d2] => { results := [.lit (.bool true)], args := [d1, d2] }
  | _ => none }
def fnExactGrowLeastRow : OpenClaim := { program := "ytbhifmjpaageeaa", sum := "bf93c10eab7aa07cec3a6a9cd8f9ca8de2bab2822f6575bdd34dbeeb91e0bb6f", func := "loop.example/ordinalhydras/laws.FnExactGrowLeast", spec := "fnExactGrowLeast", unfollowed := true, recurses := true, apart := false }
def FnExactGrowLeastSaid : Prop := fnExactGrowLeastRow.holds Try.pinned (OpenSpec.ofChange fnExactGrowLeastSpec)

/-- ITS FALSE NEIGHBOUR: 'it returns false'. Refute it at one input. -/
def fnExactGrowLeastWrong : ChangeSpec := { name := "fnExactGrowLeast", fn := fun _ => fun
  | [d1, d2] => { results := [.lit (.bool false)], args := [d1, d2] }
  | _ => none }
def FnExactGrowLeastWrongFalsely : Prop := fnExactGrowLeastRow.holds Try.pinned (OpenSpec.ofChange fnExactGrowLeastWrong)

/-- 'laws.FnExactOrdCompare': WHATEVER THE INPUT: true; the input reads as it did. -/
def fnExactOrdCompareSpec : ChangeSpec := { name := "fnExactOrdCompare", fn := fun _ => fun
  | [d1, d2] => { results := [.lit (.bool true)], args := [d1, d2] }
  | _ => none }
def fnExactOrdCompareRow : OpenClaim := { program := "ytbhifmjpaageeaa", sum := "bf93c10eab7aa07cec3a6a9cd8f9ca8de2bab2822f6575bdd34dbeeb91e0bb6f", func := "loop.example/ordinalhydras/laws.FnExactOrdCompare", spec := "fnExactOrdCompare", recurses := true, apart := false }
def FnExactOrdCompareSaid : Prop := fnExactOrdCompareRow.holds Try.pinned (OpenSpec.ofChange fnExactOrdCompareSpec)

/-- ITS FALSE NEIGHBOUR: 'it returns false'. Refute it at one input. -/
def fnExactOrdCompareWrong : ChangeSpec := { name := "fnExactOrdCompare", fn := fun _ => fun
  | [d1, d2] => { results := [.lit (.bool false)], args := [d1, d2] }
  | _ => none }
def FnExactOrdCompareWrongFalsely : Prop := fnExactOrdCompareRow.holds Try.pinned (OpenSpec.ofChange fnExactOrdCompareWrong)

/-- 'laws.FnExactOrdNext': WHATEVER THE INPUT: true; the input reads as it did. -/
def fnExactOrdNextSpec : ChangeSpec := { name := "fnExactOrdNext", fn := fun _ => fun
  | [d] => { results := [.lit (.bool true)], args := [d] }
  | _ => none }
def fnExactOrdNextRow : OpenClaim := { program := "ytbhifmjpaageeaa", sum := "bf93c10eab7aa07cec3a6a9cd8f9ca8de2bab2822f6575bdd34dbeeb91e0bb6f", func := "loop.example/ordinalhydras/laws.FnExactOrdNext", spec := "fnExactOrdNext", recurses := true, apart := false }
def FnExactOrdNextSaid : Prop := fnExactOrdNextRow.holds Try.pinned (OpenSpec.ofChange fnExactOrdNextSpec)

/-- ITS FALSE NEIGHBOUR: 'it returns false'. Refute it at one input. -/
def fnExactOrdNextWrong : ChangeSpec := { name := "fnExactOrdNext", fn := fun _ => fun
  | [d] => { results := [.lit (.bool false)], args := [d] }
  | _ => none }
def FnExactOrdNextWrongFalsely : Prop := fnExactOrdNextRow.holds Try.pinned (OpenSpec.ofChange fnExactOrdNextWrong)

/-- 'laws.FnExactOrdBefore': WHATEVER THE INPUT: true; the input reads as it did. -/
def fnExactOrdBeforeSpec : ChangeSpec := { name := "fnExactOrdBefore", fn := fun _ => fun
  | [d] => { results := [.lit (.bool true)], args := [d] }
  | _ => none }
def fnExactOrdBeforeRow : OpenClaim := { program := "ytbhifmjpaageeaa", sum := "bf93c10eab7aa07cec3a6a9cd8f9ca8de2bab2822f6575bdd34dbeeb91e0bb6f", func := "loop.example/ordinalhydras/laws.FnExactOrdBefore", spec := "fnExactOrdBefore", recurses := true, apart := false }
def FnExactOrdBeforeSaid : Prop := fnExactOrdBeforeRow.holds Try.pinned (OpenSpec.ofChange fnExactOrdBeforeSpec)

/-- ITS FALSE NEIGHBOUR: 'it returns false'. Refute it at one input. -/
def fnExactOrdBeforeWrong : ChangeSpec := { name := "fnExactOrdBefore", fn := fun _ => fun
  | [d] => { results := [.lit (.bool false)], args := [d] }
  | _ => none }
def FnExactOrdBeforeWrongFalsely : Prop := fnExactOrdBeforeRow.holds Try.pinned (OpenSpec.ofChange fnExactOrdBeforeWrong)

/-- 'laws.FnExactOrdStep': WHATEVER THE INPUT: true; the input reads as it did. -/
def fnExactOrdStepSpec : ChangeSpec := { name := "fnExactOrdStep", fn := fun _ => fun
  | [d1, d2] => { results := [.lit (.bool true)], args := [d1, d2] }
  | _ => none }
def fnExactOrdStepRow : OpenClaim := { program := "ytbhifmjpaageeaa", sum := "bf93c10eab7aa07cec3a6a9cd8f9ca8de2bab2822f6575bdd34dbeeb91e0bb6f", func := "loop.example/ordinalhydras/laws.FnExactOrdStep", spec := "fnExactOrdStep", recurses := true, apart := false }
def FnExactOrdStepSaid : Prop := fnExactOrdStepRow.holds Try.pinned (OpenSpec.ofChange fnExactOrdStepSpec)

/-- ITS FALSE NEIGHBOUR: 'it returns false'. Refute it at one input. -/
def fnExactOrdStepWrong : ChangeSpec := { name := "fnExactOrdStep", fn := fun _ => fun
  | [d1, d2] => { results := [.lit (.bool false)], args := [d1, d2] }
  | _ => none }
def FnExactOrdStepWrongFalsely : Prop := fnExactOrdStepRow.holds Try.pinned (OpenSpec.ofChange fnExactOrdStepWrong)

/- THE SECOND FORM. 'bulk': how many values and letters a reading holds, each counted each time it is reached (what is shared counts as often as it is met; a slice's spare places count too). A statement '..UptoSaid' is the law's where the arguments, and the package variables that the reading takes, are together of bulk at most 1048576: NARROWER than '..Said'. Prove '..Said' where nothing that the law and all that it calls make is longer than what came in: it says more and counts as full. Else prove '..UptoSaid'. A law counts once. -/
mutual
def uptoBulk {H : Type} : DataW H → Nat
  | .lit (.string bytes) => bytes.length + 1
  | .lit _ => 1
  | .nil => 1
  | .ptr d => uptoBulk d + 1
  | .slice elems spare => uptoBulkAll elems + uptoBulkAll spare + 1
  | .agg parts => uptoBulkAll parts + 1
  | .iface _ d => uptoBulk d + 1
  | .map entries => uptoBulkEntries entries + 1
  | .held _ => 1
def uptoBulkAll {H : Type} : List (DataW H) → Nat
  | [] => 0
  | d :: r => uptoBulk d + uptoBulkAll r
def uptoBulkEntries {H : Type} : List (Lit × DataW H) → Nat
  | [] => 0
  | x :: r => uptoBulkEntry x + uptoBulkEntries r
def uptoBulkEntry {H : Type} : Lit × DataW H → Nat
  | (.string bytes, d) => bytes.length + uptoBulk d + 1
  | (_, d) => uptoBulk d + 1
 end
def uptoSmall : (H : Type) → List (DataW H) → Bool := fun _ ds => decide (uptoBulkAll ds ≤ 1048576)
def OpenSpec.upto (s : _root_.Go.ChangeSpec) : _root_.Go.OpenSpec := { _root_.Go.OpenSpec.ofChange s with cond := some uptoSmall }

/-- 'laws.FnExactGrow', WHERE WHAT IT READS IS OF BULK AT MOST 1048576: true; the input reads as it did. -/
def fnExactGrowUptoRow : OpenClaim := { program := "ytbhifmjpaageeaa", sum := "bf93c10eab7aa07cec3a6a9cd8f9ca8de2bab2822f6575bdd34dbeeb91e0bb6f", func := "loop.example/ordinalhydras/laws.FnExactGrow", spec := "fnExactGrow", unfollowed := true, recurses := true, apart := false, narrowed := true }
def FnExactGrowUptoSaid : Prop := fnExactGrowUptoRow.holds Try.pinned (OpenSpec.upto fnExactGrowSpec)

/-- 'laws.FnExactIterate', WHERE WHAT IT READS IS OF BULK AT MOST 1048576: true; the input reads as it did. -/
def fnExactIterateUptoRow : OpenClaim := { program := "ytbhifmjpaageeaa", sum := "bf93c10eab7aa07cec3a6a9cd8f9ca8de2bab2822f6575bdd34dbeeb91e0bb6f", func := "loop.example/ordinalhydras/laws.FnExactIterate", spec := "fnExactIterate", unfollowed := true, recurses := true, apart := false, narrowed := true }
def FnExactIterateUptoSaid : Prop := fnExactIterateUptoRow.holds Try.pinned (OpenSpec.upto fnExactIterateSpec)

/-- 'laws.FnExactGrowPath', WHERE WHAT IT READS IS OF BULK AT MOST 1048576: true; the input reads as it did. -/
def fnExactGrowPathUptoRow : OpenClaim := { program := "ytbhifmjpaageeaa", sum := "bf93c10eab7aa07cec3a6a9cd8f9ca8de2bab2822f6575bdd34dbeeb91e0bb6f", func := "loop.example/ordinalhydras/laws.FnExactGrowPath", spec := "fnExactGrowPath", unfollowed := true, recurses := true, apart := false, narrowed := true }
def FnExactGrowPathUptoSaid : Prop := fnExactGrowPathUptoRow.holds Try.pinned (OpenSpec.upto fnExactGrowPathSpec)

/-- 'laws.FnExactGrowLeast', WHERE WHAT IT READS IS OF BULK AT MOST 1048576: true; the input reads as it did. -/
def fnExactGrowLeastUptoRow : OpenClaim := { program := "ytbhifmjpaageeaa", sum := "bf93c10eab7aa07cec3a6a9cd8f9ca8de2bab2822f6575bdd34dbeeb91e0bb6f", func := "loop.example/ordinalhydras/laws.FnExactGrowLeast", spec := "fnExactGrowLeast", unfollowed := true, recurses := true, apart := false, narrowed := true }
def FnExactGrowLeastUptoSaid : Prop := fnExactGrowLeastUptoRow.holds Try.pinned (OpenSpec.upto fnExactGrowLeastSpec)

/-- 'laws.FnExactOrdCompare', WHERE WHAT IT READS IS OF BULK AT MOST 1048576: true; the input reads as it did. -/
def fnExactOrdCompareUptoRow : OpenClaim := { program := "ytbhifmjpaageeaa", sum := "bf93c10eab7aa07cec3a6a9cd8f9ca8de2bab2822f6575bdd34dbeeb91e0bb6f", func := "loop.example/ordinalhydras/laws.FnExactOrdCompare", spec := "fnExactOrdCompare", recurses := true, apart := false, narrowed := true }
def FnExactOrdCompareUptoSaid : Prop := fnExactOrdCompareUptoRow.holds Try.pinned (OpenSpec.upto fnExactOrdCompareSpec)

/-- 'laws.FnExactOrdNext', WHERE WHAT IT READS IS OF BULK AT MOST 1048576: true; the input reads as it did. -/
def fnExactOrdNextUptoRow : OpenClaim := { program := "ytbhifmjpaageeaa", sum := "bf93c10eab7aa07cec3a6a9cd8f9ca8de2bab2822f6575bdd34dbeeb91e0bb6f", func := "loop.example/ordinalhydras/laws.FnExactOrdNext", spec := "fnExactOrdNext", recurses := true, apart := false, narrowed := true }
def FnExactOrdNextUptoSaid : Prop := fnExactOrdNextUptoRow.holds Try.pinned (OpenSpec.upto fnExactOrdNextSpec)

/-- 'laws.FnExactOrdBefore', WHERE WHAT IT READS IS OF BULK AT MOST 1048576: true; the input reads as it did. -/
def fnExactOrdBeforeUptoRow : OpenClaim := { program := "ytbhifmjpaageeaa", sum := "bf93c10eab7aa07cec3a6a9cd8f9ca8de2bab2822f6575bdd34dbeeb91e0bb6f", func := "loop.example/ordinalhydras/laws.FnExactOrdBefore", spec := "fnExactOrdBefore", recurses := true, apart := false, narrowed := true }
def FnExactOrdBeforeUptoSaid : Prop := fnExactOrdBeforeUptoRow.holds Try.pinned (OpenSpec.upto fnExactOrdBeforeSpec)

/-- 'laws.FnExactOrdStep', WHERE WHAT IT READS IS OF BULK AT MOST 1048576: true; the input reads as it did. -/
def fnExactOrdStepUptoRow : OpenClaim := { program := "ytbhifmjpaageeaa", sum := "bf93c10eab7aa07cec3a6a9cd8f9ca8de2bab2822f6575bdd34dbeeb91e0bb6f", func := "loop.example/ordinalhydras/laws.FnExactOrdStep", spec := "fnExactOrdStep", recurses := true, apart := false, narrowed := true }
def FnExactOrdStepUptoSaid : Prop := fnExactOrdStepUptoRow.holds Try.pinned (OpenSpec.upto fnExactOrdStepSpec)

end Rows
end Go.Proofs.Ytbhifmjpaageeaa
