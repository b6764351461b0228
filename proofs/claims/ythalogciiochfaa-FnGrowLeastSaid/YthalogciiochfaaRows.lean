/-
  No cell of these rows narrows 'for every input' (looked for: loops, veiled, ifaces, maps, wideKeys, modest, calm, conditions, laid).
  DERIVED. THE GIVEN ROWS OF THIS SEAT. 8 by the template 'for every input the law returns true; each argument reads behind the call as it read before'; 0 by the template 'total and deterministic' (their statements: YthalogciiochfaaTotals.lean).
  GIVEN WITH THE SEED: the statements are not yours to turn. If you find one false, say at which input.
  Laid BY PROGRAM, IN A SANDBOX (cutbox-rows.mjs): the forced cells as the released guide's own fill.sh prints them over the translation 36c0525545bb4ed2… (all of the seat's roots in one cut). By AI agents, Wed Nov 11 2026. No macro, syntax, notation, axiom, sorry.
-/
import Derived.Test.YthalogciiochfaaChecked
import GoSem.Claim
import GoSem.ClaimJoined
import GoSem.ClaimMapViews
import Derived.JoinedTies
import Derived.KernelRfl
namespace Go.Proofs.Ythalogciiochfaa
/- THE CELL 'sum', in the pinned program and in every row, IS THE sha256 OF THE DUMP (.gsa) THAT YthalogciiochfaaProg.lean LOADS. Nothing in Lean hashes anything: it is a label: what it is worth is what the hold of that sum in a sandbox is worth. -/
noncomputable def Try.pinned : Pinned := { name := "ythalogciiochfaa", sum := "36c0525545bb4ed2d475e9f1025f86eb445613ea782a74ad943181eef9f72e2b", checked := Try.checked }
namespace Rows
def none {H : Type} : Left H := { results := [], args := [] }

/-- 'laws.FnGrow': WHATEVER THE INPUT: true; the input reads as it did. -/
def fnGrowSpec : ChangeSpec := { name := "fnGrow", fn := fun _ => fun
  | [d1, d2] => { results := [.lit (.bool true)], args := [d1, d2] }
  | _ => none }
def fnGrowRow : OpenClaim := { program := "ythalogciiochfaa", sum := "36c0525545bb4ed2d475e9f1025f86eb445613ea782a74ad943181eef9f72e2b", func := "loop.example/ordinalhydras/laws.FnGrow", spec := "fnGrow", unfollowed := true, recurses := true, apart := false }
def FnGrowSaid : Prop := fnGrowRow.holds Try.pinned (OpenSpec.ofChange fnGrowSpec)

/-- ITS FALSE NEIGHBOUR: 'it returns false'. Refute it at one input. -/
def fnGrowWrong : ChangeSpec := { name := "fnGrow", fn := fun _ => fun
  | [d1, d2] => { results := [.lit (.bool false)], args := [d1, d2] }
  | _ => none }
def FnGrowWrongFalsely : Prop := fnGrowRow.holds Try.pinned (OpenSpec.ofChange fnGrowWrong)

/-- 'laws.FnIterate': WHATEVER THE INPUT: true; the input reads as it did. -/
def fnIterateSpec : ChangeSpec := { name := "fnIterate", fn := fun _ => fun
  | [d] => { results := [.lit (.bool true)], args := [d] }
  | _ => none }
def fnIterateRow : OpenClaim := { program := "ythalogciiochfaa", sum := "36c0525545bb4ed2d475e9f1025f86eb445613ea782a74ad943181eef9f72e2b", func := "loop.example/ordinalhydras/laws.FnIterate", spec := "fnIterate", unfollowed := true, recurses := true, apart := false }
def FnIterateSaid : Prop := fnIterateRow.holds Try.pinned (OpenSpec.ofChange fnIterateSpec)

/-- ITS FALSE NEIGHBOUR: 'it returns false'. Refute it at one input. -/
def fnIterateWrong : ChangeSpec := { name := "fnIterate", fn := fun _ => fun
  | [d] => { results := [.lit (.bool false)], args := [d] }
  | _ => none }
def FnIterateWrongFalsely : Prop := fnIterateRow.holds Try.pinned (OpenSpec.ofChange fnIterateWrong)

/-- 'laws.FnGrowPath': WHATEVER THE INPUT: true; the input reads as it did. -/
def fnGrowPathSpec : ChangeSpec := { name := "fnGrowPath", fn := fun _ => fun
  | [d] => { results := [.lit (.bool true)], args := [d] }
  | _ => none }
def fnGrowPathRow : OpenClaim := { program := "ythalogciiochfaa", sum := "36c0525545bb4ed2d475e9f1025f86eb445613ea782a74ad943181eef9f72e2b", func := "loop.example/ordinalhydras/laws.FnGrowPath", spec := "fnGrowPath", unfollowed := true, recurses := true, apart := false }
def FnGrowPathSaid : Prop := fnGrowPathRow.holds Try.pinned (OpenSpec.ofChange fnGrowPathSpec)

/-- ITS FALSE NEIGHBOUR: 'it returns false'. Refute it at one input. -/
def fnGrowPathWrong : ChangeSpec := { name := "fnGrowPath", fn := fun _ => fun
  | [d] => { results := [.lit (.bool false)], args := [d] }
  | _ => none }
def FnGrowPathWrongFalsely : Prop := fnGrowPathRow.holds Try.pinned (OpenSpec.ofChange fnGrowPathWrong)

/-- 'laws.FnGrowLeast': WHATEVER THE INPUT: true; the input reads as it did. -/
def fnGrowLeastSpec : ChangeSpec := { name := "fnGrowLeast", fn := fun _ => fun
  | [d] => { results := [.lit (.bool true)], args := [d] }
  | _ => none }
def fnGrowLeastRow : OpenClaim := { program := "ythalogciiochfaa", sum := "36c0525545bb4ed2d475e9f1025f86eb445613ea782a74ad943181eef9f72e2b", func := "loop.example/ordinalhydras/laws.FnGrowLeast", spec := "fnGrowLeast", unfollowed := true, recurses := true, apart := false }
def FnGrowLeastSaid : Prop := fnGrowLeastRow.holds Try.pinned (OpenSpec.ofChange fnGrowLeastSpec)

/-- ITS FALSE NEIGHBOUR: 'it returns false'. Refute it at one input. -/
def fnGrowLeastWrong : ChangeSpec := { name := "fnGrowLeast", fn := fun _ => fun
  | [d] => { results := [.lit (.bool false)], args := [d] }
  | _ => none }
def FnGrowLeastWrongFalsely : Prop := fnGrowLeastRow.holds Try.pinned (OpenSpec.ofChange fnGrowLeastWrong)

/-- 'laws.FnOrdCompare': WHATEVER THE INPUT: true; the input reads as it did. -/
def fnOrdCompareSpec : ChangeSpec := { name := "fnOrdCompare", fn := fun _ => fun
  | [d1, d2] => { results := [.lit (.bool true)], args := [d1, d2] }
  | _ => none }
def fnOrdCompareRow : OpenClaim := { program := "ythalogciiochfaa", sum := "36c0525545bb4ed2d475e9f1025f86eb445613ea782a74ad943181eef9f72e2b", func := "loop.example/ordinalhydras/laws.FnOrdCompare", spec := "fnOrdCompare", recurses := true, apart := false }
def FnOrdCompareSaid : Prop := fnOrdCompareRow.holds Try.pinned (OpenSpec.ofChange fnOrdCompareSpec)

/-- ITS FALSE NEIGHBOUR: 'it returns false'. Refute it at one input. -/
def fnOrdCompareWrong : ChangeSpec := { name := "fnOrdCompare", fn := fun _ => fun
  | [d1, d2] => { results := [.lit (.bool false)], args := [d1, d2] }
  | _ => none }
def FnOrdCompareWrongFalsely : Prop := fnOrdCompareRow.holds Try.pinned (OpenSpec.ofChange fnOrdCompareWrong)

/-- 'laws.FnOrdNext': WHATEVER THE INPUT: true; the input reads as it did. -/
def fnOrdNextSpec : ChangeSpec := { name := "fnOrdNext", fn := fun _ => fun
  | [d1, d2] => { results := [.lit (.bool true)], args := [d1, d2] }
  | _ => none }
def fnOrdNextRow : OpenClaim := { program := "ythalogciiochfaa", sum := "36c0525545bb4ed2d475e9f1025f86eb445613ea782a74ad943181eef9f72e2b", func := "loop.example/ordinalhydras/laws.FnOrdNext", spec := "fnOrdNext", recurses := true, apart := false }
def FnOrdNextSaid : Prop := fnOrdNextRow.holds Try.pinned (OpenSpec.ofChange fnOrdNextSpec)

/-- ITS FALSE NEIGHBOUR: 'it returns false'. Refute it at one input. -/
def fnOrdNextWrong : ChangeSpec := { name := "fnOrdNext", fn := fun _ => fun
  | [d1, d2] => { results := [.lit (.bool false)], args := [d1, d2] }
  | _ => none }
def FnOrdNextWrongFalsely : Prop := fnOrdNextRow.holds Try.pinned (OpenSpec.ofChange fnOrdNextWrong)

/-- 'laws.FnOrdBefore': WHATEVER THE INPUT: true; the input reads as it did. -/
def fnOrdBeforeSpec : ChangeSpec := { name := "fnOrdBefore", fn := fun _ => fun
  | [d] => { results := [.lit (.bool true)], args := [d] }
  | _ => none }
def fnOrdBeforeRow : OpenClaim := { program := "ythalogciiochfaa", sum := "36c0525545bb4ed2d475e9f1025f86eb445613ea782a74ad943181eef9f72e2b", func := "loop.example/ordinalhydras/laws.FnOrdBefore", spec := "fnOrdBefore", recurses := true, apart := false }
def FnOrdBeforeSaid : Prop := fnOrdBeforeRow.holds Try.pinned (OpenSpec.ofChange fnOrdBeforeSpec)

/-- ITS FALSE NEIGHBOUR: 'it returns false'. Refute it at one input. -/
def fnOrdBeforeWrong : ChangeSpec := { name := "fnOrdBefore", fn := fun _ => fun
  | [d] => { results := [.lit (.bool false)], args := [d] }
  | _ => none }
def FnOrdBeforeWrongFalsely : Prop := fnOrdBeforeRow.holds Try.pinned (OpenSpec.ofChange fnOrdBeforeWrong)

/-- 'laws.FnOrdStep': WHATEVER THE INPUT: true; the input reads as it did. -/
def fnOrdStepSpec : ChangeSpec := { name := "fnOrdStep", fn := fun _ => fun
  | [d1, d2] => { results := [.lit (.bool true)], args := [d1, d2] }
  | _ => none }
def fnOrdStepRow : OpenClaim := { program := "ythalogciiochfaa", sum := "36c0525545bb4ed2d475e9f1025f86eb445613ea782a74ad943181eef9f72e2b", func := "loop.example/ordinalhydras/laws.FnOrdStep", spec := "fnOrdStep", recurses := true, apart := false }
def FnOrdStepSaid : Prop := fnOrdStepRow.holds Try.pinned (OpenSpec.ofChange fnOrdStepSpec)

/-- ITS FALSE NEIGHBOUR: 'it returns false'. Refute it at one input. -/
def fnOrdStepWrong : ChangeSpec := { name := "fnOrdStep", fn := fun _ => fun
  | [d1, d2] => { results := [.lit (.bool false)], args := [d1, d2] }
  | _ => none }
def FnOrdStepWrongFalsely : Prop := fnOrdStepRow.holds Try.pinned (OpenSpec.ofChange fnOrdStepWrong)

/- THE SECOND FORM. 'bulk': how many values and letters a reading holds, each counted each time it is reached (what is shared counts as often as it is met; a slice's spare places count too). A statement '..UptoSaid' is the law's where the arguments, and the package variables that the reading takes, are together of bulk at most 1048576: NARROWER than '..Said'. Prove '..Said' where nothing that the law and all that it calls make is longer than what came in: it says more and counts as full. Else prove '..UptoSaid'. A law counts once. -/
mutual
def uptoBulk {H : Type} : DataW H → Nat
  | .lit (.string bytes) => bytes.length + 1
  | .lit _ => 1
  | .nil => 1
  | .ptr d => uptoBulk d + 1
  | .slice elems spare => uptoBulkAll elems + uptoBulkAll spare + 1
  | .agg parts => uptoBulkAll parts + 1
  | .iface _ d => uptoBulk d + 1
  | .map entries => uptoBulkEntries entries + 1
  | .held _ => 1
def uptoBulkAll {H : Type} : List (DataW H) → Nat
  | [] => 0
  | d :: r => uptoBulk d + uptoBulkAll r
def uptoBulkEntries {H : Type} : List (Lit × DataW H) → Nat
  | [] => 0
  | x :: r => uptoBulkEntry x + uptoBulkEntries r
def uptoBulkEntry {H : Type} : Lit × DataW H → Nat
  | (.string bytes, d) => bytes.length + uptoBulk d + 1
  | (_, d) => uptoBulk d + 1
 end
def uptoSmall : (H : Type) → List (DataW H) → Bool := fun _ ds => decide (uptoBulkAll ds ≤ 1048576)
def OpenSpec.upto (s : _root_.Go.ChangeSpec) : _root_.Go.OpenSpec := { _root_.Go.OpenSpec.ofChange s with cond := some uptoSmall }

/-- 'laws.FnGrow', WHERE WHAT IT READS IS OF BULK AT MOST 1048576: true; the input reads as it did. -/
def fnGrowUptoRow : OpenClaim := { program := "ythalogciiochfaa", sum := "36c0525545bb4ed2d475e9f1025f86eb445613ea782a74ad943181eef9f72e2b", func := "loop.example/ordinalhydras/laws.FnGrow", spec := "fnGrow", unfollowed := true, recurses := true, apart := false, narrowed := true }
def FnGrowUptoSaid : Prop := fnGrowUptoRow.holds Try.pinned (OpenSpec.upto fnGrowSpec)

/-- 'laws.FnIterate', WHERE WHAT IT READS IS OF BULK AT MOST 1048576: true; the input reads as it did. -/
def fnIterateUptoRow : OpenClaim := { program := "ythalogciiochfaa", sum := "36c0525545bb4ed2d475e9f1025f86eb445613ea782a74ad943181eef9f72e2b", func := "loop.example/ordinalhydras/laws.FnIterate", spec := "fnIterate", unfollowed := true, recurses := true, apart := false, narrowed := true }
def FnIterateUptoSaid : Prop := fnIterateUptoRow.holds Try.pinned (OpenSpec.upto fnIterateSpec)

/-- 'laws.FnGrowPath', WHERE WHAT IT READS IS OF BULK AT MOST 1048576: true; the input reads as it did. -/
def fnGrowPathUptoRow : OpenClaim := { program := "ythalogciiochfaa", sum := "36c0525545bb4ed2d475e9f1025f86eb445613ea782a74ad943181eef9f72e2b", func := "loop.example/ordinalhydras/laws.FnGrowPath", spec := "fnGrowPath", unfollowed := true, recurses := true, apart := false, narrowed := true }
def FnGrowPathUptoSaid : Prop := fnGrowPathUptoRow.holds Try.pinned (OpenSpec.upto fnGrowPathSpec)

/-- 'laws.FnGrowLeast', WHERE WHAT IT READS IS OF BULK AT MOST 1048576: true; the input reads as it did. -/
def fnGrowLeastUptoRow : OpenClaim := { program := "ythalogciiochfaa", sum := "36c0525545bb4ed2d475e9f1025f86eb445613ea782a74ad943181eef9f72e2b", func := "loop.example/ordinalhydras/laws.FnGrowLeast", spec := "fnGrowLeast", unfollowed := true, recurses := true, apart := false, narrowed := true }
def FnGrowLeastUptoSaid : Prop := fnGrowLeastUptoRow.holds Try.pinned (OpenSpec.upto fnGrowLeastSpec)

/-- 'laws.FnOrdCompare', WHERE WHAT IT READS IS OF BULK AT MOST 1048576: true; the input reads as it did. -/
def fnOrdCompareUptoRow : OpenClaim := { program := "ythalogciiochfaa", sum := "36c0525545bb4ed2d475e9f1025f86eb445613ea782a74ad943181eef9f72e2b", func := "loop.example/ordinalhydras/laws.FnOrdCompare", spec := "fnOrdCompare", recurses := true, apart := false, narrowed := true }
def FnOrdCompareUptoSaid : Prop := fnOrdCompareUptoRow.holds Try.pinned (OpenSpec.upto fnOrdCompareSpec)

/-- 'laws.FnOrdNext', WHERE WHAT IT READS IS OF BULK AT MOST 1048576: true; the input reads as it did. -/
def fnOrdNextUptoRow : OpenClaim := { program := "ythalogciiochfaa", sum := "36c0525545bb4ed2d475e9f1025f86eb445613ea782a74ad943181eef9f72e2b", func := "loop.example/ordinalhydras/laws.FnOrdNext", spec := "fnOrdNext", recurses := true, apart := false, narrowed := true }
def FnOrdNextUptoSaid : Prop := fnOrdNextUptoRow.holds Try.pinned (OpenSpec.upto fnOrdNextSpec)

/-- 'laws.FnOrdBefore', WHERE WHAT IT READS IS OF BULK AT MOST 1048576: true; the input reads as it did. -/
def fnOrdBeforeUptoRow : OpenClaim := { program := "ythalogciiochfaa", sum := "36c0525545bb4ed2d475e9f1025f86eb445613ea782a74ad943181eef9f72e2b", func := "loop.example/ordinalhydras/laws.FnOrdBefore", spec := "fnOrdBefore", recurses := true, apart := false, narrowed := true }
def FnOrdBeforeUptoSaid : Prop := fnOrdBeforeUptoRow.holds Try.pinned (OpenSpec.upto fnOrdBeforeSpec)

/-- 'laws.FnOrdStep', WHERE WHAT IT READS IS OF BULK AT MOST 1048576: true; the input reads as it did. -/
def fnOrdStepUptoRow : OpenClaim := { program := "ythalogciiochfaa", sum := "36c0525545bb4ed2d475e9f1025f86eb445613ea782a74ad943181eef9f72e2b", func := "loop.example/ordinalhydras/laws.FnOrdStep", spec := "fnOrdStep", recurses := true, apart := false, narrowed := true }
def FnOrdStepUptoSaid : Prop := fnOrdStepUptoRow.holds Try.pinned (OpenSpec.upto fnOrdStepSpec)

end Rows
end Go.Proofs.Ythalogciiochfaa
