/-
  No cell of these rows narrows 'for every input' (looked for: loops, veiled, ifaces, maps, wideKeys, modest, calm, conditions, laid).
  DERIVED. THE GIVEN ROWS OF THIS SEAT. 8 by the template 'for every input the law returns true; each argument reads behind the call as it read before'; 0 by the template 'total and deterministic' (their statements: YtdcaefgbpnjjaaaTotals.lean).
  GIVEN WITH THE SEED: the statements are not yours to turn. If you find one false, say at which input.
  Laid BY PROGRAM, IN A SANDBOX (cutbox-rows.mjs): the forced cells as the released guide's own fill.sh prints them over the translation ec11873e2c036da2… (all of the seat's roots in one cut). By AI agents, Wed Nov 11 2026. No macro, syntax, notation, axiom, sorry.
-/
import Derived.Test.YtdcaefgbpnjjaaaChecked
import GoSem.Claim
import GoSem.ClaimJoined
import GoSem.ClaimMapViews
import Derived.JoinedTies
import Derived.KernelRfl
namespace Go.Proofs.Ytdcaefgbpnjjaaa
/- THE CELL 'sum', in the pinned program and in every row, IS THE sha256 OF THE DUMP (.gsa) THAT YtdcaefgbpnjjaaaProg.lean LOADS. Nothing in Lean hashes anything: it is a label: what it is worth is what the hold of that sum in a sandbox is worth. -/
noncomputable def Try.pinned : Pinned := { name := "ytdcaefgbpnjjaaa", sum := "ec11873e2c036da27ce4486fc2bc9ba34af71647b1658a72fb026a32a9e8e336", checked := Try.checked }
namespace Rows
def none {H : Type} : Left H := { results := [], args := [] }

/-- 'laws.FnExactOrdStep': WHATEVER THE INPUT: true; the input reads as it did. -/
def fnExactOrdStepSpec : ChangeSpec := { name := "fnExactOrdStep", fn := fun _ => fun
  | [d1, d2] => { results := [.lit (.bool true)], args := [d1, d2] }
  | _ => none }
def fnExactOrdStepRow : OpenClaim := { program := "ytdcaefgbpnjjaaa", sum := "ec11873e2c036da27ce4486fc2bc9ba34af71647b1658a72fb026a32a9e8e336", func := "loop.example/ordinalhydras/laws.FnExactOrdStep", spec := "fnExactOrdStep", recurses := true, apart := false }
def FnExactOrdStepSaid : Prop := fnExactOrdStepRow.holds Try.pinned (OpenSpec.ofChange fnExactOrdStepSpec)

/-- ITS FALSE NEIGHBOUR: 'it returns false'. Refute it at one input. -/
def fnExactOrdStepWrong : ChangeSpec := { name := "fnExactOrdStep", fn := fun _ => fun
  | [d1, d2] => { results := [.lit (.bool false)], args := [d1, d2] }
  | _ => none }
def FnExactOrdStepWrongFalsely : Prop := fnExactOrdStepRow.holds Try.pinned (OpenSpec.ofChange fnExactOrdStepWrong)

/-- 'laws.FnExactOrdFall': WHATEVER THE INPUT: true; the input reads as it did. -/
def fnExactOrdFallSpec : ChangeSpec := { name := "fnExactOrdFall", fn := fun _ => fun
  | [d1, d2] => { results := [.lit (.bool true)], args := [d1, d2] }
  | _ => none }
def fnExactOrdFallRow : OpenClaim := { program := "ytdcaefgbpnjjaaa", sum := "ec11873e2c036da27ce4486fc2bc9ba34af71647b1658a72fb026a32a9e8e336", func := "loop.example/ordinalhydras/laws.FnExactOrdFall", spec := "fnExactOrdFall", unfollowed := true, recurses := true, apart := false }
def FnExactOrdFallSaid : Prop := fnExactOrdFallRow.holds Try.pinned (OpenSpec.ofChange fnExactOrdFallSpec)

/-- ITS FALSE NEIGHBOUR: 'it returns false'. Refute it at one input. -/
def fnExactOrdFallWrong : ChangeSpec := { name := "fnExactOrdFall", fn := fun _ => fun
  | [d1, d2] => { results := [.lit (.bool false)], args := [d1, d2] }
  | _ => none }
def FnExactOrdFallWrongFalsely : Prop := fnExactOrdFallRow.holds Try.pinned (OpenSpec.ofChange fnExactOrdFallWrong)

/-- 'laws.FnExactStepsDown': WHATEVER THE INPUT: true; the input reads as it did. -/
def fnExactStepsDownSpec : ChangeSpec := { name := "fnExactStepsDown", fn := fun _ => fun
  | [d1, d2] => { results := [.lit (.bool true)], args := [d1, d2] }
  | _ => none }
def fnExactStepsDownRow : OpenClaim := { program := "ytdcaefgbpnjjaaa", sum := "ec11873e2c036da27ce4486fc2bc9ba34af71647b1658a72fb026a32a9e8e336", func := "loop.example/ordinalhydras/laws.FnExactStepsDown", spec := "fnExactStepsDown", unfollowed := true, recurses := true, apart := false }
def FnExactStepsDownSaid : Prop := fnExactStepsDownRow.holds Try.pinned (OpenSpec.ofChange fnExactStepsDownSpec)

/-- ITS FALSE NEIGHBOUR: 'it returns false'. Refute it at one input. -/
def fnExactStepsDownWrong : ChangeSpec := { name := "fnExactStepsDown", fn := fun _ => fun
  | [d1, d2] => { results := [.lit (.bool false)], args := [d1, d2] }
  | _ => none }
def FnExactStepsDownWrongFalsely : Prop := fnExactStepsDownRow.holds Try.pinned (OpenSpec.ofChange fnExactStepsDownWrong)

/-- 'laws.FnExactSlowValue': WHATEVER THE INPUT: true; the input reads as it did. -/
def fnExactSlowValueSpec : ChangeSpec := { name := "fnExactSlowValue", fn := fun _ => fun
  | [d1, d2] => { results := [.lit (.bool true)], args := [d1, d2] }
  | _ => none }
def fnExactSlowValueRow : OpenClaim := { program := "ytdcaefgbpnjjaaa", sum := "ec11873e2c036da27ce4486fc2bc9ba34af71647b1658a72fb026a32a9e8e336", func := "loop.example/ordinalhydras/laws.FnExactSlowValue", spec := "fnExactSlowValue", recurses := true, apart := false }
def FnExactSlowValueSaid : Prop := fnExactSlowValueRow.holds Try.pinned (OpenSpec.ofChange fnExactSlowValueSpec)

/-- ITS FALSE NEIGHBOUR: 'it returns false'. Refute it at one input. -/
def fnExactSlowValueWrong : ChangeSpec := { name := "fnExactSlowValue", fn := fun _ => fun
  | [d1, d2] => { results := [.lit (.bool false)], args := [d1, d2] }
  | _ => none }
def FnExactSlowValueWrongFalsely : Prop := fnExactSlowValueRow.holds Try.pinned (OpenSpec.ofChange fnExactSlowValueWrong)

/-- 'laws.FnExactOrdMost': WHATEVER THE INPUT: true; the input reads as it did. -/
def fnExactOrdMostSpec : ChangeSpec := { name := "fnExactOrdMost", fn := fun _ => fun
  | [d] => { results := [.lit (.bool true)], args := [d] }
  | _ => none }
def fnExactOrdMostRow : OpenClaim := { program := "ytdcaefgbpnjjaaa", sum := "ec11873e2c036da27ce4486fc2bc9ba34af71647b1658a72fb026a32a9e8e336", func := "loop.example/ordinalhydras/laws.FnExactOrdMost", spec := "fnExactOrdMost", recurses := true, apart := false }
def FnExactOrdMostSaid : Prop := fnExactOrdMostRow.holds Try.pinned (OpenSpec.ofChange fnExactOrdMostSpec)

/-- ITS FALSE NEIGHBOUR: 'it returns false'. Refute it at one input. -/
def fnExactOrdMostWrong : ChangeSpec := { name := "fnExactOrdMost", fn := fun _ => fun
  | [d] => { results := [.lit (.bool false)], args := [d] }
  | _ => none }
def FnExactOrdMostWrongFalsely : Prop := fnExactOrdMostRow.holds Try.pinned (OpenSpec.ofChange fnExactOrdMostWrong)

/-- 'laws.FnExactOrdKind': WHATEVER THE INPUT: true; the input reads as it did. -/
def fnExactOrdKindSpec : ChangeSpec := { name := "fnExactOrdKind", fn := fun _ => fun
  | [d] => { results := [.lit (.bool true)], args := [d] }
  | _ => none }
def fnExactOrdKindRow : OpenClaim := { program := "ytdcaefgbpnjjaaa", sum := "ec11873e2c036da27ce4486fc2bc9ba34af71647b1658a72fb026a32a9e8e336", func := "loop.example/ordinalhydras/laws.FnExactOrdKind", spec := "fnExactOrdKind", recurses := true, apart := false }
def FnExactOrdKindSaid : Prop := fnExactOrdKindRow.holds Try.pinned (OpenSpec.ofChange fnExactOrdKindSpec)

/-- ITS FALSE NEIGHBOUR: 'it returns false'. Refute it at one input. -/
def fnExactOrdKindWrong : ChangeSpec := { name := "fnExactOrdKind", fn := fun _ => fun
  | [d] => { results := [.lit (.bool false)], args := [d] }
  | _ => none }
def FnExactOrdKindWrongFalsely : Prop := fnExactOrdKindRow.holds Try.pinned (OpenSpec.ofChange fnExactOrdKindWrong)

/-- 'laws.FnExactOrdBefore': WHATEVER THE INPUT: true; the input reads as it did. -/
def fnExactOrdBeforeSpec : ChangeSpec := { name := "fnExactOrdBefore", fn := fun _ => fun
  | [d] => { results := [.lit (.bool true)], args := [d] }
  | _ => none }
def fnExactOrdBeforeRow : OpenClaim := { program := "ytdcaefgbpnjjaaa", sum := "ec11873e2c036da27ce4486fc2bc9ba34af71647b1658a72fb026a32a9e8e336", func := "loop.example/ordinalhydras/laws.FnExactOrdBefore", spec := "fnExactOrdBefore", recurses := true, apart := false }
def FnExactOrdBeforeSaid : Prop := fnExactOrdBeforeRow.holds Try.pinned (OpenSpec.ofChange fnExactOrdBeforeSpec)

/-- ITS FALSE NEIGHBOUR: 'it returns false'. Refute it at one input. -/
def fnExactOrdBeforeWrong : ChangeSpec := { name := "fnExactOrdBefore", fn := fun _ => fun
  | [d] => { results := [.lit (.bool false)], args := [d] }
  | _ => none }
def FnExactOrdBeforeWrongFalsely : Prop := fnExactOrdBeforeRow.holds Try.pinned (OpenSpec.ofChange fnExactOrdBeforeWrong)

/-- 'laws.FnExactOrdNext': WHATEVER THE INPUT: true; the input reads as it did. -/
def fnExactOrdNextSpec : ChangeSpec := { name := "fnExactOrdNext", fn := fun _ => fun
  | [d] => { results := [.lit (.bool true)], args := [d] }
  | _ => none }
def fnExactOrdNextRow : OpenClaim := { program := "ytdcaefgbpnjjaaa", sum := "ec11873e2c036da27ce4486fc2bc9ba34af71647b1658a72fb026a32a9e8e336", func := "loop.example/ordinalhydras/laws.FnExactOrdNext", spec := "fnExactOrdNext", recurses := true, apart := false }
def FnExactOrdNextSaid : Prop := fnExactOrdNextRow.holds Try.pinned (OpenSpec.ofChange fnExactOrdNextSpec)

/-- ITS FALSE NEIGHBOUR: 'it returns false'. Refute it at one input. -/
def fnExactOrdNextWrong : ChangeSpec := { name := "fnExactOrdNext", fn := fun _ => fun
  | [d] => { results := [.lit (.bool false)], args := [d] }
  | _ => none }
def FnExactOrdNextWrongFalsely : Prop := fnExactOrdNextRow.holds Try.pinned (OpenSpec.ofChange fnExactOrdNextWrong)

/- THE SECOND FORM. 'bulk': how many values and letters a reading holds, each counted each time it is reached (what is shared counts as often as it is met; a slice's spare places count too). A statement '..UptoSaid' is the law's where the arguments, and the package variables that the reading takes, are together of bulk at most 1048576: NARROWER than '..Said'. Prove '..Said' where nothing that the law and all that it calls make is longer than what came in: it says more and counts as full. Else prove '..UptoSaid'. A law counts once. -/
mutual
def uptoBulk {H : Type} : DataW H → Nat
  | .lit (.string bytes) => bytes.length + 1
  | .lit _ => 1
  | .nil => 1
  | .ptr d => uptoBulk d + 1
  | .slice elems spare => uptoBulkAll elems + uptoBulkAll spare + 1
  | .agg parts => uptoBulkAll parts + 1
  | .iface _ d => uptoBulk d + 1
  | .map entries => uptoBulkEntries entries + 1
  | .held _ => 1
def uptoBulkAll {H : Type} : List (DataW H) → Nat
  | [] => 0
  | d :: r => uptoBulk d + uptoBulkAll r
def uptoBulkEntries {H : Type} : List (Lit × DataW H) → Nat
  | [] => 0
  | x :: r => uptoBulkEntry x + uptoBulkEntries r
def uptoBulkEntry {H : Type} : Lit × DataW H → Nat
  | (.string bytes, d) => bytes.length + uptoBulk d + 1
  | (_, d) => uptoBulk d + 1
 end
def uptoSmall : (H : Type) → List (DataW H) → Bool := fun _ ds => decide (uptoBulkAll ds ≤ 1048576)
def OpenSpec.upto (s : _root_.Go.ChangeSpec) : _root_.Go.OpenSpec := { _root_.Go.OpenSpec.ofChange s with cond := some uptoSmall }

/-- 'laws.FnExactOrdStep', WHERE WHAT IT READS IS OF BULK AT MOST 1048576: true; the input reads as it did. -/
def fnExactOrdStepUptoRow : OpenClaim := { program := "ytdcaefgbpnjjaaa", sum := "ec11873e2c036da27ce4486fc2bc9ba34af71647b1658a72fb026a32a9e8e336", func := "loop.example/ordinalhydras/laws.FnExactOrdStep", spec := "fnExactOrdStep", recurses := true, apart := false, narrowed := true }
def FnExactOrdStepUptoSaid : Prop := fnExactOrdStepUptoRow.holds Try.pinned (OpenSpec.upto fnExactOrdStepSpec)

/-- 'laws.FnExactOrdFall', WHERE WHAT IT READS IS OF BULK AT MOST 1048576: true; the input reads as it did. -/
def fnExactOrdFallUptoRow : OpenClaim := { program := "ytdcaefgbpnjjaaa", sum := "ec11873e2c036da27ce4486fc2bc9ba34af71647b1658a72fb026a32a9e8e336", func := "loop.example/ordinalhydras/laws.FnExactOrdFall", spec := "fnExactOrdFall", unfollowed := true, recurses := true, apart := false, narrowed := true }
def FnExactOrdFallUptoSaid : Prop := fnExactOrdFallUptoRow.holds Try.pinned (OpenSpec.upto fnExactOrdFallSpec)

/-- 'laws.FnExactStepsDown', WHERE WHAT IT READS IS OF BULK AT MOST 1048576: true; the input reads as it did. -/
def fnExactStepsDownUptoRow : OpenClaim := { program := "ytdcaefgbpnjjaaa", sum := "ec11873e2c036da27ce4486fc2bc9ba34af71647b1658a72fb026a32a9e8e336", func := "loop.example/ordinalhydras/laws.FnExactStepsDown", spec := "fnExactStepsDown", unfollowed := true, recurses := true, apart := false, narrowed := true }
def FnExactStepsDownUptoSaid : Prop := fnExactStepsDownUptoRow.holds Try.pinned (OpenSpec.upto fnExactStepsDownSpec)

/-- 'laws.FnExactSlowValue', WHERE WHAT IT READS IS OF BULK AT MOST 1048576: true; the input reads as it did. -/
def fnExactSlowValueUptoRow : OpenClaim := { program := "ytdcaefgbpnjjaaa", sum := "ec11873e2c036da27ce4486fc2bc9ba34af71647b1658a72fb026a32a9e8e336", func := "loop.example/ordinalhydras/laws.FnExactSlowValue", spec := "fnExactSlowValue", recurses := true, apart := false, narrowed := true }
def FnExactSlowValueUptoSaid : Prop := fnExactSlowValueUptoRow.holds Try.pinned (OpenSpec.upto fnExactSlowValueSpec)

/-- 'laws.FnExactOrdMost', WHERE WHAT IT READS IS OF BULK AT MOST 1048576: true; the input reads as it did. -/
def fnExactOrdMostUptoRow : OpenClaim := { program := "ytdcaefgbpnjjaaa", sum := "ec11873e2c036da27ce4486fc2bc9ba34af71647b1658a72fb026a32a9e8e336", func := "loop.example/ordinalhydras/laws.FnExactOrdMost", spec := "fnExactOrdMost", recurses := true, apart := false, narrowed := true }
def FnExactOrdMostUptoSaid : Prop := fnExactOrdMostUptoRow.holds Try.pinned (OpenSpec.upto fnExactOrdMostSpec)

/-- 'laws.FnExactOrdKind', WHERE WHAT IT READS IS OF BULK AT MOST 1048576: true; the input reads as it did. -/
def fnExactOrdKindUptoRow : OpenClaim := { program := "ytdcaefgbpnjjaaa", sum := "ec11873e2c036da27ce4486fc2bc9ba34af71647b1658a72fb026a32a9e8e336", func := "loop.example/ordinalhydras/laws.FnExactOrdKind", spec := "fnExactOrdKind", recurses := true, apart := false, narrowed := true }
def FnExactOrdKindUptoSaid : Prop := fnExactOrdKindUptoRow.holds Try.pinned (OpenSpec.upto fnExactOrdKindSpec)

/-- 'laws.FnExactOrdBefore', WHERE WHAT IT READS IS OF BULK AT MOST 1048576: true; the input reads as it did. -/
def fnExactOrdBeforeUptoRow : OpenClaim := { program := "ytdcaefgbpnjjaaa", sum := "ec11873e2c036da27ce4486fc2bc9ba34af71647b1658a72fb026a32a9e8e336", func := "loop.example/ordinalhydras/laws.FnExactOrdBefore", spec := "fnExactOrdBefore", recurses := true, apart := false, narrowed := true }
def FnExactOrdBeforeUptoSaid : Prop := fnExactOrdBeforeUptoRow.holds Try.pinned (OpenSpec.upto fnExactOrdBeforeSpec)

/-- 'laws.FnExactOrdNext', WHERE WHAT IT READS IS OF BULK AT MOST 1048576: true; the input reads as it did. -/
def fnExactOrdNextUptoRow : OpenClaim := { program := "ytdcaefgbpnjjaaa", sum := "ec11873e2c036da27ce4486fc2bc9ba34af71647b1658a72fb026a32a9e8e336", func := "loop.example/ordinalhydras/laws.FnExactOrdNext", spec := "fnExactOrdNext", recurses := true, apart := false, narrowed := true }
def FnExactOrdNextUptoSaid : Prop := fnExactOrdNextUptoRow.holds Try.pinned (OpenSpec.upto fnExactOrdNextSpec)

end Rows
end Go.Proofs.Ytdcaefgbpnjjaaa
