/-
  No cell of these rows narrows 'for every input' (looked for: loops, veiled, ifaces, maps, wideKeys, modest, calm, conditions, laid).
  DERIVED. THE GIVEN ROWS OF THIS SEAT. 8 by the template 'for every input the law returns true; each argument reads behind the call as it read before'; 0 by the template 'total and deterministic' (their statements: YtdcaefgbpnjjaabTotals.lean).
  GIVEN WITH THE SEED: the statements are not yours to turn. If you find one false, say at which input.
  Laid BY PROGRAM, IN A SANDBOX (cutbox-rows.mjs): the forced cells as the released guide's own fill.sh prints them over the translation bf1d28f117443b32… (all of the seat's roots in one cut). By AI agents, Wed Nov 11 2026. No macro, syntax, notation, axiom, sorry.
-/
import Derived.Test.YtdcaefgbpnjjaabChecked
import GoSem.Claim
import GoSem.ClaimJoined
import GoSem.ClaimMapViews
import Derived.JoinedTies
import Derived.KernelRfl
namespace Go.Proofs.Ytdcaefgbpnjjaab
/- THE CELL 'sum', in the pinned program and in every row, IS THE sha256 OF THE DUMP (.gsa) THAT YtdcaefgbpnjjaabProg.lean LOADS. Nothing in Lean hashes anything: it is a label: what it is worth is what the hold of that sum in a sandbox is worth. -/
noncomputable def Try.pinned : Pinned := { name := "ytdcaefgbpnjjaab", sum := "bf1d28f117443b329c4bbd7f35e6db139a739e58ef60d4866974b08b02aa6004", checked := Try.checked }
namespace Rows
def none {H : Type} : Left H := { results := [], args := [] }

/-- 'laws.FnOrdStep': WHATEVER THE INPUT: true; the input reads as it did. -/
def fnOrdStepSpec : ChangeSpec := { name := "fnOrdStep", fn := fun _ => fun
  | [d1, d2] => { results := [.lit (.bool true)], args := [d1, d2] }
  | _ => none }
def fnOrdStepRow : OpenClaim := { program := "ytdcaefgbpnjjaab", sum := "bf1d28f117443b329c4bbd7f35e6db139a739e58ef60d4866974b08b02aa6004", func := "loop.example/ordinalhydras/laws.FnOrdStep", spec := "fnOrdStep", recurses := true, apart := false }
def FnOrdStepSaid : Prop := fnOrdStepRow.holds Try.pinned (OpenSpec.ofChange fnOrdStepSpec)

/-- ITS FALSE NEIGHBOUR: 'it returns false'. Refute it at one input. -/
def fnOrdStepWrong : ChangeSpec := { name := "fnOrdStep", fn := fun _ => fun
  | [d1, d2] => { results := [.lit (.bool false)], args := [d1, d2] }
  | _ => none }
def FnOrdStepWrongFalsely : Prop := fnOrdStepRow.holds Try.pinned (OpenSpec.ofChange fnOrdStepWrong)

/-- 'laws.FnOrdFall': WHATEVER THE INPUT: true; the input reads as it did. -/
def fnOrdFallSpec : ChangeSpec := { name := "fnOrdFall", fn := fun _ => fun
  | [d] => { results := [.lit (.bool true)], args := [d] }
  | _ => none }
def fnOrdFallRow : OpenClaim := { program := "ytdcaefgbpnjjaab", sum := "bf1d28f117443b329c4bbd7f35e6db139a739e58ef60d4866974b08b02aa6004", func := "loop.example/ordinalhydras/laws.FnOrdFall", spec := "fnOrdFall", unfollowed := true, recurses := true, apart := false }
def FnOrdFallSaid : Prop := fnOrdFallRow.holds Try.pinned (OpenSpec.ofChange fnOrdFallSpec)

/-- ITS FALSE NEIGHBOUR: 'it returns false'. Refute it at one input. -/
def fnOrdFallWrong : ChangeSpec := { name := "fnOrdFall", fn := fun _ => fun
  | [d] => { results := [.lit (.bool false)], args := [d] }
  | _ => none }
def FnOrdFallWrongFalsely : Prop := fnOrdFallRow.holds Try.pinned (OpenSpec.ofChange fnOrdFallWrong)

/-- 'laws.FnStepsDown': WHATEVER THE INPUT: true; the input reads as it did. -/
def fnStepsDownSpec : ChangeSpec := { name := "fnStepsDown", fn := fun _ => fun
  | [d1, d2] => { results := [.lit (.bool true)], args := [d1, d2] }
  | _ => none }
def fnStepsDownRow : OpenClaim := { program := "ytdcaefgbpnjjaab", sum := "bf1d28f117443b329c4bbd7f35e6db139a739e58ef60d4866974b08b02aa6004", func := "loop.example/ordinalhydras/laws.FnStepsDown", spec := "fnStepsDown", unfollowed := true, recurses := true, apart := false }
def FnStepsDownSaid : Prop := fnStepsDownRow.holds Try.pinned (OpenSpec.ofChange fnStepsDownSpec)

/-- ITS FALSE NEIGHBOUR: 'it returns false'. Refute it at one input. -/
def fnStepsDownWrong : ChangeSpec := { name := "fnStepsDown", fn := fun _ => fun
  | [d1, d2] => { results := [.lit (.bool false)], args := [d1, d2] }
  | _ => none }
def FnStepsDownWrongFalsely : Prop := fnStepsDownRow.holds Try.pinned (OpenSpec.ofChange fnStepsDownWrong)

/-- 'laws.FnSlowValue': WHATEVER THE INPUT: true; the input reads as it did. -/
def fnSlowValueSpec : ChangeSpec := { name := "fnSlowValue", fn := fun _ => fun
  | [d] => { results := [.lit (.bool true)], args := [d] }
  | _ => none }
def fnSlowValueRow : OpenClaim := { program := "ytdcaefgbpnjjaab", sum := "bf1d28f117443b329c4bbd7f35e6db139a739e58ef60d4866974b08b02aa6004", func := "loop.example/ordinalhydras/laws.FnSlowValue", spec := "fnSlowValue", recurses := true, apart := false }
def FnSlowValueSaid : Prop := fnSlowValueRow.holds Try.pinned (OpenSpec.ofChange fnSlowValueSpec)

/-- ITS FALSE NEIGHBOUR: 'it returns false'. Refute it at one input. -/
def fnSlowValueWrong : ChangeSpec := { name := "fnSlowValue", fn := fun _ => fun
  | [d] => { results := [.lit (.bool false)], args := [d] }
  | _ => none }
def FnSlowValueWrongFalsely : Prop := fnSlowValueRow.holds Try.pinned (OpenSpec.ofChange fnSlowValueWrong)

/-- 'laws.FnOrdMost': WHATEVER THE INPUT: true; the input reads as it did. -/
def fnOrdMostSpec : ChangeSpec := { name := "fnOrdMost", fn := fun _ => fun
  | [d1, d2] => { results := [.lit (.bool true)], args := [d1, d2] }
  | _ => none }
def fnOrdMostRow : OpenClaim := { program := "ytdcaefgbpnjjaab", sum := "bf1d28f117443b329c4bbd7f35e6db139a739e58ef60d4866974b08b02aa6004", func := "loop.example/ordinalhydras/laws.FnOrdMost", spec := "fnOrdMost", recurses := true, apart := false }
def FnOrdMostSaid : Prop := fnOrdMostRow.holds Try.pinned (OpenSpec.ofChange fnOrdMostSpec)

/-- ITS FALSE NEIGHBOUR: 'it returns false'. Refute it at one input. -/
def fnOrdMostWrong : ChangeSpec := { name := "fnOrdMost", fn := fun _ => fun
  | [d1, d2] => { results := [.lit (.bool false)], args := [d1, d2] }
  | _ => none }
def FnOrdMostWrongFalsely : Prop := fnOrdMostRow.holds Try.pinned (OpenSpec.ofChange fnOrdMostWrong)

/-- 'laws.FnOrdKind': WHATEVER THE INPUT: true; the input reads as it did. -/
def fnOrdKindSpec : ChangeSpec := { name := "fnOrdKind", fn := fun _ => fun
  | [d] => { results := [.lit (.bool true)], args := [d] }
  | _ => none }
def fnOrdKindRow : OpenClaim := { program := "ytdcaefgbpnjjaab", sum := "bf1d28f117443b329c4bbd7f35e6db139a739e58ef60d4866974b08b02aa6004", func := "loop.example/ordinalhydras/laws.FnOrdKind", spec := "fnOrdKind", recurses := true, apart := false }
def FnOrdKindSaid : Prop := fnOrdKindRow.holds Try.pinned (OpenSpec.ofChange fnOrdKindSpec)

/-- ITS FALSE NEIGHBOUR: 'it returns false'. Refute it at one input. -/
def fnOrdKindWrong : ChangeSpec := { name := "fnOrdKind", fn := fun _ => fun
  | [d] => { results := [.lit (.bool false)], args := [d] }
  | _ => none }
def FnOrdKindWrongFalsely : Prop := fnOrdKindRow.holds Try.pinned (OpenSpec.ofChange fnOrdKindWrong)

/-- 'laws.FnOrdNext': WHATEVER THE INPUT: true; the input reads as it did. -/
def fnOrdNextSpec : ChangeSpec := { name := "fnOrdNext", fn := fun _ => fun
  | [d1, d2] => { results := [.lit (.bool true)], args := [d1, d2] }
  | _ => none }
def fnOrdNextRow : OpenClaim := { program := "ytdcaefgbpnjjaab", sum := "bf1d28f117443b329c4bbd7f35e6db139a739e58ef60d4866974b08b02aa6004", func := "loop.example/ordinalhydras/laws.FnOrdNext", spec := "fnOrdNext", recurses := true, apart := false }
def FnOrdNextSaid : Prop := fnOrdNextRow.holds Try.pinned (OpenSpec.ofChange fnOrdNextSpec)

/-- ITS FALSE NEIGHBOUR: 'it returns false'. Refute it at one input. -/
def fnOrdNextWrong : ChangeSpec := { name := "fnOrdNext", fn := fun _ => fun
  | [d1, d2] => { results := [.lit (.bool false)], args := [d1, d2] }
  | _ => none }
def FnOrdNextWrongFalsely : Prop := fnOrdNextRow.holds Try.pinned (OpenSpec.ofChange fnOrdNextWrong)

/-- 'laws.FnOrdBefore': WHATEVER THE INPUT: true; the input reads as it did. -/
def fnOrdBeforeSpec : ChangeSpec := { name := "fnOrdBefore", fn := fun _ => fun
  | [d] => { results := [.lit (.bool true)], args := [d] }
  | _ => none }
def fnOrdBeforeRow : OpenClaim := { program := "ytdcaefgbpnjjaab", sum := "bf1d28f117443b329c4bbd7f35e6db139a739e58ef60d4866974b08b02aa6004", func := "loop.example/ordinalhydras/laws.FnOrdBefore", spec := "fnOrdBefore", recurses := true, apart := false }
def FnOrdBeforeSaid : Prop := fnOrdBeforeRow.holds Try.pinned (OpenSpec.ofChange fnOrdBeforeSpec)

/-- ITS FALSE NEIGHBOUR: 'it returns false'. Refute it at one input. -/
def fnOrdBeforeWrong : ChangeSpec := { name := "fnOrdBefore", fn := fun _ => fun
  | [d] => { results := [.lit (.bool false)], args := [d] }
  | _ => none }
def FnOrdBeforeWrongFalsely : Prop := fnOrdBeforeRow.holds Try.pinned (OpenSpec.ofChange fnOrdBeforeWrong)

/- THE SECOND FORM. 'bulk': how many values and letters a reading holds, each counted each time it is reached (what is shared counts as often as it is met; a slice's spare places count too). A statement '..UptoSaid' is the law's where the arguments, and the package variables that the reading takes, are together of bulk at most 1048576: NARROWER than '..Said'. Prove '..Said' where nothing that the law and all that it calls make is longer than what came in: it says more and counts as full. Else prove '..UptoSaid'. A law counts once. -/
mutual
def uptoBulk {H : Type} : DataW H → Nat
  | .lit (.string bytes) => bytes.length + 1
  | .lit _ => 1
  | .nil => 1
  | .ptr d => uptoBulk d + 1
  | .slice elems spare => uptoBulkAll elems + uptoBulkAll spare + 1
  | .agg parts => uptoBulkAll parts + 1
  | .iface _ d => uptoBulk d + 1
  | .map entries => uptoBulkEntries entries + 1
  | .held _ => 1
def uptoBulkAll {H : Type} : List (DataW H) → Nat
  | [] => 0
  | d :: r => uptoBulk d + uptoBulkAll r
def uptoBulkEntries {H : Type} : List (Lit × DataW H) → Nat
  | [] => 0
  | x :: r => uptoBulkEntry x + uptoBulkEntries r
def uptoBulkEntry {H : Type} : Lit × DataW H → Nat
  | (.string bytes, d) => bytes.length + uptoBulk d + 1
  | (_, d) => uptoBulk d + 1
 end
def uptoSmall : (H : Type) → List (DataW H) → Bool := fun _ ds => decide (uptoBulkAll ds ≤ 1048576)
def OpenSpec.upto (s : _root_.Go.ChangeSpec) : _root_.Go.OpenSpec := { _root_.Go.OpenSpec.ofChange s with cond := some uptoSmall }

/-- 'laws.FnOrdStep', WHERE WHAT IT READS IS OF BULK AT MOST 1048576: true; the input reads as it did. -/
def fnOrdStepUptoRow : OpenClaim := { program := "ytdcaefgbpnjjaab", sum := "bf1d28f117443b329c4bbd7f35e6db139a739e58ef60d4866974b08b02aa6004", func := "loop.example/ordinalhydras/laws.FnOrdStep", spec := "fnOrdStep", recurses := true, apart := false, narrowed := true }
def FnOrdStepUptoSaid : Prop := fnOrdStepUptoRow.holds Try.pinned (OpenSpec.upto fnOrdStepSpec)

/-- 'laws.FnOrdFall', WHERE WHAT IT READS IS OF BULK AT MOST 1048576: true; the input reads as it did. -/
def fnOrdFallUptoRow : OpenClaim := { program := "ytdcaefgbpnjjaab", sum := "bf1d28f117443b329c4bbd7f35e6db139a739e58ef60d4866974b08b02aa6004", func := "loop.example/ordinalhydras/laws.FnOrdFall", spec := "fnOrdFall", unfollowed := true, recurses := true, apart := false, narrowed := true }
def FnOrdFallUptoSaid : Prop := fnOrdFallUptoRow.holds Try.pinned (OpenSpec.upto fnOrdFallSpec)

/-- 'laws.FnStepsDown', WHERE WHAT IT READS IS OF BULK AT MOST 1048576: true; the input reads as it did. -/
def fnStepsDownUptoRow : OpenClaim := { program := "ytdcaefgbpnjjaab", sum := "bf1d28f117443b329c4bbd7f35e6db139a739e58ef60d4866974b08b02aa6004", func := "loop.example/ordinalhydras/laws.FnStepsDown", spec := "fnStepsDown", unfollowed := true, recurses := true, apart := false, narrowed := true }
def FnStepsDownUptoSaid : Prop := fnStepsDownUptoRow.holds Try.pinned (OpenSpec.upto fnStepsDownSpec)

/-- 'laws.FnSlowValue', WHERE WHAT IT READS IS OF BULK AT MOST 1048576: true; the input reads as it did. -/
def fnSlowValueUptoRow : OpenClaim := { program := "ytdcaefgbpnjjaab", sum := "bf1d28f117443b329c4bbd7f35e6db139a739e58ef60d4866974b08b02aa6004", func := "loop.example/ordinalhydras/laws.FnSlowValue", spec := "fnSlowValue", recurses := true, apart := false, narrowed := true }
def FnSlowValueUptoSaid : Prop := fnSlowValueUptoRow.holds Try.pinned (OpenSpec.upto fnSlowValueSpec)

/-- 'laws.FnOrdMost', WHERE WHAT IT READS IS OF BULK AT MOST 1048576: true; the input reads as it did. -/
def fnOrdMostUptoRow : OpenClaim := { program := "ytdcaefgbpnjjaab", sum := "bf1d28f117443b329c4bbd7f35e6db139a739e58ef60d4866974b08b02aa6004", func := "loop.example/ordinalhydras/laws.FnOrdMost", spec := "fnOrdMost", recurses := true, apart := false, narrowed := true }
def FnOrdMostUptoSaid : Prop := fnOrdMostUptoRow.holds Try.pinned (OpenSpec.upto fnOrdMostSpec)

/-- 'laws.FnOrdKind', WHERE WHAT IT READS IS OF BULK AT MOST 1048576: true; the input reads as it did. -/
def fnOrdKindUptoRow : OpenClaim := { program := "ytdcaefgbpnjjaab", sum := "bf1d28f117443b329c4bbd7f35e6db139a739e58ef60d4866974b08b02aa6004", func := "loop.example/ordinalhydras/laws.FnOrdKind", spec := "fnOrdKind", recurses := true, apart := false, narrowed := true }
def FnOrdKindUptoSaid : Prop := fnOrdKindUptoRow.holds Try.pinned (OpenSpec.upto fnOrdKindSpec)

/-- 'laws.FnOrdNext', WHERE WHAT IT READS IS OF BULK AT MOST 1048576: true; the input reads as it did. -/
def fnOrdNextUptoRow : OpenClaim := { program := "ytdcaefgbpnjjaab", sum := "bf1d28f117443b329c4bbd7f35e6db139a739e58ef60d4866974b08b02aa6004", func := "loop.example/ordinalhydras/laws.FnOrdNext", spec := "fnOrdNext", recurses := true, apart := false, narrowed := true }
def FnOrdNextUptoSaid : Prop := fnOrdNextUptoRow.holds Try.pinned (OpenSpec.upto fnOrdNextSpec)

/-- 'laws.FnOrdBefore', WHERE WHAT IT READS IS OF BULK AT MOST 1048576: true; the input reads as it did. -/
def fnOrdBeforeUptoRow : OpenClaim := { program := "ytdcaefgbpnjjaab", sum := "bf1d28f117443b329c4bbd7f35e6db139a739e58ef60d4866974b08b02aa6004", func := "loop.example/ordinalhydras/laws.FnOrdBefore", spec := "fnOrdBefore", recurses := true, apart := false, narrowed := true }
def FnOrdBeforeUptoSaid : Prop := fnOrdBeforeUptoRow.holds Try.pinned (OpenSpec.upto fnOrdBeforeSpec)

end Rows
end Go.Proofs.Ytdcaefgbpnjjaab
