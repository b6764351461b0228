/-
  No cell of these rows narrows 'for every input' (looked for: loops, veiled, ifaces, maps, wideKeys, modest, calm, conditions, laid).
  DERIVED. THE GIVEN ROWS OF THIS SEAT. 5 by the template 'for every input the law returns true; each argument reads behind the call as it read before'; 0 by the template 'total and deterministic' (their statements: YtaleaagnkfbhpaaTotals.lean).
  GIVEN WITH THE SEED: the statements are not yours to turn. If you find one false, say at which input.
  Laid BY PROGRAM, IN A SANDBOX (cutbox-rows.mjs): the forced cells as the released guide's own fill.sh prints them over the translation cd2ed73328770635… (all of the seat's roots in one cut). By AI agents, Wed Nov 11 2026. No macro, syntax, notation, axiom, sorry.
-/
import Derived.Test.YtaleaagnkfbhpaaChecked
import GoSem.Claim
import GoSem.ClaimJoined
import GoSem.ClaimMapViews
import Derived.JoinedTies
import Derived.KernelRfl
namespace Go.Proofs.Ytaleaagnkfbhpaa
/- THE CELL 'sum', in the pinned program and in every row, IS THE sha256 OF THE DUMP (.gsa) THAT YtaleaagnkfbhpaaProg.lean LOADS. Nothing in Lean hashes anything: it is a label: what it is worth is what the hold of that sum in a sandbox is worth. -/
noncomputable def Try.pinned : Pinned := { name := "ytaleaagnkfbhpaa", sum := "cd2ed733287706351c59260b2679a4d50520673b7d2ee5059ae3f05e55e40a45", checked := Try.checked }
namespace Rows
def none {H : Type} : Left H := { results := [], args := [] }

/-- 'laws.FnExactOrdNatural': WHATEVER THE INPUT: true; the input reads as it did. -/
def fnExactOrdNaturalSpec : ChangeSpec := { name := "fnExactOrdNatural", fn := fun _ => fun
  | [d1, d2] => { results := [.lit (.bool true)], args := [d1, d2] }
  | _ => none }
def fnExactOrdNaturalRow : OpenClaim := { program := "ytaleaagnkfbhpaa", sum := "cd2ed733287706351c59260b2679a4d50520673b7d2ee5059ae3f05e55e40a45", func := "loop.example/ordinalhydras/laws.FnExactOrdNatural", spec := "fnExactOrdNatural", recurses := true, apart := false }
def FnExactOrdNaturalSaid : Prop := fnExactOrdNaturalRow.holds Try.pinned (OpenSpec.ofChange fnExactOrdNaturalSpec)

/-- ITS FALSE NEIGHBOUR: 'it returns false'. Refute it at one input. -/
def fnExactOrdNaturalWrong : ChangeSpec := { name := "fnExactOrdNatural", fn := fun _ => fun
  | [d1, d2] => { results := [.lit (.bool false)], args := [d1, d2] }
  | _ => none }
def FnExactOrdNaturalWrongFalsely : Prop := fnExactOrdNaturalRow.holds Try.pinned (OpenSpec.ofChange fnExactOrdNaturalWrong)

/-- 'laws.FnExactOrdTimes': WHATEVER THE INPUT: true; the input reads as it did. -/
def fnExactOrdTimesSpec : ChangeSpec := { name := "fnExactOrdTimes", fn := fun _ => fun
  | [d1, d2] => { results := [.lit (.bool true)], args := [d1, d2] }
  | _ => none }
def fnExactOrdTimesRow : OpenClaim := { program := "ytaleaagnkfbhpaa", sum := "cd2ed733287706351c59260b2679a4d50520673b7d2ee5059ae3f05e55e40a45", func := "loop.example/ordinalhydras/laws.FnExactOrdTimes", spec := "fnExactOrdTimes", recurses := true, apart := false }
def FnExactOrdTimesSaid : Prop := fnExactOrdTimesRow.holds Try.pinned (OpenSpec.ofChange fnExactOrdTimesSpec)

/-- ITS FALSE NEIGHBOUR: 'it returns false'. Refute it at one input. -/
def fnExactOrdTimesWrong : ChangeSpec := { name := "fnExactOrdTimes", fn := fun _ => fun
  | [d1, d2] => { results := [.lit (.bool false)], args := [d1, d2] }
  | _ => none }
def FnExactOrdTimesWrongFalsely : Prop := fnExactOrdTimesRow.holds Try.pinned (OpenSpec.ofChange fnExactOrdTimesWrong)

/-- 'laws.FnExactOrdMinus': WHATEVER THE INPUT: true; the input reads as it did. -/
def fnExactOrdMinusSpec : ChangeSpec := { name := "fnExactOrdMinus", fn := fun _ => fun
  | [d1, d2] => { results := [.lit (.bool true)], args := [d1, d2] }
  | _ => none }
def fnExactOrdMinusRow : OpenClaim := { program := "ytaleaagnkfbhpaa", sum := "cd2ed733287706351c59260b2679a4d50520673b7d2ee5059ae3f05e55e40a45", func := "loop.example/ordinalhydras/laws.FnExactOrdMinus", spec := "fnExactOrdMinus", recurses := true, apart := false }
def FnExactOrdMinusSaid : Prop := fnExactOrdMinusRow.holds Try.pinned (OpenSpec.ofChange fnExactOrdMinusSpec)

/-- ITS FALSE NEIGHBOUR: 'it returns false'. Refute it at one input. -/
def fnExactOrdMinusWrong : ChangeSpec := { name := "fnExactOrdMinus", fn := fun _ => fun
  | [d1, d2] => { results := [.lit (.bool false)], args := [d1, d2] }
  | _ => none }
def FnExactOrdMinusWrongFalsely : Prop := fnExactOrdMinusRow.holds Try.pinned (OpenSpec.ofChange fnExactOrdMinusWrong)

/-- 'laws.FnExactOrdDivide': WHATEVER THE INPUT: true; the input reads as it did. -/
def fnExactOrdDivideSpec : ChangeSpec := { name := "fnExactOrdDivide", fn := fun _ => fun
  | [d1, d2] => { results := [.lit (.bool true)], args := [d1, d2] }
  | _ => none }
def fnExactOrdDivideRow : OpenClaim := { program := "ytaleaagnkfbhpaa", sum := "cd2ed733287706351c59260b2679a4d50520673b7d2ee5059ae3f05e55e40a45", func := "loop.example/ordinalhydras/laws.FnExactOrdDivide", spec := "fnExactOrdDivide", recurses := true, apart := false }
def FnExactOrdDivideSaid : Prop := fnExactOrdDivideRow.holds Try.pinned (OpenSpec.ofChange fnExactOrdDivideSpec)

/-- ITS FALSE NEIGHBOUR: 'it returns false'. Refute it at one input. -/
def fnExactOrdDivideWrong : ChangeSpec := { name := "fnExactOrdDivide", fn := fun _ => fun
  | [d1, d2] => { results := [.lit (.bool false)], args := [d1, d2] }
  | _ => none }
def FnExactOrdDivideWrongFalsely : Prop := fnExactOrdDivideRow.holds Try.pinned (OpenSpec.ofChange fnExactOrdDivideWrong)

/-- 'laws.FnExactOrdRaise': WHATEVER THE INPUT: true; the input reads as it did. -/
def fnExactOrdRaiseSpec : ChangeSpec := { name := "fnExactOrdRaise", fn := fun _ => fun
  | [d1, d2] => { results := [.lit (.bool true)], args := [d1, d2] }
  | _ => none }
def fnExactOrdRaiseRow : OpenClaim := { program := "ytaleaagnkfbhpaa", sum := "cd2ed733287706351c59260b2679a4d50520673b7d2ee5059ae3f05e55e40a45", func := "loop.example/ordinalhydras/laws.FnExactOrdRaise", spec := "fnExactOrdRaise", recurses := true, apart := false }
def FnExactOrdRaiseSaid : Prop := fnExactOrdRaiseRow.holds Try.pinned (OpenSpec.ofChange fnExactOrdRaiseSpec)

/-- ITS FALSE NEIGHBOUR: 'it returns false'. Refute it at one input. -/
def fnExactOrdRaiseWrong : ChangeSpec := { name := "fnExactOrdRaise", fn := fun _ => fun
  | [d1, d2] => { results := [.lit (.bool false)], args := [d1, d2] }
  | _ => none }
def FnExactOrdRaiseWrongFalsely : Prop := fnExactOrdRaiseRow.holds Try.pinned (OpenSpec.ofChange fnExactOrdRaiseWrong)

/- THE SECOND FORM. 'bulk': how many values and letters a reading holds, each counted each time it is reached (what is shared counts as often as it is met; a slice's spare places count too). A statement '..UptoSaid' is the law's where the arguments, and the package variables that the reading takes, are together of bulk at most 1048576: NARROWER than '..Said'. Prove '..Said' where nothing that the law and all that it calls make is longer than what came in: it says more and counts as full. Else prove '..UptoSaid'. A law counts once. -/
mutual
def uptoBulk {H : Type} : DataW H → Nat
  | .lit (.string bytes) => bytes.length + 1
  | .lit _ => 1
  | .nil => 1
  | .ptr d => uptoBulk d + 1
  | .slice elems spare => uptoBulkAll elems + uptoBulkAll spare + 1
  | .agg parts => uptoBulkAll parts + 1
  | .iface _ d => uptoBulk d + 1
  | .map entries => uptoBulkEntries entries + 1
  | .held _ => 1
def uptoBulkAll {H : Type} : List (DataW H) → Nat
  | [] => 0
  | d :: r => uptoBulk d + uptoBulkAll r
def uptoBulkEntries {H : Type} : List (Lit × DataW H) → Nat
  | [] => 0
  | x :: r => uptoBulkEntry x + uptoBulkEntries r
def uptoBulkEntry {H : Type} : Lit × DataW H → Nat
  | (.string bytes, d) => bytes.length + uptoBulk d + 1
  | (_, d) => uptoBulk d + 1
 end
def uptoSmall : (H : Type) → List (DataW H) → Bool := fun _ ds => decide (uptoBulkAll ds ≤ 1048576)
def OpenSpec.upto (s : _root_.Go.ChangeSpec) : _root_.Go.OpenSpec := { _root_.Go.OpenSpec.ofChange s with cond := some uptoSmall }

/-- 'laws.FnExactOrdNatural', WHERE WHAT IT READS IS OF BULK AT MOST 1048576: true; the input reads as it did. -/
def fnExactOrdNaturalUptoRow : OpenClaim := { program := "ytaleaagnkfbhpaa", sum := "cd2ed733287706351c59260b2679a4d50520673b7d2ee5059ae3f05e55e40a45", func := "loop.example/ordinalhydras/laws.FnExactOrdNatural", spec := "fnExactOrdNatural", recurses := true, apart := false, narrowed := true }
def FnExactOrdNaturalUptoSaid : Prop := fnExactOrdNaturalUptoRow.holds Try.pinned (OpenSpec.upto fnExactOrdNaturalSpec)

/-- 'laws.FnExactOrdTimes', WHERE WHAT IT READS IS OF BULK AT MOST 1048576: true; the input reads as it did. -/
def fnExactOrdTimesUptoRow : OpenClaim := { program := "ytaleaagnkfbhpaa", sum := "cd2ed733287706351c59260b2679a4d50520673b7d2ee5059ae3f05e55e40a45", func := "loop.example/ordinalhydras/laws.FnExactOrdTimes", spec := "fnExactOrdTimes", recurses := true, apart := false, narrowed := true }
def FnExactOrdTimesUptoSaid : Prop := fnExactOrdTimesUptoRow.holds Try.pinned (OpenSpec.upto fnExactOrdTimesSpec)

/-- 'laws.FnExactOrdMinus', WHERE WHAT IT READS IS OF BULK AT MOST 1048576: true; the input reads as it did. -/
def fnExactOrdMinusUptoRow : OpenClaim := { program := "ytaleaagnkfbhpaa", sum := "cd2ed733287706351c59260b2679a4d50520673b7d2ee5059ae3f05e55e40a45", func := "loop.example/ordinalhydras/laws.FnExactOrdMinus", spec := "fnExactOrdMinus", recurses := true, apart := false, narrowed := true }
def FnExactOrdMinusUptoSaid : Prop := fnExactOrdMinusUptoRow.holds Try.pinned (OpenSpec.upto fnExactOrdMinusSpec)

/-- 'laws.FnExactOrdDivide', WHERE WHAT IT READS IS OF BULK AT MOST 1048576: true; the input reads as it did. -/
def fnExactOrdDivideUptoRow : OpenClaim := { program := "ytaleaagnkfbhpaa", sum := "cd2ed733287706351c59260b2679a4d50520673b7d2ee5059ae3f05e55e40a45", func := "loop.example/ordinalhydras/laws.FnExactOrdDivide", spec := "fnExactOrdDivide", recurses := true, apart := false, narrowed := true }
def FnExactOrdDivideUptoSaid : Prop := fnExactOrdDivideUptoRow.holds Try.pinned (OpenSpec.upto fnExactOrdDivideSpec)

/-- 'laws.FnExactOrdRaise', WHERE WHAT IT READS IS OF BULK AT MOST 1048576: true; the input reads as it did. -/
def fnExactOrdRaiseUptoRow : OpenClaim := { program := "ytaleaagnkfbhpaa", sum := "cd2ed733287706351c59260b2679a4d50520673b7d2ee5059ae3f05e55e40a45", func := "loop.example/ordinalhydras/laws.FnExactOrdRaise", spec := "fnExactOrdRaise", recurses := true, apart := false, narrowed := true }
def FnExactOrdRaiseUptoSaid : Prop := fnExactOrdRaiseUptoRow.holds Try.pinned (OpenSpec.upto fnExactOrdRaiseSpec)

end Rows
end Go.Proofs.Ytaleaagnkfbhpaa
