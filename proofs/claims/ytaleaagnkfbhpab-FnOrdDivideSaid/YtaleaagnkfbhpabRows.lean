/-
  No cell of these rows narrows 'for every input' (looked for: loops, veiled, ifaces, maps, wideKeys, modest, calm, conditions, laid).
  DERIVED. THE GIVEN ROWS OF THIS SEAT. 5 by the template 'for every input the law returns true; each argument reads behind the call as it read before'; 0 by the template 'total and deterministic' (their statements: YtaleaagnkfbhpabTotals.lean).
  GIVEN WITH THE SEED: the statements are not yours to turn. If you find one false, say at which input.
  Laid BY PROGRAM, IN A SANDBOX (cutbox-rows.mjs): the forced cells as the released guide's own fill.sh prints them over the translation 693cb125ab9d5e5c… (all of the seat's roots in one cut). By AI agents, Wed Nov 11 2026. No macro, syntax, notation, axiom, sorry.
-/
import Derived.Test.YtaleaagnkfbhpabChecked
import GoSem.Claim
import GoSem.ClaimJoined
import GoSem.ClaimMapViews
import Derived.JoinedTies
import Derived.KernelRfl
namespace Go.Proofs.Ytaleaagnkfbhpab
/- THE CELL 'sum', in the pinned program and in every row, IS THE sha256 OF THE DUMP (.gsa) THAT YtaleaagnkfbhpabProg.lean LOADS. Nothing in Lean hashes anything: it is a label: what it is worth is what the hold of that sum in a sandbox is worth. -/
noncomputable def Try.pinned : Pinned := { name := "ytaleaagnkfbhpab", sum := "693cb125ab9d5e5ced958a0d69dfa7a0cf0164dcd17a5612afed16cbdc98b24a", checked := Try.checked }
namespace Rows
def none {H : Type} : Left H := { results := [], args := [] }

/-- 'laws.FnOrdNatural': WHATEVER THE INPUT: true; the input reads as it did. -/
def fnOrdNaturalSpec : ChangeSpec := { name := "fnOrdNatural", fn := fun _ => fun
  | [d1, d2] => { results := [.lit (.bool true)], args := [d1, d2] }
  | _ => none }
def fnOrdNaturalRow : OpenClaim := { program := "ytaleaagnkfbhpab", sum := "693cb125ab9d5e5ced958a0d69dfa7a0cf0164dcd17a5612afed16cbdc98b24a", func := "loop.example/ordinalhydras/laws.FnOrdNatural", spec := "fnOrdNatural", recurses := true, apart := false }
def FnOrdNaturalSaid : Prop := fnOrdNaturalRow.holds Try.pinned (OpenSpec.ofChange fnOrdNaturalSpec)

/-- ITS FALSE NEIGHBOUR: 'it returns false'. Refute it at one input. -/
def fnOrdNaturalWrong : ChangeSpec := { name := "fnOrdNatural", fn := fun _ => fun
  | [d1, d2] => { results := [.lit (.bool false)], args := [d1, d2] }
  | _ => none }
def FnOrdNaturalWrongFalsely : Prop := fnOrdNaturalRow.holds Try.pinned (OpenSpec.ofChange fnOrdNaturalWrong)

/-- 'laws.FnOrdTimes': WHATEVER THE INPUT: true; the input reads as it did. -/
def fnOrdTimesSpec : ChangeSpec := { name := "fnOrdTimes", fn := fun _ => fun
  | [d1, d2] => { results := [.lit (.bool true)], args := [d1, d2] }
  | _ => none }
def fnOrdTimesRow : OpenClaim := { program := "ytaleaagnkfbhpab", sum := "693cb125ab9d5e5ced958a0d69dfa7a0cf0164dcd17a5612afed16cbdc98b24a", func := "loop.example/ordinalhydras/laws.FnOrdTimes", spec := "fnOrdTimes", recurses := true, apart := false }
def FnOrdTimesSaid : Prop := fnOrdTimesRow.holds Try.pinned (OpenSpec.ofChange fnOrdTimesSpec)

/-- ITS FALSE NEIGHBOUR: 'it returns false'. Refute it at one input. -/
def fnOrdTimesWrong : ChangeSpec := { name := "fnOrdTimes", fn := fun _ => fun
  | [d1, d2] => { results := [.lit (.bool false)], args := [d1, d2] }
  | _ => none }
def FnOrdTimesWrongFalsely : Prop := fnOrdTimesRow.holds Try.pinned (OpenSpec.ofChange fnOrdTimesWrong)

/-- 'laws.FnOrdMinus': WHATEVER THE INPUT: true; the input reads as it did. -/
def fnOrdMinusSpec : ChangeSpec := { name := "fnOrdMinus", fn := fun _ => fun
  | [d] => { results := [.lit (.bool true)], args := [d] }
  | _ => none }
def fnOrdMinusRow : OpenClaim := { program := "ytaleaagnkfbhpab", sum := "693cb125ab9d5e5ced958a0d69dfa7a0cf0164dcd17a5612afed16cbdc98b24a", func := "loop.example/ordinalhydras/laws.FnOrdMinus", spec := "fnOrdMinus", recurses := true, apart := false }
def FnOrdMinusSaid : Prop := fnOrdMinusRow.holds Try.pinned (OpenSpec.ofChange fnOrdMinusSpec)

/-- ITS FALSE NEIGHBOUR: 'it returns false'. Refute it at one input. -/
def fnOrdMinusWrong : ChangeSpec := { name := "fnOrdMinus", fn := fun _ => fun
  | [d] => { results := [.lit (.bool false)], args := [d] }
  | _ => none }
def FnOrdMinusWrongFalsely : Prop := fnOrdMinusRow.holds Try.pinned (OpenSpec.ofChange fnOrdMinusWrong)

/-- 'laws.FnOrdDivide': WHATEVER THE INPUT: true; the input reads as it did. -/
def fnOrdDivideSpec : ChangeSpec := { name := "fnOrdDivide", fn := fun _ => fun
  | [d] => { results := [.lit (.bool true)], args := [d] }
  | _ => none }
def fnOrdDivideRow : OpenClaim := { program := "ytaleaagnkfbhpab", sum := "693cb125ab9d5e5ced958a0d69dfa7a0cf0164dcd17a5612afed16cbdc98b24a", func := "loop.example/ordinalhydras/laws.FnOrdDivide", spec := "fnOrdDivide", recurses := true, apart := false }
def FnOrdDivideSaid : Prop := fnOrdDivideRow.holds Try.pinned (OpenSpec.ofChange fnOrdDivideSpec)

/-- ITS FALSE NEIGHBOUR: 'it returns false'. Refute it at one input. -/
def fnOrdDivideWrong : ChangeSpec := { name := "fnOrdDivide", fn := fun _ => fun
  | [d] => { results := [.lit (.bool false)], args := [d] }
  | _ => none }
def FnOrdDivideWrongFalsely : Prop := fnOrdDivideRow.holds Try.pinned (OpenSpec.ofChange fnOrdDivideWrong)

/-- 'laws.FnOrdRaise': WHATEVER THE INPUT: true; the input reads as it did. -/
def fnOrdRaiseSpec : ChangeSpec := { name := "fnOrdRaise", fn := fun _ => fun
  | [d] => { results := [.lit (.bool true)], args := [d] }
  | _ => none }
def fnOrdRaiseRow : OpenClaim := { program := "ytaleaagnkfbhpab", sum := "693cb125ab9d5e5ced958a0d69dfa7a0cf0164dcd17a5612afed16cbdc98b24a", func := "loop.example/ordinalhydras/laws.FnOrdRaise", spec := "fnOrdRaise", recurses := true, apart := false }
def FnOrdRaiseSaid : Prop := fnOrdRaiseRow.holds Try.pinned (OpenSpec.ofChange fnOrdRaiseSpec)

/-- ITS FALSE NEIGHBOUR: 'it returns false'. Refute it at one input. -/
def fnOrdRaiseWrong : ChangeSpec := { name := "fnOrdRaise", fn := fun _ => fun
  | [d] => { results := [.lit (.bool false)], args := [d] }
  | _ => none }
def FnOrdRaiseWrongFalsely : Prop := fnOrdRaiseRow.holds Try.pinned (OpenSpec.ofChange fnOrdRaiseWrong)

/- THE SECOND FORM. 'bulk': how many values and letters a reading holds, each counted each time it is reached (what is shared counts as often as it is met; a slice's spare places count too). A statement '..UptoSaid' is the law's where the arguments, and the package variables that the reading takes, are together of bulk at most 1048576: NARROWER than '..Said'. Prove '..Said' where nothing that the law and all that it calls make is longer than what came in: it says more and counts as full. Else prove '..UptoSaid'. A law counts once. -/
mutual
def uptoBulk {H : Type} : DataW H → Nat
  | .lit (.string bytes) => bytes.length + 1
  | .lit _ => 1
  | .nil => 1
  | .ptr d => uptoBulk d + 1
  | .slice elems spare => uptoBulkAll elems + uptoBulkAll spare + 1
  | .agg parts => uptoBulkAll parts + 1
  | .iface _ d => uptoBulk d + 1
  | .map entries => uptoBulkEntries entries + 1
  | .held _ => 1
def uptoBulkAll {H : Type} : List (DataW H) → Nat
  | [] => 0
  | d :: r => uptoBulk d + uptoBulkAll r
def uptoBulkEntries {H : Type} : List (Lit × DataW H) → Nat
  | [] => 0
  | x :: r => uptoBulkEntry x + uptoBulkEntries r
def uptoBulkEntry {H : Type} : Lit × DataW H → Nat
  | (.string bytes, d) => bytes.length + uptoBulk d + 1
  | (_, d) => uptoBulk d + 1
 end
def uptoSmall : (H : Type) → List (DataW H) → Bool := fun _ ds => decide (uptoBulkAll ds ≤ 1048576)
def OpenSpec.upto (s : _root_.Go.ChangeSpec) : _root_.Go.OpenSpec := { _root_.Go.OpenSpec.ofChange s with cond := some uptoSmall }

/-- 'laws.FnOrdNatural', WHERE WHAT IT READS IS OF BULK AT MOST 1048576: true; the input reads as it did. -/
def fnOrdNaturalUptoRow : OpenClaim := { program := "ytaleaagnkfbhpab", sum := "693cb125ab9d5e5ced958a0d69dfa7a0cf0164dcd17a5612afed16cbdc98b24a", func := "loop.example/ordinalhydras/laws.FnOrdNatural", spec := "fnOrdNatural", recurses := true, apart := false, narrowed := true }
def FnOrdNaturalUptoSaid : Prop := fnOrdNaturalUptoRow.holds Try.pinned (OpenSpec.upto fnOrdNaturalSpec)

/-- 'laws.FnOrdTimes', WHERE WHAT IT READS IS OF BULK AT MOST 1048576: true; the input reads as it did. -/
def fnOrdTimesUptoRow : OpenClaim := { program := "ytaleaagnkfbhpab", sum := "693cb125ab9d5e5ced958a0d69dfa7a0cf0164dcd17a5612afed16cbdc98b24a", func := "loop.example/ordinalhydras/laws.FnOrdTimes", spec := "fnOrdTimes", recurses := true, apart := false, narrowed := true }
def FnOrdTimesUptoSaid : Prop := fnOrdTimesUptoRow.holds Try.pinned (OpenSpec.upto fnOrdTimesSpec)

/-- 'laws.FnOrdMinus', WHERE WHAT IT READS IS OF BULK AT MOST 1048576: true; the input reads as it did. -/
def fnOrdMinusUptoRow : OpenClaim := { program := "ytaleaagnkfbhpab", sum := "693cb125ab9d5e5ced958a0d69dfa7a0cf0164dcd17a5612afed16cbdc98b24a", func := "loop.example/ordinalhydras/laws.FnOrdMinus", spec := "fnOrdMinus", recurses := true, apart := false, narrowed := true }
def FnOrdMinusUptoSaid : Prop := fnOrdMinusUptoRow.holds Try.pinned (OpenSpec.upto fnOrdMinusSpec)

/-- 'laws.FnOrdDivide', WHERE WHAT IT READS IS OF BULK AT MOST 1048576: true; the input reads as it did. -/
def fnOrdDivideUptoRow : OpenClaim := { program := "ytaleaagnkfbhpab", sum := "693cb125ab9d5e5ced958a0d69dfa7a0cf0164dcd17a5612afed16cbdc98b24a", func := "loop.example/ordinalhydras/laws.FnOrdDivide", spec := "fnOrdDivide", recurses := true, apart := false, narrowed := true }
def FnOrdDivideUptoSaid : Prop := fnOrdDivideUptoRow.holds Try.pinned (OpenSpec.upto fnOrdDivideSpec)

/-- 'laws.FnOrdRaise', WHERE WHAT IT READS IS OF BULK AT MOST 1048576: true; the input reads as it did. -/
def fnOrdRaiseUptoRow : OpenClaim := { program := "ytaleaagnkfbhpab", sum := "693cb125ab9d5e5ced958a0d69dfa7a0cf0164dcd17a5612afed16cbdc98b24a", func := "loop.example/ordinalhydras/laws.FnOrdRaise", spec := "fnOrdRaise", recurses := true, apart := false, narrowed := true }
def FnOrdRaiseUptoSaid : Prop := fnOrdRaiseUptoRow.holds Try.pinned (OpenSpec.upto fnOrdRaiseSpec)

end Rows
end Go.Proofs.Ytaleaagnkfbhpab
