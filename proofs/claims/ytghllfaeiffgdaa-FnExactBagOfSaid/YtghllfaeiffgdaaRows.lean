/-
  No cell of these rows narrows 'for every input' (looked for: loops, veiled, ifaces, maps, wideKeys, modest, calm, conditions, laid).
  DERIVED. THE GIVEN ROWS OF THIS SEAT. 10 by the template 'for every input the law returns true; each argument reads behind the call as it read before'; 0 by the template 'total and deterministic' (their statements: YtghllfaeiffgdaaTotals.lean).
  GIVEN WITH THE SEED: the statements are not yours to turn. If you find one false, say at which input.
  Laid BY PROGRAM, IN A SANDBOX (cutbox-rows.mjs): the forced cells as the released guide's own fill.sh prints them over the translation 081b869b8c6c9397… (all of the seat's roots in one cut). By AI agents, Wed Nov 11 2026. No macro, syntax, notation, axiom, sorry.
-/
import Derived.Test.YtghllfaeiffgdaaChecked
import GoSem.Claim
import GoSem.ClaimJoined
import GoSem.ClaimMapViews
import Derived.JoinedTies
import Derived.KernelRfl
namespace Go.Proofs.Ytghllfaeiffgdaa
/- THE CELL 'sum', in the pinned program and in every row, IS THE sha256 OF THE DUMP (.gsa) THAT YtghllfaeiffgdaaProg.lean LOADS. Nothing in Lean hashes anything: it is a label: what it is worth is what the hold of that sum in a sandbox is worth. -/
noncomputable def Try.pinned : Pinned := { name := "ytghllfaeiffgdaa", sum := "081b869b8c6c9397b769b58fa3ac55ae58ccd70427f7b80b34e4b2cc4538cf37", checked := Try.checked }
namespace Rows
def none {H : Type} : Left H := { results := [], args := [] }

/-- 'laws.FnExactBagValid': WHATEVER THE INPUT: true; the input reads as it did. -/
def fnExactBagValidSpec : ChangeSpec := { name := "fnExactBagValid", fn := fun _ => fun
  | [d] => { results := [.lit (.bool true)], args := [d] }
  | _ => none }
def fnExactBagValidRow : OpenClaim := { program := "ytghllfaeiffgdaa", sum := "081b869b8c6c9397b769b58fa3ac55ae58ccd70427f7b80b34e4b2cc4538cf37", func := "loop.example/ordinalhydras/laws.FnExactBagValid", spec := "fnExactBagValid", unfollowed := true, recurses := true, apart := false }
def FnExactBagValidSaid : Prop := fnExactBagValidRow.holds Try.pinned (OpenSpec.ofChange fnExactBagValidSpec)

/-- ITS FALSE NEIGHBOUR: 'it returns false'. Refute it at one input. -/
def fnExactBagValidWrong : ChangeSpec := { name := "fnExactBagValid", fn := fun _ => fun
  | [d] => { results := [.lit (.bool false)], args := [d] }
  | _ => none }
def FnExactBagValidWrongFalsely : Prop := fnExactBagValidRow.holds Try.pinned (OpenSpec.ofChange fnExactBagValidWrong)

/-- 'laws.FnExactBagOf': WHATEVER THE INPUT: true; the input reads as it did. -/
def fnExactBagOfSpec : ChangeSpec := { name := "fnExactBagOf", fn := fun _ => fun
  | [d] => { results := [.lit (.bool true)], args := [d] }
  | _ => none }
def fnExactBagOfRow : OpenClaim := { program := "ytghllfaeiffgdaa", sum := "081b869b8c6c9397b769b58fa3ac55ae58ccd70427f7b80b34e4b2cc4538cf37", func := "loop.example/ordinalhydras/laws.FnExactBagOf", spec := "fnExactBagOf", unfollowed := true, recurses := true, apart := false }
def FnExactBagOfSaid : Prop := fnExactBagOfRow.holds Try.pinned (OpenSpec.ofChange fnExactBagOfSpec)

/-- ITS FALSE NEIGHBOUR: 'it returns false'. Refute it at one input. -/
def fnExactBagOfWrong : ChangeSpec := { name := "fnExactBagOf", fn := fun _ => fun
  | [d] => { results := [.lit (.bool false)], args := [d] }
  | _ => none }
def FnExactBagOfWrongFalsely : Prop := fnExactBagOfRow.holds Try.pinned (OpenSpec.ofChange fnExactBagOfWrong)

/-- 'laws.FnExactBagCompare': WHATEVER THE INPUT: true; the input reads as it did. -/
def fnExactBagCompareSpec : ChangeSpec := { name := "fnExactBagCompare", fn := fun _ => fun
  | [d1, d2] => { results := [.lit (.bool true)], args := [d1, d2] }
  | _ => none }
def fnExactBagCompareRow : OpenClaim := { program := "ytghllfaeiffgdaa", sum := "081b869b8c6c9397b769b58fa3ac55ae58ccd70427f7b80b34e4b2cc4538cf37", func := "loop.example/ordinalhydras/laws.FnExactBagCompare", spec := "fnExactBagCompare", unfollowed := true, recurses := true, apart := false }
def FnExactBagCompareSaid : Prop := fnExactBagCompareRow.holds Try.pinned (OpenSpec.ofChange fnExactBagCompareSpec)

/-- ITS FALSE NEIGHBOUR: 'it returns false'. Refute it at one input. -/
def fnExactBagCompareWrong : ChangeSpec := { name := "fnExactBagCompare", fn := fun _ => fun
  | [d1, d2] => { results := [.lit (.bool false)], args := [d1, d2] }
  | _ => none }
def FnExactBagCompareWrongFalsely : Prop := fnExactBagCompareRow.holds Try.pinned (OpenSpec.ofChange fnExactBagCompareWrong)

/-- 'laws.FnExactBagBelow': WHATEVER THE INPUT: true; the input reads as it did. -/
def fnExactBagBelowSpec : ChangeSpec := { name := "fnExactBagBelow", fn := fun _ => fun
  | [d1, d2] => { results := [.lit (.bool true)], args := [d1, d2] }
  | _ => none }
def fnExactBagBelowRow : OpenClaim := { program := "ytghllfaeiffgdaa", sum := "081b869b8c6c9397b769b58fa3ac55ae58ccd70427f7b80b34e4b2cc4538cf37", func := "loop.example/ordinalhydras/laws.FnExactBagBelow", spec := "fnExactBagBelow", unfollowed := true, recurses := true, apart := false }
def FnExactBagBelowSaid : Prop := fnExactBagBelowRow.holds Try.pinned (OpenSpec.ofChange fnExactBagBelowSpec)

/-- ITS FALSE NEIGHBOUR: 'it returns false'. Refute it at one input. -/
def fnExactBagBelowWrong : ChangeSpec := { name := "fnExactBagBelow", fn := fun _ => fun
  | [d1, d2] => { results := [.lit (.bool false)], args := [d1, d2] }
  | _ => none }
def FnExactBagBelowWrongFalsely : Prop := fnExactBagBelowRow.holds Try.pinned (OpenSpec.ofChange fnExactBagBelowWrong)

/-- 'laws.FnExactBagOrd': WHATEVER THE INPUT: true; the input reads as it did. -/
def fnExactBagOrdSpec : ChangeSpec := { name := "fnExactBagOrd", fn := fun _ => fun
  | [d] => { results := [.lit (.bool true)], args := [d] }
  | _ => none }
def fnExactBagOrdRow : OpenClaim := { program := "ytghllfaeiffgdaa", sum := "081b869b8c6c9397b769b58fa3ac55ae58ccd70427f7b80b34e4b2cc4538cf37", func := "loop.example/ordinalhydras/laws.FnExactBagOrd", spec := "fnExactBagOrd", unfollowed := true, recurses := true, apart := false }
def FnExactBagOrdSaid : Prop := fnExactBagOrdRow.holds Try.pinned (OpenSpec.ofChange fnExactBagOrdSpec)

/-- ITS FALSE NEIGHBOUR: 'it returns false'. Refute it at one input. -/
def fnExactBagOrdWrong : ChangeSpec := { name := "fnExactBagOrd", fn := fun _ => fun
  | [d] => { results := [.lit (.bool false)], args := [d] }
  | _ => none }
def FnExactBagOrdWrongFalsely : Prop := fnExactBagOrdRow.holds Try.pinned (OpenSpec.ofChange fnExactBagOrdWrong)

/-- 'laws.FnExactBagPut': WHATEVER THE INPUT: true; the input reads as it did. -/
def fnExactBagPutSpec : ChangeSpec := { name := "fnExactBagPut", fn := fun _ => fun
  | [d1, d2, d3] => { results := [.lit (.bool true)], args := [d1, d2, d3] }
  | _ => none }
def fnExactBagPutRow : OpenClaim := { program := "ytghllfaeiffgdaa", sum := "081b869b8c6c9397b769b58fa3ac55ae58ccd70427f7b80b34e4b2cc4538cf37", func := "loop.example/ordinalhydras/laws.FnExactBagPut", spec := "fnExactBagPut", unfollowed := true, recurses := true, apart := false }
def FnExactBagPutSaid : Prop := fnExactBagPutRow.holds Try.pinned (OpenSpec.ofChange fnExactBagPutSpec)

/-- ITS FALSE NEIGHBOUR: 'it returns false'. Refute it at one input. -/
def fnExactBagPutWrong : ChangeSpec := { name := "fnExactBagPut", fn := fun _ => fun
  | [d1, d2, d3] => { results := [.lit (.bool false)], args := [d1, d2, d3] }
  | _ => none }
def FnExactBagPutWrongFalsely : Prop := fnExactBagPutRow.holds Try.pinned (OpenSpec.ofChange fnExactBagPutWrong)

/-- 'laws.FnExactOrdCompare': WHATEVER THE INPUT: true; the input reads as it did. -/
def fnExactOrdCompareSpec : ChangeSpec := { name := "fnExactOrdCompare", fn := fun _ => fun
  | [d1, d2] => { results := [.lit (.bool true)], args := [d1, d2] }
  | _ => none }
def fnExactOrdCompareRow : OpenClaim := { program := "ytghllfaeiffgdaa", sum := "081b869b8c6c9397b769b58fa3ac55ae58ccd70427f7b80b34e4b2cc4538cf37", func := "loop.example/ordinalhydras/laws.FnExactOrdCompare", spec := "fnExactOrdCompare", recurses := true, apart := false }
def FnExactOrdCompareSaid : Prop := fnExactOrdCompareRow.holds Try.pinned (OpenSpec.ofChange fnExactOrdCompareSpec)

/-- ITS FALSE NEIGHBOUR: 'it returns false'. Refute it at one input. -/
def fnExactOrdCompareWrong : ChangeSpec := { name := "fnExactOrdCompare", fn := fun _ => fun
  | [d1, d2] => { results := [.lit (.bool false)], args := [d1, d2] }
  | _ => none }
def FnExactOrdCompareWrongFalsely : Prop := fnExactOrdCompareRow.holds Try.pinned (OpenSpec.ofChange fnExactOrdCompareWrong)

/-- 'laws.FnExactOrdNext': WHATEVER THE INPUT: true; the input reads as it did. -/
def fnExactOrdNextSpec : ChangeSpec := { name := "fnExactOrdNext", fn := fun _ => fun
  | [d] => { results := [.lit (.bool true)], args := [d] }
  | _ => none }
def fnExactOrdNextRow : OpenClaim := { program := "ytghllfaeiffgdaa", sum := "081b869b8c6c9397b769b58fa3ac55ae58ccd70427f7b80b34e4b2cc4538cf37", func := "loop.example/ordinalhydras/laws.FnExactOrdNext", spec := "fnExactOrdNext", recurses := true, apart := false }
def FnExactOrdNextSaid : Prop := fnExactOrdNextRow.holds Try.pinned (OpenSpec.ofChange fnExactOrdNextSpec)

/-- ITS FALSE NEIGHBOUR: 'it returns false'. Refute it at one input. -/
def fnExactOrdNextWrong : ChangeSpec := { name := "fnExactOrdNext", fn := fun _ => fun
  | [d] => { results := [.lit (.bool false)], args := [d] }
  | _ => none }
def FnExactOrdNextWrongFalsely : Prop := fnExactOrdNextRow.holds Try.pinned (OpenSpec.ofChange fnExactOrdNextWrong)

/-- 'laws.FnExactOrdBefore': WHATEVER THE INPUT: true; the input reads as it did. -/
def fnExactOrdBeforeSpec : ChangeSpec := { name := "fnExactOrdBefore", fn := fun _ => fun
  | [d] => { results := [.lit (.bool true)], args := [d] }
  | _ => none }
def fnExactOrdBeforeRow : OpenClaim := { program := "ytghllfaeiffgdaa", sum := "081b869b8c6c9397b769b58fa3ac55ae58ccd70427f7b80b34e4b2cc4538cf37", func := "loop.example/ordinalhydras/laws.FnExactOrdBefore", spec := "fnExactOrdBefore", recurses := true, apart := false }
def FnExactOrdBeforeSaid : Prop := fnExactOrdBeforeRow.holds Try.pinned (OpenSpec.ofChange fnExactOrdBeforeSpec)

/-- ITS FALSE NEIGHBOUR: 'it returns false'. Refute it at one input. -/
def fnExactOrdBeforeWrong : ChangeSpec := { name := "fnExactOrdBefore", fn := fun _ => fun
  | [d] => { results := [.lit (.bool false)], args := [d] }
  | _ => none }
def FnExactOrdBeforeWrongFalsely : Prop := fnExactOrdBeforeRow.holds Try.pinned (OpenSpec.ofChange fnExactOrdBeforeWrong)

/-- 'laws.FnExactOrdAdd': WHATEVER THE INPUT: true; the input reads as it did. -/
def fnExactOrdAddSpec : ChangeSpec := { name := "fnExactOrdAdd", fn := fun _ => fun
  | [d1, d2] => { results := [.lit (.bool true)], args := [d1, d2] }
  | _ => none }
def fnExactOrdAddRow : OpenClaim := { program := "ytghllfaeiffgdaa", sum := "081b869b8c6c9397b769b58fa3ac55ae58ccd70427f7b80b34e4b2cc4538cf37", func := "loop.example/ordinalhydras/laws.FnExactOrdAdd", spec := "fnExactOrdAdd", recurses := true, apart := false }
def FnExactOrdAddSaid : Prop := fnExactOrdAddRow.holds Try.pinned (OpenSpec.ofChange fnExactOrdAddSpec)

/-- ITS FALSE NEIGHBOUR: 'it returns false'. Refute it at one input. -/
def fnExactOrdAddWrong : ChangeSpec := { name := "fnExactOrdAdd", fn := fun _ => fun
  | [d1, d2] => { results := [.lit (.bool false)], args := [d1, d2] }
  | _ => none }
def FnExactOrdAddWrongFalsely : Prop := fnExactOrdAddRow.holds Try.pinned (OpenSpec.ofChange fnExactOrdAddWrong)

/- THE SECOND FORM. 'bulk': how many values and letters a reading holds, each counted each time it is reached (what is shared counts as often as it is met; a slice's spare places count too). A statement '..UptoSaid' is the law's where the arguments, and the package variables that the reading takes, are together of bulk at most 1048576: NARROWER than '..Said'. Prove '..Said' where nothing that the law and all that it calls make is longer than what came in: it says more and counts as full. Else prove '..UptoSaid'. A law counts once. -/
mutual
def uptoBulk {H : Type} : DataW H → Nat
  | .lit (.string bytes) => bytes.length + 1
  | .lit _ => 1
  | .nil => 1
  | .ptr d => uptoBulk d + 1
  | .slice elems spare => uptoBulkAll elems + uptoBulkAll spare + 1
  | .agg parts => uptoBulkAll parts + 1
  | .iface _ d => uptoBulk d + 1
  | .map entries => uptoBulkEntries entries + 1
  | .held _ => 1
def uptoBulkAll {H : Type} : List (DataW H) → Nat
  | [] => 0
  | d :: r => uptoBulk d + uptoBulkAll r
def uptoBulkEntries {H : Type} : List (Lit × DataW H) → Nat
  | [] => 0
  | x :: r => uptoBulkEntry x + uptoBulkEntries r
def uptoBulkEntry {H : Type} : Lit × DataW H → Nat
  | (.string bytes, d) => bytes.length + uptoBulk d + 1
  | (_, d) => uptoBulk d + 1
 end
def uptoSmall : (H : Type) → List (DataW H) → Bool := fun _ ds => decide (uptoBulkAll ds ≤ 1048576)
def OpenSpec.upto (s : _root_.Go.ChangeSpec) : _root_.Go.OpenSpec := { _root_.Go.OpenSpec.ofChange s with cond := some uptoSmall }

/-- 'laws.FnExactBagValid', WHERE WHAT IT READS IS OF BULK AT MOST 1048576: true; the input reads as it did. -/
def fnExactBagValidUptoRow : OpenClaim := { program := "ytghllfaeiffgdaa", sum := "081b869b8c6c9397b769b58fa3ac55ae58ccd70427f7b80b34e4b2cc4538cf37", func := "loop.example/ordinalhydras/laws.FnExactBagValid", spec := "fnExactBagValid", unfollowed := true, recurses := true, apart := false, narrowed := true }
def FnExactBagValidUptoSaid : Prop := fnExactBagValidUptoRow.holds Try.pinned (OpenSpec.upto fnExactBagValidSpec)

/-- 'laws.FnExactBagOf', WHERE WHAT IT READS IS OF BULK AT MOST 1048576: true; the input reads as it did. -/
def fnExactBagOfUptoRow : OpenClaim := { program := "ytghllfaeiffgdaa", sum := "081b869b8c6c9397b769b58fa3ac55ae58ccd70427f7b80b34e4b2cc4538cf37", func := "loop.example/ordinalhydras/laws.FnExactBagOf", spec := "fnExactBagOf", unfollowed := true, recurses := true, apart := false, narrowed := true }
def FnExactBagOfUptoSaid : Prop := fnExactBagOfUptoRow.holds Try.pinned (OpenSpec.upto fnExactBagOfSpec)

/-- 'laws.FnExactBagCompare', WHERE WHAT IT READS IS OF BULK AT MOST 1048576: true; the input reads as it did. -/
def fnExactBagCompareUptoRow : OpenClaim := { program := "ytghllfaeiffgdaa", sum := "081b869b8c6c9397b769b58fa3ac55ae58ccd70427f7b80b34e4b2cc4538cf37", func := "loop.example/ordinalhydras/laws.FnExactBagCompare", spec := "fnExactBagCompare", unfollowed := true, recurses := true, apart := false, narrowed := true }
def FnExactBagCompareUptoSaid : Prop := fnExactBagCompareUptoRow.holds Try.pinned (OpenSpec.upto fnExactBagCompareSpec)

/-- 'laws.FnExactBagBelow', WHERE WHAT IT READS IS OF BULK AT MOST 1048576: true; the input reads as it did. -/
def fnExactBagBelowUptoRow : OpenClaim := { program := "ytghllfaeiffgdaa", sum := "081b869b8c6c9397b769b58fa3ac55ae58ccd70427f7b80b34e4b2cc4538cf37", func := "loop.example/ordinalhydras/laws.FnExactBagBelow", spec := "fnExactBagBelow", unfollowed := true, recurses := true, apart := false, narrowed := true }
def FnExactBagBelowUptoSaid : Prop := fnExactBagBelowUptoRow.holds Try.pinned (OpenSpec.upto fnExactBagBelowSpec)

/-- 'laws.FnExactBagOrd', WHERE WHAT IT READS IS OF BULK AT MOST 1048576: true; the input reads as it did. -/
def fnExactBagOrdUptoRow : OpenClaim := { program := "ytghllfaeiffgdaa", sum := "081b869b8c6c9397b769b58fa3ac55ae58ccd70427f7b80b34e4b2cc4538cf37", func := "loop.example/ordinalhydras/laws.FnExactBagOrd", spec := "fnExactBagOrd", unfollowed := true, recurses := true, apart := false, narrowed := true }
def FnExactBagOrdUptoSaid : Prop := fnExactBagOrdUptoRow.holds Try.pinned (OpenSpec.upto fnExactBagOrdSpec)

/-- 'laws.FnExactBagPut', WHERE WHAT IT READS IS OF BULK AT MOST 1048576: true; the input reads as it did. -/
def fnExactBagPutUptoRow : OpenClaim := { program := "ytghllfaeiffgdaa", sum := "081b869b8c6c9397b769b58fa3ac55ae58ccd70427f7b80b34e4b2cc4538cf37", func := "loop.example/ordinalhydras/laws.FnExactBagPut", spec := "fnExactBagPut", unfollowed := true, recurses := true, apart := false, narrowed := true }
def FnExactBagPutUptoSaid : Prop := fnExactBagPutUptoRow.holds Try.pinned (OpenSpec.upto fnExactBagPutSpec)

/-- 'laws.FnExactOrdCompare', WHERE WHAT IT READS IS OF BULK AT MOST 1048576: true; the input reads as it did. -/
def fnExactOrdCompareUptoRow : OpenClaim := { program := "ytghllfaeiffgdaa", sum := "081b869b8c6c9397b769b58fa3ac55ae58ccd70427f7b80b34e4b2cc4538cf37", func := "loop.example/ordinalhydras/laws.FnExactOrdCompare", spec := "fnExactOrdCompare", recurses := true, apart := false, narrowed := true }
def FnExactOrdCompareUptoSaid : Prop := fnExactOrdCompareUptoRow.holds Try.pinned (OpenSpec.upto fnExactOrdCompareSpec)

/-- 'laws.FnExactOrdNext', WHERE WHAT IT READS IS OF BULK AT MOST 1048576: true; the input reads as it did. -/
def fnExactOrdNextUptoRow : OpenClaim := { program := "ytghllfaeiffgdaa", sum := "081b869b8c6c9397b769b58fa3ac55ae58ccd70427f7b80b34e4b2cc4538cf37", func := "loop.example/ordinalhydras/laws.FnExactOrdNext", spec := "fnExactOrdNext", recurses := true, apart := false, narrowed := true }
def FnExactOrdNextUptoSaid : Prop := fnExactOrdNextUptoRow.holds Try.pinned (OpenSpec.upto fnExactOrdNextSpec)

/-- 'laws.FnExactOrdBefore', WHERE WHAT IT READS IS OF BULK AT MOST 1048576: true; the input reads as it did. -/
def fnExactOrdBeforeUptoRow : OpenClaim := { program := "ytghllfaeiffgdaa", sum := "081b869b8c6c9397b769b58fa3ac55ae58ccd70427f7b80b34e4b2cc4538cf37", func := "loop.example/ordinalhydras/laws.FnExactOrdBefore", spec := "fnExactOrdBefore", recurses := true, apart := false, narrowed := true }
def FnExactOrdBeforeUptoSaid : Prop := fnExactOrdBeforeUptoRow.holds Try.pinned (OpenSpec.upto fnExactOrdBeforeSpec)

/-- 'laws.FnExactOrdAdd', WHERE WHAT IT READS IS OF BULK AT MOST 1048576: true; the input reads as it did. -/
def fnExactOrdAddUptoRow : OpenClaim := { program := "ytghllfaeiffgdaa", sum := "081b869b8c6c9397b769b58fa3ac55ae58ccd70427f7b80b34e4b2cc4538cf37", func := "loop.example/ordinalhydras/laws.FnExactOrdAdd", spec := "fnExactOrdAdd", recurses := true, apart := false, narrowed := true }
def FnExactOrdAddUptoSaid : Prop := fnExactOrdAddUptoRow.holds Try.pinned (OpenSpec.upto fnExactOrdAddSpec)

end Rows
end Go.Proofs.Ytghllfaeiffgdaa
