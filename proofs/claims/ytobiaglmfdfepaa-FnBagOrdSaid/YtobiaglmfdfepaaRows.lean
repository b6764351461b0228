/-
  No cell of these rows narrows 'for every input' (looked for: loops, veiled, ifaces, maps, wideKeys, modest, calm, conditions, laid).
  DERIVED. THE GIVEN ROWS OF THIS SEAT. 10 by the template 'for every input the law returns true; each argument reads behind the call as it read before'; 0 by the template 'total and deterministic' (their statements: YtobiaglmfdfepaaTotals.lean).
  GIVEN WITH THE SEED: the statements are not yours to turn. If you find one false, say at which input.
  Laid BY PROGRAM, IN A SANDBOX (cutbox-rows.mjs): the forced cells as the released guide's own fill.sh prints them over the translation 78f652f77da86ef3… (all of the seat's roots in one cut). By AI agents, Wed Nov 11 2026. No macro, syntax, notation, axiom, sorry.
-/
import Derived.Test.YtobiaglmfdfepaaChecked
import GoSem.Claim
import GoSem.ClaimJoined
import GoSem.ClaimMapViews
import Derived.JoinedTies
import Derived.KernelRfl
namespace Go.Proofs.Ytobiaglmfdfepaa
/- THE CELL 'sum', in the pinned program and in every row, IS THE sha256 OF THE DUMP (.gsa) THAT YtobiaglmfdfepaaProg.lean LOADS. Nothing in Lean hashes anything: it is a label: what it is worth is what the hold of that sum in a sandbox is worth. -/
noncomputable def Try.pinned : Pinned := { name := "ytobiaglmfdfepaa", sum := "78f652f77da86ef374c014b9842c86f6b53f5ef3ce96bf0bf447d133a61c3886", checked := Try.checked }
namespace Rows
def none {H : Type} : Left H := { results := [], args := [] }

/-- 'laws.FnBagValid': WHATEVER THE INPUT: true; the input reads as it did. -/
def fnBagValidSpec : ChangeSpec := { name := "fnBagValid", fn := fun _ => fun
  | [d] => { results := [.lit (.bool true)], args := [d] }
  | _ => none }
def fnBagValidRow : OpenClaim := { program := "ytobiaglmfdfepaa", sum := "78f652f77da86ef374c014b9842c86f6b53f5ef3ce96bf0bf447d133a61c3886", func := "loop.example/ordinalhydras/laws.FnBagValid", spec := "fnBagValid", unfollowed := true, recurses := true, apart := false }
def FnBagValidSaid : Prop := fnBagValidRow.holds Try.pinned (OpenSpec.ofChange fnBagValidSpec)

/-- ITS FALSE NEIGHBOUR: 'it returns false'. Refute it at one input. -/
def fnBagValidWrong : ChangeSpec := { name := "fnBagValid", fn := fun _ => fun
  | [d] => { results := [.lit (.bool false)], args := [d] }
  | _ => none }
def FnBagValidWrongFalsely : Prop := fnBagValidRow.holds Try.pinned (OpenSpec.ofChange fnBagValidWrong)

/-- 'laws.FnBagOf': WHATEVER THE INPUT: true; the input reads as it did. -/
def fnBagOfSpec : ChangeSpec := { name := "fnBagOf", fn := fun _ => fun
  | [d] => { results := [.lit (.bool true)], args := [d] }
  | _ => none }
def fnBagOfRow : OpenClaim := { program := "ytobiaglmfdfepaa", sum := "78f652f77da86ef374c014b9842c86f6b53f5ef3ce96bf0bf447d133a61c3886", func := "loop.example/ordinalhydras/laws.FnBagOf", spec := "fnBagOf", unfollowed := true, recurses := true, apart := false }
def FnBagOfSaid : Prop := fnBagOfRow.holds Try.pinned (OpenSpec.ofChange fnBagOfSpec)

/-- ITS FALSE NEIGHBOUR: 'it returns false'. Refute it at one input. -/
def fnBagOfWrong : ChangeSpec := { name := "fnBagOf", fn := fun _ => fun
  | [d] => { results := [.lit (.bool false)], args := [d] }
  | _ => none }
def FnBagOfWrongFalsely : Prop := fnBagOfRow.holds Try.pinned (OpenSpec.ofChange fnBagOfWrong)

/-- 'laws.FnBagCompare': WHATEVER THE INPUT: true; the input reads as it did. -/
def fnBagCompareSpec : ChangeSpec := { name := "fnBagCompare", fn := fun _ => fun
  | [d] => { results := [.lit (.bool true)], args := [d] }
  | _ => none }
def fnBagCompareRow : OpenClaim := { program := "ytobiaglmfdfepaa", sum := "78f652f77da86ef374c014b9842c86f6b53f5ef3ce96bf0bf447d133a61c3886", func := "loop.example/ordinalhydras/laws.FnBagCompare", spec := "fnBagCompare", unfollowed := true, recurses := true, apart := false }
def FnBagCompareSaid : Prop := fnBagCompareRow.holds Try.pinned (OpenSpec.ofChange fnBagCompareSpec)

/-- ITS FALSE NEIGHBOUR: 'it returns false'. Refute it at one input. -/
def fnBagCompareWrong : ChangeSpec := { name := "fnBagCompare", fn := fun _ => fun
  | [d] => { results := [.lit (.bool false)], args := [d] }
  | _ => none }
def FnBagCompareWrongFalsely : Prop := fnBagCompareRow.holds Try.pinned (OpenSpec.ofChange fnBagCompareWrong)

/-- 'laws.FnBagBelow': WHATEVER THE INPUT: true; the input reads as it did. -/
def fnBagBelowSpec : ChangeSpec := { name := "fnBagBelow", fn := fun _ => fun
  | [d] => { results := [.lit (.bool true)], args := [d] }
  | _ => none }
def fnBagBelowRow : OpenClaim := { program := "ytobiaglmfdfepaa", sum := "78f652f77da86ef374c014b9842c86f6b53f5ef3ce96bf0bf447d133a61c3886", func := "loop.example/ordinalhydras/laws.FnBagBelow", spec := "fnBagBelow", unfollowed := true, recurses := true, apart := false }
def FnBagBelowSaid : Prop := fnBagBelowRow.holds Try.pinned (OpenSpec.ofChange fnBagBelowSpec)

/-- ITS FALSE NEIGHBOUR: 'it returns false'. Refute it at one input. -/
def fnBagBelowWrong : ChangeSpec := { name := "fnBagBelow", fn := fun _ => fun
  | [d] => { results := [.lit (.bool false)], args := [d] }
  | _ => none }
def FnBagBelowWrongFalsely : Prop := fnBagBelowRow.holds Try.pinned (OpenSpec.ofChange fnBagBelowWrong)

/-- 'laws.FnBagOrd': WHATEVER THE INPUT: true; the input reads as it did. -/
def fnBagOrdSpec : ChangeSpec := { name := "fnBagOrd", fn := fun _ => fun
  | [d] => { results := [.lit (.bool true)], args := [d] }
  | _ => none }
def fnBagOrdRow : OpenClaim := { program := "ytobiaglmfdfepaa", sum := "78f652f77da86ef374c014b9842c86f6b53f5ef3ce96bf0bf447d133a61c3886", func := "loop.example/ordinalhydras/laws.FnBagOrd", spec := "fnBagOrd", unfollowed := true, recurses := true, apart := false }
def FnBagOrdSaid : Prop := fnBagOrdRow.holds Try.pinned (OpenSpec.ofChange fnBagOrdSpec)

/-- ITS FALSE NEIGHBOUR: 'it returns false'. Refute it at one input. -/
def fnBagOrdWrong : ChangeSpec := { name := "fnBagOrd", fn := fun _ => fun
  | [d] => { results := [.lit (.bool false)], args := [d] }
  | _ => none }
def FnBagOrdWrongFalsely : Prop := fnBagOrdRow.holds Try.pinned (OpenSpec.ofChange fnBagOrdWrong)

/-- 'laws.FnBagPut': WHATEVER THE INPUT: true; the input reads as it did. -/
def fnBagPutSpec : ChangeSpec := { name := "fnBagPut", fn := fun _ => fun
  | [d] => { results := [.lit (.bool true)], args := [d] }
  | _ => none }
def fnBagPutRow : OpenClaim := { program := "ytobiaglmfdfepaa", sum := "78f652f77da86ef374c014b9842c86f6b53f5ef3ce96bf0bf447d133a61c3886", func := "loop.example/ordinalhydras/laws.FnBagPut", spec := "fnBagPut", unfollowed := true, recurses := true, apart := false }
def FnBagPutSaid : Prop := fnBagPutRow.holds Try.pinned (OpenSpec.ofChange fnBagPutSpec)

/-- ITS FALSE NEIGHBOUR: 'it returns false'. Refute it at one input. -/
def fnBagPutWrong : ChangeSpec := { name := "fnBagPut", fn := fun _ => fun
  | [d] => { results := [.lit (.bool false)], args := [d] }
  | _ => none }
def FnBagPutWrongFalsely : Prop := fnBagPutRow.holds Try.pinned (OpenSpec.ofChange fnBagPutWrong)

/-- 'laws.FnOrdCompare': WHATEVER THE INPUT: true; the input reads as it did. -/
def fnOrdCompareSpec : ChangeSpec := { name := "fnOrdCompare", fn := fun _ => fun
  | [d1, d2] => { results := [.lit (.bool true)], args := [d1, d2] }
  | _ => none }
def fnOrdCompareRow : OpenClaim := { program := "ytobiaglmfdfepaa", sum := "78f652f77da86ef374c014b9842c86f6b53f5ef3ce96bf0bf447d133a61c3886", func := "loop.example/ordinalhydras/laws.FnOrdCompare", spec := "fnOrdCompare", recurses := true, apart := false }
def FnOrdCompareSaid : Prop := fnOrdCompareRow.holds Try.pinned (OpenSpec.ofChange fnOrdCompareSpec)

/-- ITS FALSE NEIGHBOUR: 'it returns false'. Refute it at one input. -/
def fnOrdCompareWrong : ChangeSpec := { name := "fnOrdCompare", fn := fun _ => fun
  | [d1, d2] => { results := [.lit (.bool false)], args := [d1, d2] }
  | _ => none }
def FnOrdCompareWrongFalsely : Prop := fnOrdCompareRow.holds Try.pinned (OpenSpec.ofChange fnOrdCompareWrong)

/-- 'laws.FnOrdNext': WHATEVER THE INPUT: true; the input reads as it did. -/
def fnOrdNextSpec : ChangeSpec := { name := "fnOrdNext", fn := fun _ => fun
  | [d1, d2] => { results := [.lit (.bool true)], args := [d1, d2] }
  | _ => none }
def fnOrdNextRow : OpenClaim := { program := "ytobiaglmfdfepaa", sum := "78f652f77da86ef374c014b9842c86f6b53f5ef3ce96bf0bf447d133a61c3886", func := "loop.example/ordinalhydras/laws.FnOrdNext", spec := "fnOrdNext", recurses := true, apart := false }
def FnOrdNextSaid : Prop := fnOrdNextRow.holds Try.pinned (OpenSpec.ofChange fnOrdNextSpec)

/-- ITS FALSE NEIGHBOUR: 'it returns false'. Refute it at one input. -/
def fnOrdNextWrong : ChangeSpec := { name := "fnOrdNext", fn := fun _ => fun
  | [d1, d2] => { results := [.lit (.bool false)], args := [d1, d2] }
  | _ => none }
def FnOrdNextWrongFalsely : Prop := fnOrdNextRow.holds Try.pinned (OpenSpec.ofChange fnOrdNextWrong)

/-- 'laws.FnOrdBefore': WHATEVER THE INPUT: true; the input reads as it did. -/
def fnOrdBeforeSpec : ChangeSpec := { name := "fnOrdBefore", fn := fun _ => fun
  | [d] => { results := [.lit (.bool true)], args := [d] }
  | _ => none }
def fnOrdBeforeRow : OpenClaim := { program := "ytobiaglmfdfepaa", sum := "78f652f77da86ef374c014b9842c86f6b53f5ef3ce96bf0bf447d133a61c3886", func := "loop.example/ordinalhydras/laws.FnOrdBefore", spec := "fnOrdBefore", recurses := true, apart := false }
def FnOrdBeforeSaid : Prop := fnOrdBeforeRow.holds Try.pinned (OpenSpec.ofChange fnOrdBeforeSpec)

/-- ITS FALSE NEIGHBOUR: 'it returns false'. Refute it at one input. -/
def fnOrdBeforeWrong : ChangeSpec := { name := "fnOrdBefore", fn := fun _ => fun
  | [d] => { results := [.lit (.bool false)], args := [d] }
  | _ => none }
def FnOrdBeforeWrongFalsely : Prop := fnOrdBeforeRow.holds Try.pinned (OpenSpec.ofChange fnOrdBeforeWrong)

/-- 'laws.FnOrdAdd': WHATEVER THE INPUT: true; the input reads as it did. -/
def fnOrdAddSpec : ChangeSpec := { name := "fnOrdAdd", fn := fun _ => fun
  | [d1, d2] => { results := [.lit (.bool true)], args := [d1, d2] }
  | _ => none }
def fnOrdAddRow : OpenClaim := { program := "ytobiaglmfdfepaa", sum := "78f652f77da86ef374c014b9842c86f6b53f5ef3ce96bf0bf447d133a61c3886", func := "loop.example/ordinalhydras/laws.FnOrdAdd", spec := "fnOrdAdd", recurses := true, apart := false }
def FnOrdAddSaid : Prop := fnOrdAddRow.holds Try.pinned (OpenSpec.ofChange fnOrdAddSpec)

/-- ITS FALSE NEIGHBOUR: 'it returns false'. Refute it at one input. -/
def fnOrdAddWrong : ChangeSpec := { name := "fnOrdAdd", fn := fun _ => fun
  | [d1, d2] => { results := [.lit (.bool false)], args := [d1, d2] }
  | _ => none }
def FnOrdAddWrongFalsely : Prop := fnOrdAddRow.holds Try.pinned (OpenSpec.ofChange fnOrdAddWrong)

/- THE SECOND FORM. 'bulk': how many values and letters a reading holds, each counted each time it is reached (what is shared counts as often as it is met; a slice's spare places count too). A statement '..UptoSaid' is the law's where the arguments, and the package variables that the reading takes, are together of bulk at most 1048576: NARROWER than '..Said'. Prove '..Said' where nothing that the law and all that it calls make is longer than what came in: it says more and counts as full. Else prove '..UptoSaid'. A law counts once. -/
mutual
def uptoBulk {H : Type} : DataW H → Nat
  | .lit (.string bytes) => bytes.length + 1
  | .lit _ => 1
  | .nil => 1
  | .ptr d => uptoBulk d + 1
  | .slice elems spare => uptoBulkAll elems + uptoBulkAll spare + 1
  | .agg parts => uptoBulkAll parts + 1
  | .iface _ d => uptoBulk d + 1
  | .map entries => uptoBulkEntries entries + 1
  | .held _ => 1
def uptoBulkAll {H : Type} : List (DataW H) → Nat
  | [] => 0
  | d :: r => uptoBulk d + uptoBulkAll r
def uptoBulkEntries {H : Type} : List (Lit × DataW H) → Nat
  | [] => 0
  | x :: r => uptoBulkEntry x + uptoBulkEntries r
def uptoBulkEntry {H : Type} : Lit × DataW H → Nat
  | (.string bytes, d) => bytes.length + uptoBulk d + 1
  | (_, d) => uptoBulk d + 1
 end
def uptoSmall : (H : Type) → List (DataW H) → Bool := fun _ ds => decide (uptoBulkAll ds ≤ 1048576)
def OpenSpec.upto (s : _root_.Go.ChangeSpec) : _root_.Go.OpenSpec := { _root_.Go.OpenSpec.ofChange s with cond := some uptoSmall }

/-- 'laws.FnBagValid', WHERE WHAT IT READS IS OF BULK AT MOST 1048576: true; the input reads as it did. -/
def fnBagValidUptoRow : OpenClaim := { program := "ytobiaglmfdfepaa", sum := "78f652f77da86ef374c014b9842c86f6b53f5ef3ce96bf0bf447d133a61c3886", func := "loop.example/ordinalhydras/laws.FnBagValid", spec := "fnBagValid", unfollowed := true, recurses := true, apart := false, narrowed := true }
def FnBagValidUptoSaid : Prop := fnBagValidUptoRow.holds Try.pinned (OpenSpec.upto fnBagValidSpec)

/-- 'laws.FnBagOf', WHERE WHAT IT READS IS OF BULK AT MOST 1048576: true; the input reads as it did. -/
def fnBagOfUptoRow : OpenClaim := { program := "ytobiaglmfdfepaa", sum := "78f652f77da86ef374c014b9842c86f6b53f5ef3ce96bf0bf447d133a61c3886", func := "loop.example/ordinalhydras/laws.FnBagOf", spec := "fnBagOf", unfollowed := true, recurses := true, apart := false, narrowed := true }
def FnBagOfUptoSaid : Prop := fnBagOfUptoRow.holds Try.pinned (OpenSpec.upto fnBagOfSpec)

/-- 'laws.FnBagCompare', WHERE WHAT IT READS IS OF BULK AT MOST 1048576: true; the input reads as it did. -/
def fnBagCompareUptoRow : OpenClaim := { program := "ytobiaglmfdfepaa", sum := "78f652f77da86ef374c014b9842c86f6b53f5ef3ce96bf0bf447d133a61c3886", func := "loop.example/ordinalhydras/laws.FnBagCompare", spec := "fnBagCompare", unfollowed := true, recurses := true, apart := false, narrowed := true }
def FnBagCompareUptoSaid : Prop := fnBagCompareUptoRow.holds Try.pinned (OpenSpec.upto fnBagCompareSpec)

/-- 'laws.FnBagBelow', WHERE WHAT IT READS IS OF BULK AT MOST 1048576: true; the input reads as it did. -/
def fnBagBelowUptoRow : OpenClaim := { program := "ytobiaglmfdfepaa", sum := "78f652f77da86ef374c014b9842c86f6b53f5ef3ce96bf0bf447d133a61c3886", func := "loop.example/ordinalhydras/laws.FnBagBelow", spec := "fnBagBelow", unfollowed := true, recurses := true, apart := false, narrowed := true }
def FnBagBelowUptoSaid : Prop := fnBagBelowUptoRow.holds Try.pinned (OpenSpec.upto fnBagBelowSpec)

/-- 'laws.FnBagOrd', WHERE WHAT IT READS IS OF BULK AT MOST 1048576: true; the input reads as it did. -/
def fnBagOrdUptoRow : OpenClaim := { program := "ytobiaglmfdfepaa", sum := "78f652f77da86ef374c014b9842c86f6b53f5ef3ce96bf0bf447d133a61c3886", func := "loop.example/ordinalhydras/laws.FnBagOrd", spec := "fnBagOrd", unfollowed := true, recurses := true, apart := false, narrowed := true }
def FnBagOrdUptoSaid : Prop := fnBagOrdUptoRow.holds Try.pinned (OpenSpec.upto fnBagOrdSpec)

/-- 'laws.FnBagPut', WHERE WHAT IT READS IS OF BULK AT MOST 1048576: true; the input reads as it did. -/
def fnBagPutUptoRow : OpenClaim := { program := "ytobiaglmfdfepaa", sum := "78f652f77da86ef374c014b9842c86f6b53f5ef3ce96bf0bf447d133a61c3886", func := "loop.example/ordinalhydras/laws.FnBagPut", spec := "fnBagPut", unfollowed := true, recurses := true, apart := false, narrowed := true }
def FnBagPutUptoSaid : Prop := fnBagPutUptoRow.holds Try.pinned (OpenSpec.upto fnBagPutSpec)

/-- 'laws.FnOrdCompare', WHERE WHAT IT READS IS OF BULK AT MOST 1048576: true; the input reads as it did. -/
def fnOrdCompareUptoRow : OpenClaim := { program := "ytobiaglmfdfepaa", sum := "78f652f77da86ef374c014b9842c86f6b53f5ef3ce96bf0bf447d133a61c3886", func := "loop.example/ordinalhydras/laws.FnOrdCompare", spec := "fnOrdCompare", recurses := true, apart := false, narrowed := true }
def FnOrdCompareUptoSaid : Prop := fnOrdCompareUptoRow.holds Try.pinned (OpenSpec.upto fnOrdCompareSpec)

/-- 'laws.FnOrdNext', WHERE WHAT IT READS IS OF BULK AT MOST 1048576: true; the input reads as it did. -/
def fnOrdNextUptoRow : OpenClaim := { program := "ytobiaglmfdfepaa", sum := "78f652f77da86ef374c014b9842c86f6b53f5ef3ce96bf0bf447d133a61c3886", func := "loop.example/ordinalhydras/laws.FnOrdNext", spec := "fnOrdNext", recurses := true, apart := false, narrowed := true }
def FnOrdNextUptoSaid : Prop := fnOrdNextUptoRow.holds Try.pinned (OpenSpec.upto fnOrdNextSpec)

/-- 'laws.FnOrdBefore', WHERE WHAT IT READS IS OF BULK AT MOST 1048576: true; the input reads as it did. -/
def fnOrdBeforeUptoRow : OpenClaim := { program := "ytobiaglmfdfepaa", sum := "78f652f77da86ef374c014b9842c86f6b53f5ef3ce96bf0bf447d133a61c3886", func := "loop.example/ordinalhydras/laws.FnOrdBefore", spec := "fnOrdBefore", recurses := true, apart := false, narrowed := true }
def FnOrdBeforeUptoSaid : Prop := fnOrdBeforeUptoRow.holds Try.pinned (OpenSpec.upto fnOrdBeforeSpec)

/-- 'laws.FnOrdAdd', WHERE WHAT IT READS IS OF BULK AT MOST 1048576: true; the input reads as it did. -/
def fnOrdAddUptoRow : OpenClaim := { program := "ytobiaglmfdfepaa", sum := "78f652f77da86ef374c014b9842c86f6b53f5ef3ce96bf0bf447d133a61c3886", func := "loop.example/ordinalhydras/laws.FnOrdAdd", spec := "fnOrdAdd", recurses := true, apart := false, narrowed := true }
def FnOrdAddUptoSaid : Prop := fnOrdAddUptoRow.holds Try.pinned (OpenSpec.upto fnOrdAddSpec)

end Rows
end Go.Proofs.Ytobiaglmfdfepaa
