/-
  No cell of these rows narrows 'for every input' (looked for: loops, veiled, ifaces, maps, wideKeys, modest, calm, conditions, laid).
  DERIVED. THE GIVEN ROWS OF THIS SEAT. 7 by the template 'for every input the law returns true; each argument reads behind the call as it read before'; 0 by the template 'total and deterministic' (their statements: YtgkcpmhgmhioiaaTotals.lean).
  GIVEN WITH THE SEED: the statements are not yours to turn. If you find one false, say at which input.
  Laid BY PROGRAM, IN A SANDBOX (cutbox-rows.mjs): the forced cells as the released guide's own fill.sh prints them over the translation 6aef37b087b9649a… (all of the seat's roots in one cut). By AI agents, Wed Nov 11 2026. No macro, syntax, notation, axiom, sorry.
-/
import Derived.Test.YtgkcpmhgmhioiaaChecked
import GoSem.Claim
import GoSem.ClaimJoined
import GoSem.ClaimMapViews
import Derived.JoinedTies
import Derived.KernelRfl
namespace Go.Proofs.Ytgkcpmhgmhioiaa
/- THE CELL 'sum', in the pinned program and in every row, IS THE sha256 OF THE DUMP (.gsa) THAT YtgkcpmhgmhioiaaProg.lean LOADS. Nothing in Lean hashes anything: it is a label: what it is worth is what the hold of that sum in a sandbox is worth. -/
noncomputable def Try.pinned : Pinned := { name := "ytgkcpmhgmhioiaa", sum := "6aef37b087b9649a8f88dba8504c40634efb171c04b313a741099463745a8d98", checked := Try.checked }
namespace Rows
def none {H : Type} : Left H := { results := [], args := [] }

/-- 'laws.FnOrdCompare': WHATEVER THE INPUT: true; the input reads as it did. -/
def fnOrdCompareSpec : ChangeSpec := { name := "fnOrdCompare", fn := fun _ => fun
  | [d1, d2] => { results := [.lit (.bool true)], args := [d1, d2] }
  | _ => none }
def fnOrdCompareRow : OpenClaim := { program := "ytgkcpmhgmhioiaa", sum := "6aef37b087b9649a8f88dba8504c40634efb171c04b313a741099463745a8d98", func := "loop.example/ordinalhydras/laws.FnOrdCompare", spec := "fnOrdCompare", recurses := true, apart := false }
def FnOrdCompareSaid : Prop := fnOrdCompareRow.holds Try.pinned (OpenSpec.ofChange fnOrdCompareSpec)

/-- ITS FALSE NEIGHBOUR: 'it returns false'. Refute it at one input. -/
def fnOrdCompareWrong : ChangeSpec := { name := "fnOrdCompare", fn := fun _ => fun
  | [d1, d2] => { results := [.lit (.bool false)], args := [d1, d2] }
  | _ => none }
def FnOrdCompareWrongFalsely : Prop := fnOrdCompareRow.holds Try.pinned (OpenSpec.ofChange fnOrdCompareWrong)

/-- 'laws.FnOrdNext': WHATEVER THE INPUT: true; the input reads as it did. -/
def fnOrdNextSpec : ChangeSpec := { name := "fnOrdNext", fn := fun _ => fun
  | [d1, d2] => { results := [.lit (.bool true)], args := [d1, d2] }
  | _ => none }
def fnOrdNextRow : OpenClaim := { program := "ytgkcpmhgmhioiaa", sum := "6aef37b087b9649a8f88dba8504c40634efb171c04b313a741099463745a8d98", func := "loop.example/ordinalhydras/laws.FnOrdNext", spec := "fnOrdNext", recurses := true, apart := false }
def FnOrdNextSaid : Prop := fnOrdNextRow.holds Try.pinned (OpenSpec.ofChange fnOrdNextSpec)

/-- ITS FALSE NEIGHBOUR: 'it returns false'. Refute it at one input. -/
def fnOrdNextWrong : ChangeSpec := { name := "fnOrdNext", fn := fun _ => fun
  | [d1, d2] => { results := [.lit (.bool false)], args := [d1, d2] }
  | _ => none }
def FnOrdNextWrongFalsely : Prop := fnOrdNextRow.holds Try.pinned (OpenSpec.ofChange fnOrdNextWrong)

/-- 'laws.FnOrdBefore': WHATEVER THE INPUT: true; the input reads as it did. -/
def fnOrdBeforeSpec : ChangeSpec := { name := "fnOrdBefore", fn := fun _ => fun
  | [d] => { results := [.lit (.bool true)], args := [d] }
  | _ => none }
def fnOrdBeforeRow : OpenClaim := { program := "ytgkcpmhgmhioiaa", sum := "6aef37b087b9649a8f88dba8504c40634efb171c04b313a741099463745a8d98", func := "loop.example/ordinalhydras/laws.FnOrdBefore", spec := "fnOrdBefore", recurses := true, apart := false }
def FnOrdBeforeSaid : Prop := fnOrdBeforeRow.holds Try.pinned (OpenSpec.ofChange fnOrdBeforeSpec)

/-- ITS FALSE NEIGHBOUR: 'it returns false'. Refute it at one input. -/
def fnOrdBeforeWrong : ChangeSpec := { name := "fnOrdBefore", fn := fun _ => fun
  | [d] => { results := [.lit (.bool false)], args := [d] }
  | _ => none }
def FnOrdBeforeWrongFalsely : Prop := fnOrdBeforeRow.holds Try.pinned (OpenSpec.ofChange fnOrdBeforeWrong)

/-- 'laws.FnBagOf': WHATEVER THE INPUT: true; the input reads as it did. -/
def fnBagOfSpec : ChangeSpec := { name := "fnBagOf", fn := fun _ => fun
  | [d] => { results := [.lit (.bool true)], args := [d] }
  | _ => none }
def fnBagOfRow : OpenClaim := { program := "ytgkcpmhgmhioiaa", sum := "6aef37b087b9649a8f88dba8504c40634efb171c04b313a741099463745a8d98", func := "loop.example/ordinalhydras/laws.FnBagOf", spec := "fnBagOf", unfollowed := true, recurses := true, apart := false }
def FnBagOfSaid : Prop := fnBagOfRow.holds Try.pinned (OpenSpec.ofChange fnBagOfSpec)

/-- ITS FALSE NEIGHBOUR: 'it returns false'. Refute it at one input. -/
def fnBagOfWrong : ChangeSpec := { name := "fnBagOf", fn := fun _ => fun
  | [d] => { results := [.lit (.bool false)], args := [d] }
  | _ => none }
def FnBagOfWrongFalsely : Prop := fnBagOfRow.holds Try.pinned (OpenSpec.ofChange fnBagOfWrong)

/-- 'laws.FnBagPut': WHATEVER THE INPUT: true; the input reads as it did. -/
def fnBagPutSpec : ChangeSpec := { name := "fnBagPut", fn := fun _ => fun
  | [d] => { results := [.lit (.bool true)], args := [d] }
  | _ => none }
def fnBagPutRow : OpenClaim := { program := "ytgkcpmhgmhioiaa", sum := "6aef37b087b9649a8f88dba8504c40634efb171c04b313a741099463745a8d98", func := "loop.example/ordinalhydras/laws.FnBagPut", spec := "fnBagPut", unfollowed := true, recurses := true, apart := false }
def FnBagPutSaid : Prop := fnBagPutRow.holds Try.pinned (OpenSpec.ofChange fnBagPutSpec)

/-- ITS FALSE NEIGHBOUR: 'it returns false'. Refute it at one input. -/
def fnBagPutWrong : ChangeSpec := { name := "fnBagPut", fn := fun _ => fun
  | [d] => { results := [.lit (.bool false)], args := [d] }
  | _ => none }
def FnBagPutWrongFalsely : Prop := fnBagPutRow.holds Try.pinned (OpenSpec.ofChange fnBagPutWrong)

/-- 'laws.FnExactOrdAdd': WHATEVER THE INPUT: true; the input reads as it did. -/
def fnExactOrdAddSpec : ChangeSpec := { name := "fnExactOrdAdd", fn := fun _ => fun
  | [d1, d2] => { results := [.lit (.bool true)], args := [d1, d2] }
  | _ => none }
def fnExactOrdAddRow : OpenClaim := { program := "ytgkcpmhgmhioiaa", sum := "6aef37b087b9649a8f88dba8504c40634efb171c04b313a741099463745a8d98", func := "loop.example/ordinalhydras/laws.FnExactOrdAdd", spec := "fnExactOrdAdd", recurses := true, apart := false }
def FnExactOrdAddSaid : Prop := fnExactOrdAddRow.holds Try.pinned (OpenSpec.ofChange fnExactOrdAddSpec)

/-- ITS FALSE NEIGHBOUR: 'it returns false'. Refute it at one input. -/
def fnExactOrdAddWrong : ChangeSpec := { name := "fnExactOrdAdd", fn := fun _ => fun
  | [d1, d2] => { results := [.lit (.bool false)], args := [d1, d2] }
  | _ => none }
def FnExactOrdAddWrongFalsely : Prop := fnExactOrdAddRow.holds Try.pinned (OpenSpec.ofChange fnExactOrdAddWrong)

/-- 'laws.FnExactBagPut': WHATEVER THE INPUT: true; the input reads as it did. -/
def fnExactBagPutSpec : ChangeSpec := { name := "fnExactBagPut", fn := fun _ => fun
  | [d1, d2, d3] => { results := [.lit (.bool true)], args := [d1, d2, d3] }
  | _ => none }
def fnExactBagPutRow : OpenClaim := { program := "ytgkcpmhgmhioiaa", sum := "6aef37b087b9649a8f88dba8504c40634efb171c04b313a741099463745a8d98", func := "loop.example/ordinalhydras/laws.FnExactBagPut", spec := "fnExactBagPut", unfollowed := true, recurses := true, apart := false }
def FnExactBagPutSaid : Prop := fnExactBagPutRow.holds Try.pinned (OpenSpec.ofChange fnExactBagPutSpec)

/-- ITS FALSE NEIGHBOUR: 'it returns false'. Refute it at one input. -/
def fnExactBagPutWrong : ChangeSpec := { name := "fnExactBagPut", fn := fun _ => fun
  | [d1, d2, d3] => { results := [.lit (.bool false)], args := [d1, d2, d3] }
  | _ => none }
def FnExactBagPutWrongFalsely : Prop := fnExactBagPutRow.holds Try.pinned (OpenSpec.ofChange fnExactBagPutWrong)

/- THE SECOND FORM. 'bulk': how many values and letters a reading holds, each counted each time it is reached (what is shared counts as often as it is met; a slice's spare places count too). A statement '..UptoSaid' is the law's where the arguments, and the package variables that the reading takes, are together of bulk at most 1048576: NARROWER than '..Said'. Prove '..Said' where nothing that the law and all that it calls make is longer than what came in: it says more and counts as full. Else prove '..UptoSaid'. A law counts once. -/
mutual
def uptoBulk {H : Type} : DataW H → Nat
  | .lit (.string bytes) => bytes.length + 1
  | .lit _ => 1
  | .nil => 1
  | .ptr d => uptoBulk d + 1
  | .slice elems spare => uptoBulkAll elems + uptoBulkAll spare + 1
  | .agg parts => uptoBulkAll parts + 1
  | .iface _ d => uptoBulk d + 1
  | .map entries => uptoBulkEntries entries + 1
  | .held _ => 1
def uptoBulkAll {H : Type} : List (DataW H) → Nat
  | [] => 0
  | d :: r => uptoBulk d + uptoBulkAll r
def uptoBulkEntries {H : Type} : List (Lit × DataW H) → Nat
  | [] => 0
  | x :: r => uptoBulkEntry x + uptoBulkEntries r
def uptoBulkEntry {H : Type} : Lit × DataW H → Nat
  | (.string bytes, d) => bytes.length + uptoBulk d + 1
  | (_, d) => uptoBulk d + 1
 end
def uptoSmall : (H : Type) → List (DataW H) → Bool := fun _ ds => decide (uptoBulkAll ds ≤ 1048576)
def OpenSpec.upto (s : _root_.Go.ChangeSpec) : _root_.Go.OpenSpec := { _root_.Go.OpenSpec.ofChange s with cond := some uptoSmall }

/-- 'laws.FnOrdCompare', WHERE WHAT IT READS IS OF BULK AT MOST 1048576: true; the input reads as it did. -/
def fnOrdCompareUptoRow : OpenClaim := { program := "ytgkcpmhgmhioiaa", sum := "6aef37b087b9649a8f88dba8504c40634efb171c04b313a741099463745a8d98", func := "loop.example/ordinalhydras/laws.FnOrdCompare", spec := "fnOrdCompare", recurses := true, apart := false, narrowed := true }
def FnOrdCompareUptoSaid : Prop := fnOrdCompareUptoRow.holds Try.pinned (OpenSpec.upto fnOrdCompareSpec)

/-- 'laws.FnOrdNext', WHERE WHAT IT READS IS OF BULK AT MOST 1048576: true; the input reads as it did. -/
def fnOrdNextUptoRow : OpenClaim := { program := "ytgkcpmhgmhioiaa", sum := "6aef37b087b9649a8f88dba8504c40634efb171c04b313a741099463745a8d98", func := "loop.example/ordinalhydras/laws.FnOrdNext", spec := "fnOrdNext", recurses := true, apart := false, narrowed := true }
def FnOrdNextUptoSaid : Prop := fnOrdNextUptoRow.holds Try.pinned (OpenSpec.upto fnOrdNextSpec)

/-- 'laws.FnOrdBefore', WHERE WHAT IT READS IS OF BULK AT MOST 1048576: true; the input reads as it did. -/
def fnOrdBeforeUptoRow : OpenClaim := { program := "ytgkcpmhgmhioiaa", sum := "6aef37b087b9649a8f88dba8504c40634efb171c04b313a741099463745a8d98", func := "loop.example/ordinalhydras/laws.FnOrdBefore", spec := "fnOrdBefore", recurses := true, apart := false, narrowed := true }
def FnOrdBeforeUptoSaid : Prop := fnOrdBeforeUptoRow.holds Try.pinned (OpenSpec.upto fnOrdBeforeSpec)

/-- 'laws.FnBagOf', WHERE WHAT IT READS IS OF BULK AT MOST 1048576: true; the input reads as it did. -/
def fnBagOfUptoRow : OpenClaim := { program := "ytgkcpmhgmhioiaa", sum := "6aef37b087b9649a8f88dba8504c40634efb171c04b313a741099463745a8d98", func := "loop.example/ordinalhydras/laws.FnBagOf", spec := "fnBagOf", unfollowed := true, recurses := true, apart := false, narrowed := true }
def FnBagOfUptoSaid : Prop := fnBagOfUptoRow.holds Try.pinned (OpenSpec.upto fnBagOfSpec)

/-- 'laws.FnBagPut', WHERE WHAT IT READS IS OF BULK AT MOST 1048576: true; the input reads as it did. -/
def fnBagPutUptoRow : OpenClaim := { program := "ytgkcpmhgmhioiaa", sum := "6aef37b087b9649a8f88dba8504c40634efb171c04b313a741099463745a8d98", func := "loop.example/ordinalhydras/laws.FnBagPut", spec := "fnBagPut", unfollowed := true, recurses := true, apart := false, narrowed := true }
def FnBagPutUptoSaid : Prop := fnBagPutUptoRow.holds Try.pinned (OpenSpec.upto fnBagPutSpec)

/-- 'laws.FnExactOrdAdd', WHERE WHAT IT READS IS OF BULK AT MOST 1048576: true; the input reads as it did. -/
def fnExactOrdAddUptoRow : OpenClaim := { program := "ytgkcpmhgmhioiaa", sum := "6aef37b087b9649a8f88dba8504c40634efb171c04b313a741099463745a8d98", func := "loop.example/ordinalhydras/laws.FnExactOrdAdd", spec := "fnExactOrdAdd", recurses := true, apart := false, narrowed := true }
def FnExactOrdAddUptoSaid : Prop := fnExactOrdAddUptoRow.holds Try.pinned (OpenSpec.upto fnExactOrdAddSpec)

/-- 'laws.FnExactBagPut', WHERE WHAT IT READS IS OF BULK AT MOST 1048576: true; the input reads as it did. -/
def fnExactBagPutUptoRow : OpenClaim := { program := "ytgkcpmhgmhioiaa", sum := "6aef37b087b9649a8f88dba8504c40634efb171c04b313a741099463745a8d98", func := "loop.example/ordinalhydras/laws.FnExactBagPut", spec := "fnExactBagPut", unfollowed := true, recurses := true, apart := false, narrowed := true }
def FnExactBagPutUptoSaid : Prop := fnExactBagPutUptoRow.holds Try.pinned (OpenSpec.upto fnExactBagPutSpec)

end Rows
end Go.Proofs.Ytgkcpmhgmhioiaa
