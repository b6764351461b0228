/-
  No cell of these rows narrows 'for every input' (looked for: loops, veiled, ifaces, maps, wideKeys, modest, calm, conditions, laid).
  DERIVED. THE GIVEN ROWS OF THIS SEAT. 5 by the template 'for every input the law returns true; each argument reads behind the call as it read before'; 0 by the template 'total and deterministic' (their statements: YtgkgjacjcenekaaTotals.lean).
  GIVEN WITH THE SEED: the statements are not yours to turn. If you find one false, say at which input.
  Laid BY PROGRAM, IN A SANDBOX (cutbox-rows.mjs): the forced cells as the released guide's own fill.sh prints them over the translation 87ab3f298a62dd7e… (all of the seat's roots in one cut). By AI agents, Wed Nov 11 2026. No macro, syntax, notation, axiom, sorry.
-/
import Derived.Test.YtgkgjacjcenekaaChecked
import GoSem.Claim
import GoSem.ClaimJoined
import GoSem.ClaimMapViews
import Derived.JoinedTies
import Derived.KernelRfl
namespace Go.Proofs.Ytgkgjacjcenekaa
/- THE CELL 'sum', in the pinned program and in every row, IS THE sha256 OF THE DUMP (.gsa) THAT YtgkgjacjcenekaaProg.lean LOADS. Nothing in Lean hashes anything: it is a label: what it is worth is what the hold of that sum in a sandbox is worth. -/
noncomputable def Try.pinned : Pinned := { name := "ytgkgjacjcenekaa", sum := "87ab3f298a62dd7edad04db105ac9ef056c4400dedcea7debab4237d433bb3af", checked := Try.checked }
namespace Rows
def none {H : Type} : Left H := { results := [], args := [] }

/-- 'laws.FnExactOrdCompare': WHATEVER THE INPUT: true; the input reads as it did. -/
def fnExactOrdCompareSpec : ChangeSpec := { name := "fnExactOrdCompare", fn := fun _ => fun
  | [d1, d2] => { results := [.lit (.bool true)], args := [d1, d2] }
  | _ => none }
def fnExactOrdCompareRow : OpenClaim := { program := "ytgkgjacjcenekaa", sum := "87ab3f298a62dd7edad04db105ac9ef056c4400dedcea7debab4237d433bb3af", func := "loop.example/ordinalhydras/laws.FnExactOrdCompare", spec := "fnExactOrdCompare", recurses := true, apart := false }
def FnExactOrdCompareSaid : Prop := fnExactOrdCompareRow.holds Try.pinned (OpenSpec.ofChange fnExactOrdCompareSpec)

/-- ITS FALSE NEIGHBOUR: 'it returns false'. Refute it at one input. -/
def fnExactOrdCompareWrong : ChangeSpec := { name := "fnExactOrdCompare", fn := fun _ => fun
  | [d1, d2] => { results := [.lit (.bool false)], args := [d1, d2] }
  | _ => none }
def FnExactOrdCompareWrongFalsely : Prop := fnExactOrdCompareRow.holds Try.pinned (OpenSpec.ofChange fnExactOrdCompareWrong)

/-- 'laws.FnExactOrdNext': WHATEVER THE INPUT: true; the input reads as it did. -/
def fnExactOrdNextSpec : ChangeSpec := { name := "fnExactOrdNext", fn := fun _ => fun
  | [d] => { results := [.lit (.bool true)], args := [d] }
  | _ => none }
def fnExactOrdNextRow : OpenClaim := { program := "ytgkgjacjcenekaa", sum := "87ab3f298a62dd7edad04db105ac9ef056c4400dedcea7debab4237d433bb3af", func := "loop.example/ordinalhydras/laws.FnExactOrdNext", spec := "fnExactOrdNext", recurses := true, apart := false }
def FnExactOrdNextSaid : Prop := fnExactOrdNextRow.holds Try.pinned (OpenSpec.ofChange fnExactOrdNextSpec)

/-- ITS FALSE NEIGHBOUR: 'it returns false'. Refute it at one input. -/
def fnExactOrdNextWrong : ChangeSpec := { name := "fnExactOrdNext", fn := fun _ => fun
  | [d] => { results := [.lit (.bool false)], args := [d] }
  | _ => none }
def FnExactOrdNextWrongFalsely : Prop := fnExactOrdNextRow.holds Try.pinned (OpenSpec.ofChange fnExactOrdNextWrong)

/-- 'laws.FnExactOrdBefore': WHATEVER THE INPUT: true; the input reads as it did. -/
def fnExactOrdBeforeSpec : ChangeSpec := { name := "fnExactOrdBefore", fn := fun _ => fun
  | [d] => { results := [.lit (.bool true)], args := [d] }
  | _ => none }
def fnExactOrdBeforeRow : OpenClaim := { program := "ytgkgjacjcenekaa", sum := "87ab3f298a62dd7edad04db105ac9ef056c4400dedcea7debab4237d433bb3af", func := "loop.example/ordinalhydras/laws.FnExactOrdBefore", spec := "fnExactOrdBefore", recurses := true, apart := false }
def FnExactOrdBeforeSaid : Prop := fnExactOrdBeforeRow.holds Try.pinned (OpenSpec.ofChange fnExactOrdBeforeSpec)

/-- ITS FALSE NEIGHBOUR: 'it returns false'. Refute it at one input. -/
def fnExactOrdBeforeWrong : ChangeSpec := { name := "fnExactOrdBefore", fn := fun _ => fun
  | [d] => { results := [.lit (.bool false)], args := [d] }
  | _ => none }
def FnExactOrdBeforeWrongFalsely : Prop := fnExactOrdBeforeRow.holds Try.pinned (OpenSpec.ofChange fnExactOrdBeforeWrong)

/-- 'laws.FnExactRelValid': WHATEVER THE INPUT: true; the input reads as it did. -/
def fnExactRelValidSpec : ChangeSpec := { name := "fnExactRelValid", fn := fun _ => fun
  | [d] => { results := [.lit (.bool true)], args := [d] }
  | _ => none }
def fnExactRelValidRow : OpenClaim := { program := "ytgkgjacjcenekaa", sum := "87ab3f298a62dd7edad04db105ac9ef056c4400dedcea7debab4237d433bb3af", func := "loop.example/ordinalhydras/laws.FnExactRelValid", spec := "fnExactRelValid", apart := false }
def FnExactRelValidSaid : Prop := fnExactRelValidRow.holds Try.pinned (OpenSpec.ofChange fnExactRelValidSpec)

/-- ITS FALSE NEIGHBOUR: 'it returns false'. Refute it at one input. -/
def fnExactRelValidWrong : ChangeSpec := { name := "fnExactRelValid", fn := fun _ => fun
  | [d] => { results := [.lit (.bool false)], args := [d] }
  | _ => none }
def FnExactRelValidWrongFalsely : Prop := fnExactRelValidRow.holds Try.pinned (OpenSpec.ofChange fnExactRelValidWrong)

/-- 'laws.FnExactCircleOk': WHATEVER THE INPUT: true; the input reads as it did. -/
def fnExactCircleOkSpec : ChangeSpec := { name := "fnExactCircleOk", fn := fun _ => fun
  | [d1, d2] => { results := [.lit (.bool true)], args := [d1, d2] }
  | _ => none }
def fnExactCircleOkRow : OpenClaim := { program := "ytgkgjacjcenekaa", sum := "87ab3f298a62dd7edad04db105ac9ef056c4400dedcea7debab4237d433bb3af", func := "loop.example/ordinalhydras/laws.FnExactCircleOk", spec := "fnExactCircleOk", apart := false }
def FnExactCircleOkSaid : Prop := fnExactCircleOkRow.holds Try.pinned (OpenSpec.ofChange fnExactCircleOkSpec)

/-- ITS FALSE NEIGHBOUR: 'it returns false'. Refute it at one input. -/
def fnExactCircleOkWrong : ChangeSpec := { name := "fnExactCircleOk", fn := fun _ => fun
  | [d1, d2] => { results := [.lit (.bool false)], args := [d1, d2] }
  | _ => none }
def FnExactCircleOkWrongFalsely : Prop := fnExactCircleOkRow.holds Try.pinned (OpenSpec.ofChange fnExactCircleOkWrong)

/- THE SECOND FORM. 'bulk': how many values and letters a reading holds, each counted each time it is reached (what is shared counts as often as it is met; a slice's spare places count too). A statement '..UptoSaid' is the law's where the arguments, and the package variables that the reading takes, are together of bulk at most 1048576: NARROWER than '..Said'. Prove '..Said' where nothing that the law and all that it calls make is longer than what came in: it says more and counts as full. Else prove '..UptoSaid'. A law counts once. -/
mutual
def uptoBulk {H : Type} : DataW H → Nat
  | .lit (.string bytes) => bytes.length + 1
  | .lit _ => 1
  | .nil => 1
  | .ptr d => uptoBulk d + 1
  | .slice elems spare => uptoBulkAll elems + uptoBulkAll spare + 1
  | .agg parts => uptoBulkAll parts + 1
  | .iface _ d => uptoBulk d + 1
  | .map entries => uptoBulkEntries entries + 1
  | .held _ => 1
def uptoBulkAll {H : Type} : List (DataW H) → Nat
  | [] => 0
  | d :: r => uptoBulk d + uptoBulkAll r
def uptoBulkEntries {H : Type} : List (Lit × DataW H) → Nat
  | [] => 0
  | x :: r => uptoBulkEntry x + uptoBulkEntries r
def uptoBulkEntry {H : Type} : Lit × DataW H → Nat
  | (.string bytes, d) => bytes.length + uptoBulk d + 1
  | (_, d) => uptoBulk d + 1
 end
def uptoSmall : (H : Type) → List (DataW H) → Bool := fun _ ds => decide (uptoBulkAll ds ≤ 1048576)
def OpenSpec.upto (s : _root_.Go.ChangeSpec) : _root_.Go.OpenSpec := { _root_.Go.OpenSpec.ofChange s with cond := some uptoSmall }

/-- 'laws.FnExactOrdCompare', WHERE WHAT IT READS IS OF BULK AT MOST 1048576: true; the input reads as it did. -/
def fnExactOrdCompareUptoRow : OpenClaim := { program := "ytgkgjacjcenekaa", sum := "87ab3f298a62dd7edad04db105ac9ef056c4400dedcea7debab4237d433bb3af", func := "loop.example/ordinalhydras/laws.FnExactOrdCompare", spec := "fnExactOrdCompare", recurses := true, apart := false, narrowed := true }
def FnExactOrdCompareUptoSaid : Prop := fnExactOrdCompareUptoRow.holds Try.pinned (OpenSpec.upto fnExactOrdCompareSpec)

/-- 'laws.FnExactOrdNext', WHERE WHAT IT READS IS OF BULK AT MOST 1048576: true; the input reads as it did. -/
def fnExactOrdNextUptoRow : OpenClaim := { program := "ytgkgjacjcenekaa", sum := "87ab3f298a62dd7edad04db105ac9ef056c4400dedcea7debab4237d433bb3af", func := "loop.example/ordinalhydras/laws.FnExactOrdNext", spec := "fnExactOrdNext", recurses := true, apart := false, narrowed := true }
def FnExactOrdNextUptoSaid : Prop := fnExactOrdNextUptoRow.holds Try.pinned (OpenSpec.upto fnExactOrdNextSpec)

/-- 'laws.FnExactOrdBefore', WHERE WHAT IT READS IS OF BULK AT MOST 1048576: true; the input reads as it did. -/
def fnExactOrdBeforeUptoRow : OpenClaim := { program := "ytgkgjacjcenekaa", sum := "87ab3f298a62dd7edad04db105ac9ef056c4400dedcea7debab4237d433bb3af", func := "loop.example/ordinalhydras/laws.FnExactOrdBefore", spec := "fnExactOrdBefore", recurses := true, apart := false, narrowed := true }
def FnExactOrdBeforeUptoSaid : Prop := fnExactOrdBeforeUptoRow.holds Try.pinned (OpenSpec.upto fnExactOrdBeforeSpec)

/-- 'laws.FnExactRelValid', WHERE WHAT IT READS IS OF BULK AT MOST 1048576: true; the input reads as it did. -/
def fnExactRelValidUptoRow : OpenClaim := { program := "ytgkgjacjcenekaa", sum := "87ab3f298a62dd7edad04db105ac9ef056c4400dedcea7debab4237d433bb3af", func := "loop.example/ordinalhydras/laws.FnExactRelValid", spec := "fnExactRelValid", apart := false, narrowed := true }
def FnExactRelValidUptoSaid : Prop := fnExactRelValidUptoRow.holds Try.pinned (OpenSpec.upto fnExactRelValidSpec)

/-- 'laws.FnExactCircleOk', WHERE WHAT IT READS IS OF BULK AT MOST 1048576: true; the input reads as it did. -/
def fnExactCircleOkUptoRow : OpenClaim := { program := "ytgkgjacjcenekaa", sum := "87ab3f298a62dd7edad04db105ac9ef056c4400dedcea7debab4237d433bb3af", func := "loop.example/ordinalhydras/laws.FnExactCircleOk", spec := "fnExactCircleOk", apart := false, narrowed := true }
def FnExactCircleOkUptoSaid : Prop := fnExactCircleOkUptoRow.holds Try.pinned (OpenSpec.upto fnExactCircleOkSpec)

end Rows
end Go.Proofs.Ytgkgjacjcenekaa
