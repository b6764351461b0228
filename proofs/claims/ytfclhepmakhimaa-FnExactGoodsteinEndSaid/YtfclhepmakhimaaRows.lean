/-
  No cell of these rows narrows 'for every input' (looked for: loops, veiled, ifaces, maps, wideKeys, modest, calm, conditions, laid).
  DERIVED. THE GIVEN ROWS OF THIS SEAT. 9 by the template 'for every input the law returns true; each argument reads behind the call as it read before'; 0 by the template 'total and deterministic' (their statements: YtfclhepmakhimaaTotals.lean).
  GIVEN WITH THE SEED: the statements are not yours to turn. If you find one false, say at which input.
  Laid BY PROGRAM, IN A SANDBOX (cutbox-rows.mjs): the forced cells as the released guide's own fill.sh prints them over the translation 380170722ca4c5e5… (all of the seat's roots in one cut). By AI agents, Wed Nov 11 2026. No macro, syntax, notation, axiom, sorry.
-/
import Derived.Test.YtfclhepmakhimaaChecked
import GoSem.Claim
import GoSem.ClaimJoined
import GoSem.ClaimMapViews
import Derived.JoinedTies
import Derived.KernelRfl
namespace Go.Proofs.Ytfclhepmakhimaa
/- THE CELL 'sum', in the pinned program and in every row, IS THE sha256 OF THE DUMP (.gsa) THAT YtfclhepmakhimaaProg.lean LOADS. Nothing in Lean hashes anything: it is a label: what it is worth is what the hold of that sum in a sandbox is worth. -/
noncomputable def Try.pinned : Pinned := { name := "ytfclhepmakhimaa", sum := "380170722ca4c5e5c79976700ce24fa3ed6c050227c83583a4bb11260b1a9810", checked := Try.checked }
namespace Rows
def none {H : Type} : Left H := { results := [], args := [] }

/-- 'laws.FnExactChangeBase': WHATEVER THE INPUT: true; the input reads as it did. -/
def fnExactChangeBaseSpec : ChangeSpec := { name := "fnExactChangeBase", fn := fun _ => fun
  | [d1, d2, d3] => { results := [.lit (.bool true)], args := [d1, d2, d3] }
  | _ => none }
def fnExactChangeBaseRow : OpenClaim := { program := "ytfclhepmakhimaa", sum := "380170722ca4c5e5c79976700ce24fa3ed6c050227c83583a4bb11260b1a9810", func := "loop.example/ordinalhydras/laws.FnExactChangeBase", spec := "fnExactChangeBase", unfollowed := true, recurses := true, apart := false }
def FnExactChangeBaseSaid : Prop := fnExactChangeBaseRow.holds Try.pinned (OpenSpec.ofChange fnExactChangeBaseSpec)

/-- ITS FALSE NEIGHBOUR: 'it returns false'. Refute it at one input. -/
def fnExactChangeBaseWrong : ChangeSpec := { name := "fnExactChangeBase", fn := fun _ => fun
  | [d1, d2, d3] => { results := [.lit (.bool false)], args := [d1, d2, d3] }
  | _ => none }
def FnExactChangeBaseWrongFalsely : Prop := fnExactChangeBaseRow.holds Try.pinned (OpenSpec.ofChange fnExactChangeBaseWrong)

/-- 'laws.FnExactGoodsteinNext': WHATEVER THE INPUT: true; the input reads as it did. -/
def fnExactGoodsteinNextSpec : ChangeSpec := { name := "fnExactGoodsteinNext", fn := fun _ => fun
  | [d1, d2] => { results := [.lit (.bool true)], args := [d1, d2] }
  | _ => none }
def fnExactGoodsteinNextRow : OpenClaim := { program := "ytfclhepmakhimaa", sum := "380170722ca4c5e5c79976700ce24fa3ed6c050227c83583a4bb11260b1a9810", func := "loop.example/ordinalhydras/laws.FnExactGoodsteinNext", spec := "fnExactGoodsteinNext", unfollowed := true, recurses := true, apart := false }
def FnExactGoodsteinNextSaid : Prop := fnExactGoodsteinNextRow.holds Try.pinned (OpenSpec.ofChange fnExactGoodsteinNextSpec)

/-- ITS FALSE NEIGHBOUR: 'it returns false'. Refute it at one input. -/
def fnExactGoodsteinNextWrong : ChangeSpec := { name := "fnExactGoodsteinNext", fn := fun _ => fun
  | [d1, d2] => { results := [.lit (.bool false)], args := [d1, d2] }
  | _ => none }
def FnExactGoodsteinNextWrongFalsely : Prop := fnExactGoodsteinNextRow.holds Try.pinned (OpenSpec.ofChange fnExactGoodsteinNextWrong)

/-- 'laws.FnExactGoodsteinRun': WHATEVER THE INPUT: true; the input reads as it did. -/
def fnExactGoodsteinRunSpec : ChangeSpec := { name := "fnExactGoodsteinRun", fn := fun _ => fun
  | [d] => { results := [.lit (.bool true)], args := [d] }
  | _ => none }
def fnExactGoodsteinRunRow : OpenClaim := { program := "ytfclhepmakhimaa", sum := "380170722ca4c5e5c79976700ce24fa3ed6c050227c83583a4bb11260b1a9810", func := "loop.example/ordinalhydras/laws.FnExactGoodsteinRun", spec := "fnExactGoodsteinRun", unfollowed := true, recurses := true, apart := false }
def FnExactGoodsteinRunSaid : Prop := fnExactGoodsteinRunRow.holds Try.pinned (OpenSpec.ofChange fnExactGoodsteinRunSpec)

/-- ITS FALSE NEIGHBOUR: 'it returns false'. Refute it at one input. -/
def fnExactGoodsteinRunWrong : ChangeSpec := { name := "fnExactGoodsteinRun", fn := fun _ => fun
  | [d] => { results := [.lit (.bool false)], args := [d] }
  | _ => none }
def FnExactGoodsteinRunWrongFalsely : Prop := fnExactGoodsteinRunRow.holds Try.pinned (OpenSpec.ofChange fnExactGoodsteinRunWrong)

/-- 'laws.FnExactGoodsteinEnd': WHATEVER THE INPUT: true; the input reads as it did. -/
def fnExactGoodsteinEndSpec : ChangeSpec := { name := "fnExactGoodsteinEnd", fn := fun _ => fun
  | [d] => { results := [.lit (.bool true)], args := [d] }
  | _ => none }
def fnExactGoodsteinEndRow : OpenClaim := { program := "ytfclhepmakhimaa", sum := "380170722ca4c5e5c79976700ce24fa3ed6c050227c83583a4bb11260b1a9810", func := "loop.example/ordinalhydras/laws.FnExactGoodsteinEnd", spec := "fnExactGoodsteinEnd", unfollowed := true, recurses := true, apart := false }
def FnExactGoodsteinEndSaid : Prop := fnExactGoodsteinEndRow.holds Try.pinned (OpenSpec.ofChange fnExactGoodsteinEndSpec)

/-- ITS FALSE NEIGHBOUR: 'it returns false'. Refute it at one input. -/
def fnExactGoodsteinEndWrong : ChangeSpec := { name := "fnExactGoodsteinEnd", fn := fun _ => fun
  | [d] => { results := [.lit (.bool false)], args := [d] }
  | _ => none }
def FnExactGoodsteinEndWrongFalsely : Prop := fnExactGoodsteinEndRow.holds Try.pinned (OpenSpec.ofChange fnExactGoodsteinEndWrong)

/-- 'laws.FnGoodsteinRun': WHATEVER THE INPUT: true; the input reads as it did. -/
def fnGoodsteinRunSpec : ChangeSpec := { name := "fnGoodsteinRun", fn := fun _ => fun
  | [d] => { results := [.lit (.bool true)], args := [d] }
  | _ => none }
def fnGoodsteinRunRow : OpenClaim := { program := "ytfclhepmakhimaa", sum := "380170722ca4c5e5c79976700ce24fa3ed6c050227c83583a4bb11260b1a9810", func := "loop.example/ordinalhydras/laws.FnGoodsteinRun", spec := "fnGoodsteinRun", unfollowed := true, recurses := true, apart := false }
def FnGoodsteinRunSaid : Prop := fnGoodsteinRunRow.holds Try.pinned (OpenSpec.ofChange fnGoodsteinRunSpec)

/-- ITS FALSE NEIGHBOUR: 'it returns false'. Refute it at one input. -/
def fnGoodsteinRunWrong : ChangeSpec := { name := "fnGoodsteinRun", fn := fun _ => fun
  | [d] => { results := [.lit (.bool false)], args := [d] }
  | _ => none }
def FnGoodsteinRunWrongFalsely : Prop := fnGoodsteinRunRow.holds Try.pinned (OpenSpec.ofChange fnGoodsteinRunWrong)

/-- 'laws.FnGoodsteinEnd': WHATEVER THE INPUT: true; the input reads as it did. -/
def fnGoodsteinEndSpec : ChangeSpec := { name := "fnGoodsteinEnd", fn := fun _ => fun
  | [d] => { results := [.lit (.bool true)], args := [d] }
  | _ => none }
def fnGoodsteinEndRow : OpenClaim := { program := "ytfclhepmakhimaa", sum := "380170722ca4c5e5c79976700ce24fa3ed6c050227c83583a4bb11260b1a9810", func := "loop.example/ordinalhydras/laws.FnGoodsteinEnd", spec := "fnGoodsteinEnd", unfollowed := true, recurses := true, apart := false }
def FnGoodsteinEndSaid : Prop := fnGoodsteinEndRow.holds Try.pinned (OpenSpec.ofChange fnGoodsteinEndSpec)

/-- ITS FALSE NEIGHBOUR: 'it returns false'. Refute it at one input. -/
def fnGoodsteinEndWrong : ChangeSpec := { name := "fnGoodsteinEnd", fn := fun _ => fun
  | [d] => { results := [.lit (.bool false)], args := [d] }
  | _ => none }
def FnGoodsteinEndWrongFalsely : Prop := fnGoodsteinEndRow.holds Try.pinned (OpenSpec.ofChange fnGoodsteinEndWrong)

/-- 'laws.FnOrdCompare': WHATEVER THE INPUT: true; the input reads as it did. -/
def fnOrdCompareSpec : ChangeSpec := { name := "fnOrdCompare", fn := fun _ => fun
  | [d1, d2] => { results := [.lit (.bool true)], args := [d1, d2] }
  | _ => none }
def fnOrdCompareRow : OpenClaim := { program := "ytfclhepmakhimaa", sum := "380170722ca4c5e5c79976700ce24fa3ed6c050227c83583a4bb11260b1a9810", func := "loop.example/ordinalhydras/laws.FnOrdCompare", spec := "fnOrdCompare", recurses := true, apart := false }
def FnOrdCompareSaid : Prop := fnOrdCompareRow.holds Try.pinned (OpenSpec.ofChange fnOrdCompareSpec)

/-- ITS FALSE NEIGHBOUR: 'it returns false'. Refute it at one input. -/
def fnOrdCompareWrong : ChangeSpec := { name := "fnOrdCompare", fn := fun _ => fun
  | [d1, d2] => { results := [.lit (.bool false)], args := [d1, d2] }
  | _ => none }
def FnOrdCompareWrongFalsely : Prop := fnOrdCompareRow.holds Try.pinned (OpenSpec.ofChange fnOrdCompareWrong)

/-- 'laws.FnOrdNext': WHATEVER THE INPUT: true; the input reads as it did. -/
def fnOrdNextSpec : ChangeSpec := { name := "fnOrdNext", fn := fun _ => fun
  | [d1, d2] => { results := [.lit (.bool true)], args := [d1, d2] }
  | _ => none }
def fnOrdNextRow : OpenClaim := { program := "ytfclhepmakhimaa", sum := "380170722ca4c5e5c79976700ce24fa3ed6c050227c83583a4bb11260b1a9810", func := "loop.example/ordinalhydras/laws.FnOrdNext", spec := "fnOrdNext", recurses := true, apart := false }
def FnOrdNextSaid : Prop := fnOrdNextRow.holds Try.pinned (OpenSpec.ofChange fnOrdNextSpec)

/-- ITS FALSE NEIGHBOUR: 'it returns false'. Refute it at one input. -/
def fnOrdNextWrong : ChangeSpec := { name := "fnOrdNext", fn := fun _ => fun
  | [d1, d2] => { results := [.lit (.bool false)], args := [d1, d2] }
  | _ => none }
def FnOrdNextWrongFalsely : Prop := fnOrdNextRow.holds Try.pinned (OpenSpec.ofChange fnOrdNextWrong)

/-- 'laws.FnOrdBefore': WHATEVER THE INPUT: true; the input reads as it did. -/
def fnOrdBeforeSpec : ChangeSpec := { name := "fnOrdBefore", fn := fun _ => fun
  | [d] => { results := [.lit (.bool true)], args := [d] }
  | _ => none }
def fnOrdBeforeRow : OpenClaim := { program := "ytfclhepmakhimaa", sum := "380170722ca4c5e5c79976700ce24fa3ed6c050227c83583a4bb11260b1a9810", func := "loop.example/ordinalhydras/laws.FnOrdBefore", spec := "fnOrdBefore", recurses := true, apart := false }
def FnOrdBeforeSaid : Prop := fnOrdBeforeRow.holds Try.pinned (OpenSpec.ofChange fnOrdBeforeSpec)

/-- ITS FALSE NEIGHBOUR: 'it returns false'. Refute it at one input. -/
def fnOrdBeforeWrong : ChangeSpec := { name := "fnOrdBefore", fn := fun _ => fun
  | [d] => { results := [.lit (.bool false)], args := [d] }
  | _ => none }
def FnOrdBeforeWrongFalsely : Prop := fnOrdBeforeRow.holds Try.pinned (OpenSpec.ofChange fnOrdBeforeWrong)

/- THE SECOND FORM. 'bulk': how many values and letters a reading holds, each counted each time it is reached (what is shared counts as often as it is met; a slice's spare places count too). A statement '..UptoSaid' is the law's where the arguments, and the package variables that the reading takes, are together of bulk at most 1048576: NARROWER than '..Said'. Prove '..Said' where nothing that the law and all that it calls make is longer than what came in: it says more and counts as full. Else prove '..UptoSaid'. A law counts once. -/
mutual
def uptoBulk {H : Type} : DataW H → Nat
  | .lit (.string bytes) => bytes.length + 1
  | .lit _ => 1
  | .nil => 1
  | .ptr d => uptoBulk d + 1
  | .slice elems spare => uptoBulkAll elems + uptoBulkAll spare + 1
  | .agg parts => uptoBulkAll parts + 1
  | .iface _ d => uptoBulk d + 1
  | .map entries => uptoBulkEntries entries + 1
  | .held _ => 1
def uptoBulkAll {H : Type} : List (DataW H) → Nat
  | [] => 0
  | d :: r => uptoBulk d + uptoBulkAll r
def uptoBulkEntries {H : Type} : List (Lit × DataW H) → Nat
  | [] => 0
  | x :: r => uptoBulkEntry x + uptoBulkEntries r
def uptoBulkEntry {H : Type} : Lit × DataW H → Nat
  | (.string bytes, d) => bytes.length + uptoBulk d + 1
  | (_, d) => uptoBulk d + 1
 end
def uptoSmall : (H : Type) → List (DataW H) → Bool := fun _ ds => decide (uptoBulkAll ds ≤ 1048576)
def OpenSpec.upto (s : _root_.Go.ChangeSpec) : _root_.Go.OpenSpec := { _root_.Go.OpenSpec.ofChange s with cond := some uptoSmall }

/-- 'laws.FnExactChangeBase', WHERE WHAT IT READS IS OF BULK AT MOST 1048576: true; the input reads as it did. -/
def fnExactChangeBaseUptoRow : OpenClaim := { program := "ytfclhepmakhimaa", sum := "380170722ca4c5e5c79976700ce24fa3ed6c050227c83583a4bb11260b1a9810", func := "loop.example/ordinalhydras/laws.FnExactChangeBase", spec := "fnExactChangeBase", unfollowed := true, recurses := true, apart := false, narrowed := true }
def FnExactChangeBaseUptoSaid : Prop := fnExactChangeBaseUptoRow.holds Try.pinned (OpenSpec.upto fnExactChangeBaseSpec)

/-- 'laws.FnExactGoodsteinNext', WHERE WHAT IT READS IS OF BULK AT MOST 1048576: true; the input reads as it did. -/
def fnExactGoodsteinNextUptoRow : OpenClaim := { program := "ytfclhepmakhimaa", sum := "380170722ca4c5e5c79976700ce24fa3ed6c050227c83583a4bb11260b1a9810", func := "loop.example/ordinalhydras/laws.FnExactGoodsteinNext", spec := "fnExactGoodsteinNext", unfollowed := true, recurses := true, apart := false, narrowed := true }
def FnExactGoodsteinNextUptoSaid : Prop := fnExactGoodsteinNextUptoRow.holds Try.pinned (OpenSpec.upto fnExactGoodsteinNextSpec)

/-- 'laws.FnExactGoodsteinRun', WHERE WHAT IT READS IS OF BULK AT MOST 1048576: true; the input reads as it did. -/
def fnExactGoodsteinRunUptoRow : OpenClaim := { program := "ytfclhepmakhimaa", sum := "380170722ca4c5e5c79976700ce24fa3ed6c050227c83583a4bb11260b1a9810", func := "loop.example/ordinalhydras/laws.FnExactGoodsteinRun", spec := "fnExactGoodsteinRun", unfollowed := true, recurses := true, apart := false, narrowed := true }
def FnExactGoodsteinRunUptoSaid : Prop := fnExactGoodsteinRunUptoRow.holds Try.pinned (OpenSpec.upto fnExactGoodsteinRunSpec)

/-- 'laws.FnExactGoodsteinEnd', WHERE WHAT IT READS IS OF BULK AT MOST 1048576: true; the input reads as it did. -/
def fnExactGoodsteinEndUptoRow : OpenClaim := { program := "ytfclhepmakhimaa", sum := "380170722ca4c5e5c79976700ce24fa3ed6c050227c83583a4bb11260b1a9810", func := "loop.example/ordinalhydras/laws.FnExactGoodsteinEnd", spec := "fnExactGoodsteinEnd", unfollowed := true, recurses := true, apart := false, narrowed := true }
def FnExactGoodsteinEndUptoSaid : Prop := fnExactGoodsteinEndUptoRow.holds Try.pinned (OpenSpec.upto fnExactGoodsteinEndSpec)

/-- 'laws.FnGoodsteinRun', WHERE WHAT IT READS IS OF BULK AT MOST 1048576: true; the input reads as it did. -/
def fnGoodsteinRunUptoRow : OpenClaim := { program := "ytfclhepmakhimaa", sum := "380170722ca4c5e5c79976700ce24fa3ed6c050227c83583a4bb11260b1a9810", func := "loop.example/ordinalhydras/laws.FnGoodsteinRun", spec := "fnGoodsteinRun", unfollowed := true, recurses := true, apart := false, narrowed := true }
def FnGoodsteinRunUptoSaid : Prop := fnGoodsteinRunUptoRow.holds Try.pinned (OpenSpec.upto fnGoodsteinRunSpec)

/-- 'laws.FnGoodsteinEnd', WHERE WHAT IT READS IS OF BULK AT MOST 1048576: true; the input reads as it did. -/
def fnGoodsteinEndUptoRow : OpenClaim := { program := "ytfclhepmakhimaa", sum := "380170722ca4c5e5c79976700ce24fa3ed6c050227c83583a4bb11260b1a9810", func := "loop.example/ordinalhydras/laws.FnGoodsteinEnd", spec := "fnGoodsteinEnd", unfollowed := true, recurses := true, apart := false, narrowed := true }
def FnGoodsteinEndUptoSaid : Prop := fnGoodsteinEndUptoRow.holds Try.pinned (OpenSpec.upto fnGoodsteinEndSpec)

/-- 'laws.FnOrdCompare', WHERE WHAT IT READS IS OF BULK AT MOST 1048576: true; the input reads as it did. -/
def fnOrdCompareUptoRow : OpenClaim := { program := "ytfclhepmakhimaa", sum := "380170722ca4c5e5c79976700ce24fa3ed6c050227c83583a4bb11260b1a9810", func := "loop.example/ordinalhydras/laws.FnOrdCompare", spec := "fnOrdCompare", recurses := true, apart := false, narrowed := true }
def FnOrdCompareUptoSaid : Prop := fnOrdCompareUptoRow.holds Try.pinned (OpenSpec.upto fnOrdCompareSpec)

/-- 'laws.FnOrdNext', WHERE WHAT IT READS IS OF BULK AT MOST 1048576: true; the input reads as it did. -/
def fnOrdNextUptoRow : OpenClaim := { program := "ytfclhepmakhimaa", sum := "380170722ca4c5e5c79976700ce24fa3ed6c050227c83583a4bb11260b1a9810", func := "loop.example/ordinalhydras/laws.FnOrdNext", spec := "fnOrdNext", recurses := true, apart := false, narrowed := true }
def FnOrdNextUptoSaid : Prop := fnOrdNextUptoRow.holds Try.pinned (OpenSpec.upto fnOrdNextSpec)

/-- 'laws.FnOrdBefore', WHERE WHAT IT READS IS OF BULK AT MOST 1048576: true; the input reads as it did. -/
def fnOrdBeforeUptoRow : OpenClaim := { program := "ytfclhepmakhimaa", sum := "380170722ca4c5e5c79976700ce24fa3ed6c050227c83583a4bb11260b1a9810", func := "loop.example/ordinalhydras/laws.FnOrdBefore", spec := "fnOrdBefore", recurses := true, apart := false, narrowed := true }
def FnOrdBeforeUptoSaid : Prop := fnOrdBeforeUptoRow.holds Try.pinned (OpenSpec.upto fnOrdBeforeSpec)

end Rows
end Go.Proofs.Ytfclhepmakhimaa
