/-
  No cell of these rows narrows 'for every input' (looked for: loops, veiled, ifaces, maps, wideKeys, modest, calm, conditions, laid).
  DERIVED. THE GIVEN ROWS OF THIS SEAT. 10 by the template 'for every input the law returns true; each argument reads behind the call as it read before'; 0 by the template 'total and deterministic' (their statements: YtgcdbndnpcfcnaaTotals.lean).
  GIVEN WITH THE SEED: the statements are not yours to turn. If you find one false, say at which input.
  Laid BY PROGRAM, IN A SANDBOX (cutbox-rows.mjs): the forced cells as the released guide's own fill.sh prints them over the translation 084a5357a083145d… (all of the seat's roots in one cut). By AI agents, Wed Nov 11 2026. No macro, syntax, notation, axiom, sorry.
-/
import Derived.Test.YtgcdbndnpcfcnaaChecked
import GoSem.Claim
import GoSem.ClaimJoined
import GoSem.ClaimMapViews
import Derived.JoinedTies
import Derived.KernelRfl
namespace Go.Proofs.Ytgcdbndnpcfcnaa
/- THE CELL 'sum', in the pinned program and in every row, IS THE sha256 OF THE DUMP (.gsa) THAT YtgcdbndnpcfcnaaProg.lean LOADS. Nothing in Lean hashes anything: it is a label: what it is worth is what the hold of that sum in a sandbox is worth. -/
noncomputable def Try.pinned : Pinned := { name := "ytgcdbndnpcfcnaa", sum := "084a5357a083145d53ae833f36d5995ad1b9f38881b989e44f8fb56d171bc9ab", checked := Try.checked }
namespace Rows
def none {H : Type} : Left H := { results := [], args := [] }

/-- 'laws.FnTradeValid': WHATEVER THE INPUT: true; the input reads as it did. -/
def fnTradeValidSpec : ChangeSpec := { name := "fnTradeValid", fn := fun _ => fun
  | [d] => { results := [.lit (.bool true)], args := [d] }
  | _ => none }
def fnTradeValidRow : OpenClaim := { program := "ytgcdbndnpcfcnaa", sum := "084a5357a083145d53ae833f36d5995ad1b9f38881b989e44f8fb56d171bc9ab", func := "loop.example/ordinalhydras/laws.FnTradeValid", spec := "fnTradeValid", plainKeys := false, apart := false }
def FnTradeValidSaid : Prop := fnTradeValidRow.holds Try.pinned (OpenSpec.ofChange fnTradeValidSpec)

/-- ITS FALSE NEIGHBOUR: 'it returns false'. Refute it at one input. -/
def fnTradeValidWrong : ChangeSpec := { name := "fnTradeValid", fn := fun _ => fun
  | [d] => { results := [.lit (.bool false)], args := [d] }
  | _ => none }
def FnTradeValidWrongFalsely : Prop := fnTradeValidRow.holds Try.pinned (OpenSpec.ofChange fnTradeValidWrong)

/-- 'laws.FnTradesValid': WHATEVER THE INPUT: true; the input reads as it did. -/
def fnTradesValidSpec : ChangeSpec := { name := "fnTradesValid", fn := fun _ => fun
  | [d] => { results := [.lit (.bool true)], args := [d] }
  | _ => none }
def fnTradesValidRow : OpenClaim := { program := "ytgcdbndnpcfcnaa", sum := "084a5357a083145d53ae833f36d5995ad1b9f38881b989e44f8fb56d171bc9ab", func := "loop.example/ordinalhydras/laws.FnTradesValid", spec := "fnTradesValid", plainKeys := false, apart := false }
def FnTradesValidSaid : Prop := fnTradesValidRow.holds Try.pinned (OpenSpec.ofChange fnTradesValidSpec)

/-- ITS FALSE NEIGHBOUR: 'it returns false'. Refute it at one input. -/
def fnTradesValidWrong : ChangeSpec := { name := "fnTradesValid", fn := fun _ => fun
  | [d] => { results := [.lit (.bool false)], args := [d] }
  | _ => none }
def FnTradesValidWrongFalsely : Prop := fnTradesValidRow.holds Try.pinned (OpenSpec.ofChange fnTradesValidWrong)

/-- 'laws.FnHeapsValid': WHATEVER THE INPUT: true; the input reads as it did. -/
def fnHeapsValidSpec : ChangeSpec := { name := "fnHeapsValid", fn := fun _ => fun
  | [d] => { results := [.lit (.bool true)], args := [d] }
  | _ => none }
def fnHeapsValidRow : OpenClaim := { program := "ytgcdbndnpcfcnaa", sum := "084a5357a083145d53ae833f36d5995ad1b9f38881b989e44f8fb56d171bc9ab", func := "loop.example/ordinalhydras/laws.FnHeapsValid", spec := "fnHeapsValid", plainKeys := false, apart := false }
def FnHeapsValidSaid : Prop := fnHeapsValidRow.holds Try.pinned (OpenSpec.ofChange fnHeapsValidSpec)

/-- ITS FALSE NEIGHBOUR: 'it returns false'. Refute it at one input. -/
def fnHeapsValidWrong : ChangeSpec := { name := "fnHeapsValid", fn := fun _ => fun
  | [d] => { results := [.lit (.bool false)], args := [d] }
  | _ => none }
def FnHeapsValidWrongFalsely : Prop := fnHeapsValidRow.holds Try.pinned (OpenSpec.ofChange fnHeapsValidWrong)

/-- 'laws.FnTradeDo': WHATEVER THE INPUT: true; the input reads as it did. -/
def fnTradeDoSpec : ChangeSpec := { name := "fnTradeDo", fn := fun _ => fun
  | [d] => { results := [.lit (.bool true)], args := [d] }
  | _ => none }
def fnTradeDoRow : OpenClaim := { program := "ytgcdbndnpcfcnaa", sum := "084a5357a083145d53ae833f36d5995ad1b9f38881b989e44f8fb56d171bc9ab", func := "loop.example/ordinalhydras/laws.FnTradeDo", spec := "fnTradeDo", plainKeys := false, apart := false }
def FnTradeDoSaid : Prop := fnTradeDoRow.holds Try.pinned (OpenSpec.ofChange fnTradeDoSpec)

/-- ITS FALSE NEIGHBOUR: 'it returns false'. Refute it at one input. -/
def fnTradeDoWrong : ChangeSpec := { name := "fnTradeDo", fn := fun _ => fun
  | [d] => { results := [.lit (.bool false)], args := [d] }
  | _ => none }
def FnTradeDoWrongFalsely : Prop := fnTradeDoRow.holds Try.pinned (OpenSpec.ofChange fnTradeDoWrong)

/-- 'laws.FnHeapsOrd': WHATEVER THE INPUT: true; the input reads as it did. -/
def fnHeapsOrdSpec : ChangeSpec := { name := "fnHeapsOrd", fn := fun _ => fun
  | [d] => { results := [.lit (.bool true)], args := [d] }
  | _ => none }
def fnHeapsOrdRow : OpenClaim := { program := "ytgcdbndnpcfcnaa", sum := "084a5357a083145d53ae833f36d5995ad1b9f38881b989e44f8fb56d171bc9ab", func := "loop.example/ordinalhydras/laws.FnHeapsOrd", spec := "fnHeapsOrd", recurses := true, plainKeys := false, apart := false }
def FnHeapsOrdSaid : Prop := fnHeapsOrdRow.holds Try.pinned (OpenSpec.ofChange fnHeapsOrdSpec)

/-- ITS FALSE NEIGHBOUR: 'it returns false'. Refute it at one input. -/
def fnHeapsOrdWrong : ChangeSpec := { name := "fnHeapsOrd", fn := fun _ => fun
  | [d] => { results := [.lit (.bool false)], args := [d] }
  | _ => none }
def FnHeapsOrdWrongFalsely : Prop := fnHeapsOrdRow.holds Try.pinned (OpenSpec.ofChange fnHeapsOrdWrong)

/-- 'laws.FnTradesEnd': WHATEVER THE INPUT: true; the input reads as it did. -/
def fnTradesEndSpec : ChangeSpec := { name := "fnTradesEnd", fn := fun _ => fun
  | [d1, d2] => { results := [.lit (.bool true)], args := [d1, d2] }
  | _ => none }
def fnTradesEndRow : OpenClaim := { program := "ytgcdbndnpcfcnaa", sum := "084a5357a083145d53ae833f36d5995ad1b9f38881b989e44f8fb56d171bc9ab", func := "loop.example/ordinalhydras/laws.FnTradesEnd", spec := "fnTradesEnd", unfollowed := true, recurses := true, plainKeys := false, apart := false }
def FnTradesEndSaid : Prop := fnTradesEndRow.holds Try.pinned (OpenSpec.ofChange fnTradesEndSpec)

/-- ITS FALSE NEIGHBOUR: 'it returns false'. Refute it at one input. -/
def fnTradesEndWrong : ChangeSpec := { name := "fnTradesEnd", fn := fun _ => fun
  | [d1, d2] => { results := [.lit (.bool false)], args := [d1, d2] }
  | _ => none }
def FnTradesEndWrongFalsely : Prop := fnTradesEndRow.holds Try.pinned (OpenSpec.ofChange fnTradesEndWrong)

/-- 'laws.FnTradesRun': WHATEVER THE INPUT: true; the input reads as it did. -/
def fnTradesRunSpec : ChangeSpec := { name := "fnTradesRun", fn := fun _ => fun
  | [d] => { results := [.lit (.bool true)], args := [d] }
  | _ => none }
def fnTradesRunRow : OpenClaim := { program := "ytgcdbndnpcfcnaa", sum := "084a5357a083145d53ae833f36d5995ad1b9f38881b989e44f8fb56d171bc9ab", func := "loop.example/ordinalhydras/laws.FnTradesRun", spec := "fnTradesRun", unfollowed := true, recurses := true, plainKeys := false, apart := false }
def FnTradesRunSaid : Prop := fnTradesRunRow.holds Try.pinned (OpenSpec.ofChange fnTradesRunSpec)

/-- ITS FALSE NEIGHBOUR: 'it returns false'. Refute it at one input. -/
def fnTradesRunWrong : ChangeSpec := { name := "fnTradesRun", fn := fun _ => fun
  | [d] => { results := [.lit (.bool false)], args := [d] }
  | _ => none }
def FnTradesRunWrongFalsely : Prop := fnTradesRunRow.holds Try.pinned (OpenSpec.ofChange fnTradesRunWrong)

/-- 'laws.FnHeapsReached': WHATEVER THE INPUT: true; the input reads as it did. -/
def fnHeapsReachedSpec : ChangeSpec := { name := "fnHeapsReached", fn := fun _ => fun
  | [d] => { results := [.lit (.bool true)], args := [d] }
  | _ => none }
def fnHeapsReachedRow : OpenClaim := { program := "ytgcdbndnpcfcnaa", sum := "084a5357a083145d53ae833f36d5995ad1b9f38881b989e44f8fb56d171bc9ab", func := "loop.example/ordinalhydras/laws.FnHeapsReached", spec := "fnHeapsReached", unfollowed := true, recurses := true, plainKeys := false, apart := false }
def FnHeapsReachedSaid : Prop := fnHeapsReachedRow.holds Try.pinned (OpenSpec.ofChange fnHeapsReachedSpec)

/-- ITS FALSE NEIGHBOUR: 'it returns false'. Refute it at one input. -/
def fnHeapsReachedWrong : ChangeSpec := { name := "fnHeapsReached", fn := fun _ => fun
  | [d] => { results := [.lit (.bool false)], args := [d] }
  | _ => none }
def FnHeapsReachedWrongFalsely : Prop := fnHeapsReachedRow.holds Try.pinned (OpenSpec.ofChange fnHeapsReachedWrong)

/-- 'laws.FnLongestTrades': WHATEVER THE INPUT: true; the input reads as it did. -/
def fnLongestTradesSpec : ChangeSpec := { name := "fnLongestTrades", fn := fun _ => fun
  | [d] => { results := [.lit (.bool true)], args := [d] }
  | _ => none }
def fnLongestTradesRow : OpenClaim := { program := "ytgcdbndnpcfcnaa", sum := "084a5357a083145d53ae833f36d5995ad1b9f38881b989e44f8fb56d171bc9ab", func := "loop.example/ordinalhydras/laws.FnLongestTrades", spec := "fnLongestTrades", unfollowed := true, recurses := true, plainKeys := false, apart := false }
def FnLongestTradesSaid : Prop := fnLongestTradesRow.holds Try.pinned (OpenSpec.ofChange fnLongestTradesSpec)

/-- ITS FALSE NEIGHBOUR: 'it returns false'. Refute it at one input. -/
def fnLongestTradesWrong : ChangeSpec := { name := "fnLongestTrades", fn := fun _ => fun
  | [d] => { results := [.lit (.bool false)], args := [d] }
  | _ => none }
def FnLongestTradesWrongFalsely : Prop := fnLongestTradesRow.holds Try.pinned (OpenSpec.ofChange fnLongestTradesWrong)

/-- 'laws.FnOrdCompare': WHATEVER THE INPUT: true; the input reads as it did. -/
def fnOrdCompareSpec : ChangeSpec := { name := "fnOrdCompare", fn := fun _ => fun
  | [d1, d2] => { results := [.lit (.bool true)], args := [d1, d2] }
  | _ => none }
def fnOrdCompareRow : OpenClaim := { program := "ytgcdbndnpcfcnaa", sum := "084a5357a083145d53ae833f36d5995ad1b9f38881b989e44f8fb56d171bc9ab", func := "loop.example/ordinalhydras/laws.FnOrdCompare", spec := "fnOrdCompare", recurses := true, plainKeys := false, apart := false }
def FnOrdCompareSaid : Prop := fnOrdCompareRow.holds Try.pinned (OpenSpec.ofChange fnOrdCompareSpec)

/-- ITS FALSE NEIGHBOUR: 'it returns false'. Refute it at one input. -/
def fnOrdCompareWrong : ChangeSpec := { name := "fnOrdCompare", fn := fun _ => fun
  | [d1, d2] => { results := [.lit (.bool false)], args := [d1, d2] }
  | _ => none }
def FnOrdCompareWrongFalsely : Prop := fnOrdCompareRow.holds Try.pinned (OpenSpec.ofChange fnOrdCompareWrong)

/- THE SECOND FORM. 'bulk': how many values and letters a reading holds, each counted each time it is reached (what is shared counts as often as it is met; a slice's spare places count too). A statement '..UptoSaid' is the law's where the arguments, and the package variables that the reading takes, are together of bulk at most 1048576: NARROWER than '..Said'. Prove '..Said' where nothing that the law and all that it calls make is longer than what came in: it says more and counts as full. Else prove '..UptoSaid'. A law counts once. -/
mutual
def uptoBulk {H : Type} : DataW H → Nat
  | .lit (.string bytes) => bytes.length + 1
  | .lit _ => 1
  | .nil => 1
  | .ptr d => uptoBulk d + 1
  | .slice elems spare => uptoBulkAll elems + uptoBulkAll spare + 1
  | .agg parts => uptoBulkAll parts + 1
  | .iface _ d => uptoBulk d + 1
  | .map entries => uptoBulkEntries entries + 1
  | .held _ => 1
def uptoBulkAll {H : Type} : List (DataW H) → Nat
  | [] => 0
  | d :: r => uptoBulk d + uptoBulkAll r
def uptoBulkEntries {H : Type} : List (Lit × DataW H) → Nat
  | [] => 0
  | x :: r => uptoBulkEntry x + uptoBulkEntries r
def uptoBulkEntry {H : Type} : Lit × DataW H → Nat
  | (.string bytes, d) => bytes.length + uptoBulk d + 1
  | (_, d) => uptoBulk d + 1
 end
def uptoSmall : (H : Type) → List (DataW H) → Bool := fun _ ds => decide (uptoBulkAll ds ≤ 1048576)
def OpenSpec.upto (s : _root_.Go.ChangeSpec) : _root_.Go.OpenSpec := { _root_.Go.OpenSpec.ofChange s with cond := some uptoSmall }

/-- 'laws.FnTradeValid', WHERE WHAT IT READS IS OF BULK AT MOST 1048576: true; the input reads as it did. -/
def fnTradeValidUptoRow : OpenClaim := { program := "ytgcdbndnpcfcnaa", sum := "084a5357a083145d53ae833f36d5995ad1b9f38881b989e44f8fb56d171bc9ab", func := "loop.example/ordinalhydras/laws.FnTradeValid", spec := "fnTradeValid", plainKeys := false, apart := false, narrowed := true }
def FnTradeValidUptoSaid : Prop := fnTradeValidUptoRow.holds Try.pinned (OpenSpec.upto fnTradeValidSpec)

/-- 'laws.FnTradesValid', WHERE WHAT IT READS IS OF BULK AT MOST 1048576: true; the input reads as it did. -/
def fnTradesValidUptoRow : OpenClaim := { program := "ytgcdbndnpcfcnaa", sum := "084a5357a083145d53ae833f36d5995ad1b9f38881b989e44f8fb56d171bc9ab", func := "loop.example/ordinalhydras/laws.FnTradesValid", spec := "fnTradesValid", plainKeys := false, apart := false, narrowed := true }
def FnTradesValidUptoSaid : Prop := fnTradesValidUptoRow.holds Try.pinned (OpenSpec.upto fnTradesValidSpec)

/-- 'laws.FnHeapsValid', WHERE WHAT IT READS IS OF BULK AT MOST 1048576: true; the input reads as it did. -/
def fnHeapsValidUptoRow : OpenClaim := { program := "ytgcdbndnpcfcnaa", sum := "084a5357a083145d53ae833f36d5995ad1b9f38881b989e44f8fb56d171bc9ab", func := "loop.example/ordinalhydras/laws.FnHeapsValid", spec := "fnHeapsValid", plainKeys := false, apart := false, narrowed := true }
def FnHeapsValidUptoSaid : Prop := fnHeapsValidUptoRow.holds Try.pinned (OpenSpec.upto fnHeapsValidSpec)

/-- 'laws.FnTradeDo', WHERE WHAT IT READS IS OF BULK AT MOST 1048576: true; the input reads as it did. -/
def fnTradeDoUptoRow : OpenClaim := { program := "ytgcdbndnpcfcnaa", sum := "084a5357a083145d53ae833f36d5995ad1b9f38881b989e44f8fb56d171bc9ab", func := "loop.example/ordinalhydras/laws.FnTradeDo", spec := "fnTradeDo", plainKeys := false, apart := false, narrowed := true }
def FnTradeDoUptoSaid : Prop := fnTradeDoUptoRow.holds Try.pinned (OpenSpec.upto fnTradeDoSpec)

/-- 'laws.FnHeapsOrd', WHERE WHAT IT READS IS OF BULK AT MOST 1048576: true; the input reads as it did. -/
def fnHeapsOrdUptoRow : OpenClaim := { program := "ytgcdbndnpcfcnaa", sum := "084a5357a083145d53ae833f36d5995ad1b9f38881b989e44f8fb56d171bc9ab", func := "loop.example/ordinalhydras/laws.FnHeapsOrd", spec := "fnHeapsOrd", recurses := true, plainKeys := false, apart := false, narrowed := true }
def FnHeapsOrdUptoSaid : Prop := fnHeapsOrdUptoRow.holds Try.pinned (OpenSpec.upto fnHeapsOrdSpec)

/-- 'laws.FnTradesEnd', WHERE WHAT IT READS IS OF BULK AT MOST 1048576: true; the input reads as it did. -/
def fnTradesEndUptoRow : OpenClaim := { program := "ytgcdbndnpcfcnaa", sum := "084a5357a083145d53ae833f36d5995ad1b9f38881b989e44f8fb56d171bc9ab", func := "loop.example/ordinalhydras/laws.FnTradesEnd", spec := "fnTradesEnd", unfollowed := true, recurses := true, plainKeys := false, apart := false, narrowed := true }
def FnTradesEndUptoSaid : Prop := fnTradesEndUptoRow.holds Try.pinned (OpenSpec.upto fnTradesEndSpec)

/-- 'laws.FnTradesRun', WHERE WHAT IT READS IS OF BULK AT MOST 1048576: true; the input reads as it did. -/
def fnTradesRunUptoRow : OpenClaim := { program := "ytgcdbndnpcfcnaa", sum := "084a5357a083145d53ae833f36d5995ad1b9f38881b989e44f8fb56d171bc9ab", func := "loop.example/ordinalhydras/laws.FnTradesRun", spec := "fnTradesRun", unfollowed := true, recurses := true, plainKeys := false, apart := false, narrowed := true }
def FnTradesRunUptoSaid : Prop := fnTradesRunUptoRow.holds Try.pinned (OpenSpec.upto fnTradesRunSpec)

/-- 'laws.FnHeapsReached', WHERE WHAT IT READS IS OF BULK AT MOST 1048576: true; the input reads as it did. -/
def fnHeapsReachedUptoRow : OpenClaim := { program := "ytgcdbndnpcfcnaa", sum := "084a5357a083145d53ae833f36d5995ad1b9f38881b989e44f8fb56d171bc9ab", func := "loop.example/ordinalhydras/laws.FnHeapsReached", spec := "fnHeapsReached", unfollowed := true, recurses := true, plainKeys := false, apart := false, narrowed := true }
def FnHeapsReachedUptoSaid : Prop := fnHeapsReachedUptoRow.holds Try.pinned (OpenSpec.upto fnHeapsReachedSpec)

/-- 'laws.FnLongestTrades', WHERE WHAT IT READS IS OF BULK AT MOST 1048576: true; the input reads as it did. -/
def fnLongestTradesUptoRow : OpenClaim := { program := "ytgcdbndnpcfcnaa", sum := "084a5357a083145d53ae833f36d5995ad1b9f38881b989e44f8fb56d171bc9ab", func := "loop.example/ordinalhydras/laws.FnLongestTrades", spec := "fnLongestTrades", unfollowed := true, recurses := true, plainKeys := false, apart := false, narrowed := true }
def FnLongestTradesUptoSaid : Prop := fnLongestTradesUptoRow.holds Try.pinned (OpenSpec.upto fnLongestTradesSpec)

/-- 'laws.FnOrdCompare', WHERE WHAT IT READS IS OF BULK AT MOST 1048576: true; the input reads as it did. -/
def fnOrdCompareUptoRow : OpenClaim := { program := "ytgcdbndnpcfcnaa", sum := "084a5357a083145d53ae833f36d5995ad1b9f38881b989e44f8fb56d171bc9ab", func := "loop.example/ordinalhydras/laws.FnOrdCompare", spec := "fnOrdCompare", recurses := true, plainKeys := false, apart := false, narrowed := true }
def FnOrdCompareUptoSaid : Prop := fnOrdCompareUptoRow.holds Try.pinned (OpenSpec.upto fnOrdCompareSpec)

end Rows
end Go.Proofs.Ytgcdbndnpcfcnaa
