/-
  No cell of these rows narrows 'for every input' (looked for: loops, veiled, ifaces, maps, wideKeys, modest, calm, conditions, laid).
  DERIVED. THE GIVEN ROWS OF THIS SEAT. 10 by the template 'for every input the law returns true; each argument reads behind the call as it read before'; 0 by the template 'total and deterministic' (their statements: YtjkkopjmpmbapaaTotals.lean).
  GIVEN WITH THE SEED: the statements are not yours to turn. If you find one false, say at which input.
  Laid BY PROGRAM, IN A SANDBOX (cutbox-rows.mjs): the forced cells as the released guide's own fill.sh prints them over the translation 505107dc71495db6… (all of the seat's roots in one cut). By AI agents, Wed Nov 11 2026. No macro, syntax, notation, axiom, sorry.
-/
import Derived.Test.YtjkkopjmpmbapaaChecked
import GoSem.Claim
import GoSem.ClaimJoined
import GoSem.ClaimMapViews
import Derived.JoinedTies
import Derived.KernelRfl
namespace Go.Proofs.Ytjkkopjmpmbapaa
/- THE CELL 'sum', in the pinned program and in every row, IS THE sha256 OF THE DUMP (.gsa) THAT YtjkkopjmpmbapaaProg.lean LOADS. Nothing in Lean hashes anything: it is a label: what it is worth is what the hold of that sum in a sandbox is worth. -/
noncomputable def Try.pinned : Pinned := { name := "ytjkkopjmpmbapaa", sum := "505107dc71495db6e56b4ea3e1d402190cc37dcd9178882b2ebad8d058868cee", checked := Try.checked }
namespace Rows
def none {H : Type} : Left H := { results := [], args := [] }

/-- 'laws.FnExactTradeValid': WHATEVER THE INPUT: true; the input reads as it did. -/
def fnExactTradeValidSpec : ChangeSpec := { name := "fnExactTradeValid", fn := fun _ => fun
  | [d] => { results := [.lit (.bool true)], args := [d] }
  | _ => none }
def fnExactTradeValidRow : OpenClaim := { program := "ytjkkopjmpmbapaa", sum := "505107dc71495db6e56b4ea3e1d402190cc37dcd9178882b2ebad8d058868cee", func := "loop.example/ordinalhydras/laws.FnExactTradeValid", spec := "fnExactTradeValid", plainKeys := false, apart := false }
def FnExactTradeValidSaid : Prop := fnExactTradeValidRow.holds Try.pinned (OpenSpec.ofChange fnExactTradeValidSpec)

/-- ITS FALSE NEIGHBOUR: 'it returns false'. Refute it at one input. -/
def fnExactTradeValidWrong : ChangeSpec := { name := "fnExactTradeValid", fn := fun _ => fun
  | [d] => { results := [.lit (.bool false)], args := [d] }
  | _ => none }
def FnExactTradeValidWrongFalsely : Prop := fnExactTradeValidRow.holds Try.pinned (OpenSpec.ofChange fnExactTradeValidWrong)

/-- 'laws.FnExactTradesValid': WHATEVER THE INPUT: true; the input reads as it did. -/
def fnExactTradesValidSpec : ChangeSpec := { name := "fnExactTradesValid", fn := fun _ => fun
  | [d] => { results := [.lit (.bool true)], args := [d] }
  | _ => none }
def fnExactTradesValidRow : OpenClaim := { program := "ytjkkopjmpmbapaa", sum := "505107dc71495db6e56b4ea3e1d402190cc37dcd9178882b2ebad8d058868cee", func := "loop.example/ordinalhydras/laws.FnExactTradesValid", spec := "fnExactTradesValid", plainKeys := false, apart := false }
def FnExactTradesValidSaid : Prop := fnExactTradesValidRow.holds Try.pinned (OpenSpec.ofChange fnExactTradesValidSpec)

/-- ITS FALSE NEIGHBOUR: 'it returns false'. Refute it at one input. -/
def fnExactTradesValidWrong : ChangeSpec := { name := "fnExactTradesValid", fn := fun _ => fun
  | [d] => { results := [.lit (.bool false)], args := [d] }
  | _ => none }
def FnExactTradesValidWrongFalsely : Prop := fnExactTradesValidRow.holds Try.pinned (OpenSpec.ofChange fnExactTradesValidWrong)

/-- 'laws.FnExactHeapsValid': WHATEVER THE INPUT: true; the input reads as it did. -/
def fnExactHeapsValidSpec : ChangeSpec := { name := "fnExactHeapsValid", fn := fun _ => fun
  | [d] => { results := [.lit (.bool true)], args := [d] }
  | _ => none }
def fnExactHeapsValidRow : OpenClaim := { program := "ytjkkopjmpmbapaa", sum := "505107dc71495db6e56b4ea3e1d402190cc37dcd9178882b2ebad8d058868cee", func := "loop.example/ordinalhydras/laws.FnExactHeapsValid", spec := "fnExactHeapsValid", plainKeys := false, apart := false }
def FnExactHeapsValidSaid : Prop := fnExactHeapsValidRow.holds Try.pinned (OpenSpec.ofChange fnExactHeapsValidSpec)

/-- ITS FALSE NEIGHBOUR: 'it returns false'. Refute it at one input. -/
def fnExactHeapsValidWrong : ChangeSpec := { name := "fnExactHeapsValid", fn := fun _ => fun
  | [d] => { results := [.lit (.bool false)], args := [d] }
  | _ => none }
def FnExactHeapsValidWrongFalsely : Prop := fnExactHeapsValidRow.holds Try.pinned (OpenSpec.ofChange fnExactHeapsValidWrong)

/-- 'laws.FnExactTradeDo': WHATEVER THE INPUT: true; the input reads as it did. -/
def fnExactTradeDoSpec : ChangeSpec := { name := "fnExactTradeDo", fn := fun _ => fun
  | [d1, d2] => { results := [.lit (.bool true)], args := [d1, d2] }
  | _ => none }
def fnExactTradeDoRow : OpenClaim := { program := "ytjkkopjmpmbapaa", sum := "505107dc71495db6e56b4ea3e1d402190cc37dcd9178882b2ebad8d058868cee", func := "loop.example/ordinalhydras/laws.FnExactTradeDo", spec := "fnExactTradeDo", plainKeys := false, apart := false }
def FnExactTradeDoSaid : Prop := fnExactTradeDoRow.holds Try.pinned (OpenSpec.ofChange fnExactTradeDoSpec)

/-- ITS FALSE NEIGHBOUR: 'it returns false'. Refute it at one input. -/
def fnExactTradeDoWrong : ChangeSpec := { name := "fnExactTradeDo", fn := fun _ => fun
  | [d1, d2] => { results := [.lit (.bool false)], args := [d1, d2] }
  | _ => none }
def FnExactTradeDoWrongFalsely : Prop := fnExactTradeDoRow.holds Try.pinned (OpenSpec.ofChange fnExactTradeDoWrong)

/-- 'laws.FnExactHeapsOrd': WHATEVER THE INPUT: true; the input reads as it did. -/
def fnExactHeapsOrdSpec : ChangeSpec := { name := "fnExactHeapsOrd", fn := fun _ => fun
  | [d1, d2] => { results := [.lit (.bool true)], args := [d1, d2] }
  | _ => none }
def fnExactHeapsOrdRow : OpenClaim := { program := "ytjkkopjmpmbapaa", sum := "505107dc71495db6e56b4ea3e1d402190cc37dcd9178882b2ebad8d058868cee", func := "loop.example/ordinalhydras/laws.FnExactHeapsOrd", spec := "fnExactHeapsOrd", recurses := true, plainKeys := false, apart := false }
def FnExactHeapsOrdSaid : Prop := fnExactHeapsOrdRow.holds Try.pinned (OpenSpec.ofChange fnExactHeapsOrdSpec)

/-- ITS FALSE NEIGHBOUR: 'it returns false'. Refute it at one input. -/
def fnExactHeapsOrdWrong : ChangeSpec := { name := "fnExactHeapsOrd", fn := fun _ => fun
  | [d1, d2] => { results := [.lit (.bool false)], args := [d1, d2] }
  | _ => none }
def FnExactHeapsOrdWrongFalsely : Prop := fnExactHeapsOrdRow.holds Try.pinned (OpenSpec.ofChange fnExactHeapsOrdWrong)

/-- 'laws.FnExactTradesEnd': WHATEVER THE INPUT: true; the input reads as it did. -/
def fnExactTradesEndSpec : ChangeSpec := { name := "fnExactTradesEnd", fn := fun _ => fun
  | [d1, d2] => { results := [.lit (.bool true)], args := [d1, d2] }
  | _ => none }
def fnExactTradesEndRow : OpenClaim := { program := "ytjkkopjmpmbapaa", sum := "505107dc71495db6e56b4ea3e1d402190cc37dcd9178882b2ebad8d058868cee", func := "loop.example/ordinalhydras/laws.FnExactTradesEnd", spec := "fnExactTradesEnd", recurses := true, plainKeys := false, apart := false }
def FnExactTradesEndSaid : Prop := fnExactTradesEndRow.holds Try.pinned (OpenSpec.ofChange fnExactTradesEndSpec)

/-- ITS FALSE NEIGHBOUR: 'it returns false'. Refute it at one input. -/
def fnExactTradesEndWrong : ChangeSpec := { name := "fnExactTradesEnd", fn := fun _ => fun
  | [d1, d2] => { results := [.lit (.bool false)], args := [d1, d2] }
  | _ => none }
def FnExactTradesEndWrongFalsely : Prop := fnExactTradesEndRow.holds Try.pinned (OpenSpec.ofChange fnExactTradesEndWrong)

/-- 'laws.FnExactTradesRun': WHATEVER THE INPUT: true; the input reads as it did. -/
def fnExactTradesRunSpec : ChangeSpec := { name := "fnExactTradesRun", fn := fun _ => fun
  | [d1, d2, d3] => { results := [.lit (.bool true)], args := [d1, d2, d3] }
  | _ => none }
def fnExactTradesRunRow : OpenClaim := { program := "ytjkkopjmpmbapaa", sum := "505107dc71495db6e56b4ea3e1d402190cc37dcd9178882b2ebad8d058868cee", func := "loop.example/ordinalhydras/laws.FnExactTradesRun", spec := "fnExactTradesRun", plainKeys := false, apart := false }
def FnExactTradesRunSaid : Prop := fnExactTradesRunRow.holds Try.pinned (OpenSpec.ofChange fnExactTradesRunSpec)

/-- ITS FALSE NEIGHBOUR: 'it returns false'. Refute it at one input. -/
def fnExactTradesRunWrong : ChangeSpec := { name := "fnExactTradesRun", fn := fun _ => fun
  | [d1, d2, d3] => { results := [.lit (.bool false)], args := [d1, d2, d3] }
  | _ => none }
def FnExactTradesRunWrongFalsely : Prop := fnExactTradesRunRow.holds Try.pinned (OpenSpec.ofChange fnExactTradesRunWrong)

/-- 'laws.FnExactHeapsReached': WHATEVER THE INPUT: true; the input reads as it did. -/
def fnExactHeapsReachedSpec : ChangeSpec := { name := "fnExactHeapsReached", fn := fun _ => fun
  | [d1, d2] => { results := [.lit (.bool true)], args := [d1, d2] }
  | _ => none }
def fnExactHeapsReachedRow : OpenClaim := { program := "ytjkkopjmpmbapaa", sum := "505107dc71495db6e56b4ea3e1d402190cc37dcd9178882b2ebad8d058868cee", func := "loop.example/ordinalhydras/laws.FnExactHeapsReached", spec := "fnExactHeapsReached", unfollowed := true, recurses := true, plainKeys := false, apart := false }
def FnExactHeapsReachedSaid : Prop := fnExactHeapsReachedRow.holds Try.pinned (OpenSpec.ofChange fnExactHeapsReachedSpec)

/-- ITS FALSE NEIGHBOUR: 'it returns false'. Refute it at one input. -/
def fnExactHeapsReachedWrong : ChangeSpec := { name := "fnExactHeapsReached", fn := fun _ => fun
  | [d1, d2] => { results := [.lit (.bool false)], args := [d1, d2] }
  | _ => none }
def FnExactHeapsReachedWrongFalsely : Prop := fnExactHeapsReachedRow.holds Try.pinned (OpenSpec.ofChange fnExactHeapsReachedWrong)

/-- 'laws.FnExactLongestTrades': WHATEVER THE INPUT: true; the input reads as it did. -/
def fnExactLongestTradesSpec : ChangeSpec := { name := "fnExactLongestTrades", fn := fun _ => fun
  | [d1, d2] => { results := [.lit (.bool true)], args := [d1, d2] }
  | _ => none }
def fnExactLongestTradesRow : OpenClaim := { program := "ytjkkopjmpmbapaa", sum := "505107dc71495db6e56b4ea3e1d402190cc37dcd9178882b2ebad8d058868cee", func := "loop.example/ordinalhydras/laws.FnExactLongestTrades", spec := "fnExactLongestTrades", unfollowed := true, recurses := true, plainKeys := false, apart := false }
def FnExactLongestTradesSaid : Prop := fnExactLongestTradesRow.holds Try.pinned (OpenSpec.ofChange fnExactLongestTradesSpec)

/-- ITS FALSE NEIGHBOUR: 'it returns false'. Refute it at one input. -/
def fnExactLongestTradesWrong : ChangeSpec := { name := "fnExactLongestTrades", fn := fun _ => fun
  | [d1, d2] => { results := [.lit (.bool false)], args := [d1, d2] }
  | _ => none }
def FnExactLongestTradesWrongFalsely : Prop := fnExactLongestTradesRow.holds Try.pinned (OpenSpec.ofChange fnExactLongestTradesWrong)

/-- 'laws.FnExactOrdCompare': WHATEVER THE INPUT: true; the input reads as it did. -/
def fnExactOrdCompareSpec : ChangeSpec := { name := "fnExactOrdCompare", fn := fun _ => fun
  | [d1, d2] => { results := [.lit (.bool true)], args := [d1, d2] }
  | _ => none }
def fnExactOrdCompareRow : OpenClaim := { program := "ytjkkopjmpmbapaa", sum := "505107dc71495db6e56b4ea3e1d402190cc37dcd9178882b2ebad8d058868cee", func := "loop.example/ordinalhydras/laws.FnExactOrdCompare", spec := "fnExactOrdCompare", recurses := true, plainKeys := false, apart := false }
def FnExactOrdCompareSaid : Prop := fnExactOrdCompareRow.holds Try.pinned (OpenSpec.ofChange fnExactOrdCompareSpec)

/-- ITS FALSE NEIGHBOUR: 'it returns false'. Refute it at one input. -/
def fnExactOrdCompareWrong : ChangeSpec := { name := "fnExactOrdCompare", fn := fun _ => fun
  | [d1, d2] => { results := [.lit (.bool false)], args := [d1, d2] }
  | _ => none }
def FnExactOrdCompareWrongFalsely : Prop := fnExactOrdCompareRow.holds Try.pinned (OpenSpec.ofChange fnExactOrdCompareWrong)

/- THE SECOND FORM. 'bulk': how many values and letters a reading holds, each counted each time it is reached (what is shared counts as often as it is met; a slice's spare places count too). A statement '..UptoSaid' is the law's where the arguments, and the package variables that the reading takes, are together of bulk at most 1048576: NARROWER than '..Said'. Prove '..Said' where nothing that the law and all that it calls make is longer than what came in: it says more and counts as full. Else prove '..UptoSaid'. A law counts once. -/
mutual
def uptoBulk {H : Type} : DataW H → Nat
  | .lit (.string bytes) => bytes.length + 1
  | .lit _ => 1
  | .nil => 1
  | .ptr d => uptoBulk d + 1
  | .slice elems spare => uptoBulkAll elems + uptoBulkAll spare + 1
  | .agg parts => uptoBulkAll parts + 1
  | .iface _ d => uptoBulk d + 1
  | .map entries => uptoBulkEntries entries + 1
  | .held _ => 1
def uptoBulkAll {H : Type} : List (DataW H) → Nat
  | [] => 0
  | d :: r => uptoBulk d + uptoBulkAll r
def uptoBulkEntries {H : Type} : List (Lit × DataW H) → Nat
  | [] => 0
  | x :: r => uptoBulkEntry x + uptoBulkEntries r
def uptoBulkEntry {H : Type} : Lit × DataW H → Nat
  | (.string bytes, d) => bytes.length + uptoBulk d + 1
  | (_, d) => uptoBulk d + 1
 end
def uptoSmall : (H : Type) → List (DataW H) → Bool := fun _ ds => decide (uptoBulkAll ds ≤ 1048576)
def OpenSpec.upto (s : _root_.Go.ChangeSpec) : _root_.Go.OpenSpec := { _root_.Go.OpenSpec.ofChange s with cond := some uptoSmall }

/-- 'laws.FnExactTradeValid', WHERE WHAT IT READS IS OF BULK AT MOST 1048576: true; the input reads as it did. -/
def fnExactTradeValidUptoRow : OpenClaim := { program := "ytjkkopjmpmbapaa", sum := "505107dc71495db6e56b4ea3e1d402190cc37dcd9178882b2ebad8d058868cee", func := "loop.example/ordinalhydras/laws.FnExactTradeValid", spec := "fnExactTradeValid", plainKeys := false, apart := false, narrowed := true }
def FnExactTradeValidUptoSaid : Prop := fnExactTradeValidUptoRow.holds Try.pinned (OpenSpec.upto fnExactTradeValidSpec)

/-- 'laws.FnExactTradesValid', WHERE WHAT IT READS IS OF BULK AT MOST 1048576: true; the input reads as it did. -/
def fnExactTradesValidUptoRow : OpenClaim := { program := "ytjkkopjmpmbapaa", sum := "505107dc71495db6e56b4ea3e1d402190cc37dcd9178882b2ebad8d058868cee", func := "loop.example/ordinalhydras/laws.FnExactTradesValid", spec := "fnExactTradesValid", plainKeys := false, apart := false, narrowed := true }
def FnExactTradesValidUptoSaid : Prop := fnExactTradesValidUptoRow.holds Try.pinned (OpenSpec.upto fnExactTradesValidSpec)

/-- 'laws.FnExactHeapsValid', WHERE WHAT IT READS IS OF BULK AT MOST 1048576: true; the input reads as it did. -/
def fnExactHeapsValidUptoRow : OpenClaim := { program := "ytjkkopjmpmbapaa", sum := "505107dc71495db6e56b4ea3e1d402190cc37dcd9178882b2ebad8d058868cee", func := "loop.example/ordinalhydras/laws.FnExactHeapsValid", spec := "fnExactHeapsValid", plainKeys := false, apart := false, narrowed := true }
def FnExactHeapsValidUptoSaid : Prop := fnExactHeapsValidUptoRow.holds Try.pinned (OpenSpec.upto fnExactHeapsValidSpec)

/-- 'laws.FnExactTradeDo', WHERE WHAT IT READS IS OF BULK AT MOST 1048576: true; the input reads as it did. -/
def fnExactTradeDoUptoRow : OpenClaim := { program := "ytjkkopjmpmbapaa", sum := "505107dc71495db6e56b4ea3e1d402190cc37dcd9178882b2ebad8d058868cee", func := "loop.example/ordinalhydras/laws.FnExactTradeDo", spec := "fnExactTradeDo", plainKeys := false, apart := false, narrowed := true }
def FnExactTradeDoUptoSaid : Prop := fnExactTradeDoUptoRow.holds Try.pinned (OpenSpec.upto fnExactTradeDoSpec)

/-- 'laws.FnExactHeapsOrd', WHERE WHAT IT READS IS OF BULK AT MOST 1048576: true; the input reads as it did. -/
def fnExactHeapsOrdUptoRow : OpenClaim := { program := "ytjkkopjmpmbapaa", sum := "505107dc71495db6e56b4ea3e1d402190cc37dcd9178882b2ebad8d058868cee", func := "loop.example/ordinalhydras/laws.FnExactHeapsOrd", spec := "fnExactHeapsOrd", recurses := true, plainKeys := false, apart := false, narrowed := true }
def FnExactHeapsOrdUptoSaid : Prop := fnExactHeapsOrdUptoRow.holds Try.pinned (OpenSpec.upto fnExactHeapsOrdSpec)

/-- 'laws.FnExactTradesEnd', WHERE WHAT IT READS IS OF BULK AT MOST 1048576: true; the input reads as it did. -/
def fnExactTradesEndUptoRow : OpenClaim := { program := "ytjkkopjmpmbapaa", sum := "505107dc71495db6e56b4ea3e1d402190cc37dcd9178882b2ebad8d058868cee", func := "loop.example/ordinalhydras/laws.FnExactTradesEnd", spec := "fnExactTradesEnd", recurses := true, plainKeys := false, apart := false, narrowed := true }
def FnExactTradesEndUptoSaid : Prop := fnExactTradesEndUptoRow.holds Try.pinned (OpenSpec.upto fnExactTradesEndSpec)

/-- 'laws.FnExactTradesRun', WHERE WHAT IT READS IS OF BULK AT MOST 1048576: true; the input reads as it did. -/
def fnExactTradesRunUptoRow : OpenClaim := { program := "ytjkkopjmpmbapaa", sum := "505107dc71495db6e56b4ea3e1d402190cc37dcd9178882b2ebad8d058868cee", func := "loop.example/ordinalhydras/laws.FnExactTradesRun", spec := "fnExactTradesRun", plainKeys := false, apart := false, narrowed := true }
def FnExactTradesRunUptoSaid : Prop := fnExactTradesRunUptoRow.holds Try.pinned (OpenSpec.upto fnExactTradesRunSpec)

/-- 'laws.FnExactHeapsReached', WHERE WHAT IT READS IS OF BULK AT MOST 1048576: true; the input reads as it did. -/
def fnExactHeapsReachedUptoRow : OpenClaim := { program := "ytjkkopjmpmbapaa", sum := "505107dc71495db6e56b4ea3e1d402190cc37dcd9178882b2ebad8d058868cee", func := "loop.example/ordinalhydras/laws.FnExactHeapsReached", spec := "fnExactHeapsReached", unfollowed := true, recurses := true, plainKeys := false, apart := false, narrowed := true }
def FnExactHeapsReachedUptoSaid : Prop := fnExactHeapsReachedUptoRow.holds Try.pinned (OpenSpec.upto fnExactHeapsReachedSpec)

/-- 'laws.FnExactLongestTrades', WHERE WHAT IT READS IS OF BULK AT MOST 1048576: true; the input reads as it did. -/
def fnExactLongestTradesUptoRow : OpenClaim := { program := "ytjkkopjmpmbapaa", sum := "505107dc71495db6e56b4ea3e1d402190cc37dcd9178882b2ebad8d058868cee", func := "loop.example/ordinalhydras/laws.FnExactLongestTrades", spec := "fnExactLongestTrades", unfollowed := true, recurses := true, plainKeys := false, apart := false, narrowed := true }
def FnExactLongestTradesUptoSaid : Prop := fnExactLongestTradesUptoRow.holds Try.pinned (OpenSpec.upto fnExactLongestTradesSpec)

/-- 'laws.FnExactOrdCompare', WHERE WHAT IT READS IS OF BULK AT MOST 1048576: true; the input reads as it did. -/
def fnExactOrdCompareUptoRow : OpenClaim := { program := "ytjkkopjmpmbapaa", sum := "505107dc71495db6e56b4ea3e1d402190cc37dcd9178882b2ebad8d058868cee", func := "loop.example/ordinalhydras/laws.FnExactOrdCompare", spec := "fnExactOrdCompare", recurses := true, plainKeys := false, apart := false, narrowed := true }
def FnExactOrdCompareUptoSaid : Prop := fnExactOrdCompareUptoRow.holds Try.pinned (OpenSpec.upto fnExactOrdCompareSpec)

end Rows
end Go.Proofs.Ytjkkopjmpmbapaa
