/-
  No cell of these rows narrows 'for every input' (looked for: loops, veiled, ifaces, maps, wideKeys, modest, calm, conditions, laid).
  DERIVED. THE GIVEN ROWS OF THIS SEAT. 12 by the template 'for every input the law returns true; each argument reads behind the call as it read before'; 0 by the template 'total and deterministic' (their statements: YtigkceenhocidaaTotals.lean).
  GIVEN WITH THE SEED: the statements are not yours to turn. If you find one false, say at which input.
  Laid BY PROGRAM, IN A SANDBOX (cutbox-rows.mjs): the forced cells as the released guide's own fill.sh prints them over the translation faaf6de3ddf2d155… (all of the seat's roots in one cut). By AI agents, Wed Nov 11 2026. No macro, syntax, notation, axiom, sorry.
-/
import Derived.Test.YtigkceenhocidaaChecked
import GoSem.Claim
import GoSem.ClaimJoined
import GoSem.ClaimMapViews
import Derived.JoinedTies
import Derived.KernelRfl
namespace Go.Proofs.Ytigkceenhocidaa
/- THE CELL 'sum', in the pinned program and in every row, IS THE sha256 OF THE DUMP (.gsa) THAT YtigkceenhocidaaProg.lean LOADS. Nothing in Lean hashes anything: it is a label: what it is worth is what the hold of that sum in a sandbox is worth. -/
noncomputable def Try.pinned : Pinned := { name := "ytigkceenhocidaa", sum := "faaf6de3ddf2d1551a3b0dcc0ef67781eaa8a60acda490cc7c79aa1abe7e4e7c", checked := Try.checked }
namespace Rows
def none {H : Type} : Left H := { results := [], args := [] }

/-- 'laws.FnExactHydraValid': WHATEVER THE INPUT: true; the input reads as it did. -/
def fnExactHydraValidSpec : ChangeSpec := { name := "fnExactHydraValid", fn := fun _ => fun
  | [d] => { results := [.lit (.bool true)], args := [d] }
  | _ => none }
def fnExactHydraValidRow : OpenClaim := { program := "ytigkceenhocidaa", sum := "faaf6de3ddf2d1551a3b0dcc0ef67781eaa8a60acda490cc7c79aa1abe7e4e7c", func := "loop.example/ordinalhydras/laws.FnExactHydraValid", spec := "fnExactHydraValid", recurses := true, apart := false }
def FnExactHydraValidSaid : Prop := fnExactHydraValidRow.holds Try.pinned (OpenSpec.ofChange fnExactHydraValidSpec)

/-- ITS FALSE NEIGHBOUR: 'it returns false'. Refute it at one input. -/
def fnExactHydraValidWrong : ChangeSpec := { name := "fnExactHydraValid", fn := fun _ => fun
  | [d] => { results := [.lit (.bool false)], args := [d] }
  | _ => none }
def FnExactHydraValidWrongFalsely : Prop := fnExactHydraValidRow.holds Try.pinned (OpenSpec.ofChange fnExactHydraValidWrong)

/-- 'laws.FnExactHydraHeads': WHATEVER THE INPUT: true; the input reads as it did. -/
def fnExactHydraHeadsSpec : ChangeSpec := { name := "fnExactHydraHeads", fn := fun _ => fun
  | [d] => { results := [.lit (.bool true)], args := [d] }
  | _ => none }
def fnExactHydraHeadsRow : OpenClaim := { program := "ytigkceenhocidaa", sum := "faaf6de3ddf2d1551a3b0dcc0ef67781eaa8a60acda490cc7c79aa1abe7e4e7c", func := "loop.example/ordinalhydras/laws.FnExactHydraHeads", spec := "fnExactHydraHeads", recurses := true, apart := false }
def FnExactHydraHeadsSaid : Prop := fnExactHydraHeadsRow.holds Try.pinned (OpenSpec.ofChange fnExactHydraHeadsSpec)

/-- ITS FALSE NEIGHBOUR: 'it returns false'. Refute it at one input. -/
def fnExactHydraHeadsWrong : ChangeSpec := { name := "fnExactHydraHeads", fn := fun _ => fun
  | [d] => { results := [.lit (.bool false)], args := [d] }
  | _ => none }
def FnExactHydraHeadsWrongFalsely : Prop := fnExactHydraHeadsRow.holds Try.pinned (OpenSpec.ofChange fnExactHydraHeadsWrong)

/-- 'laws.FnExactHydraCut': WHATEVER THE INPUT: true; the input reads as it did. -/
def fnExactHydraCutSpec : ChangeSpec := { name := "fnExactHydraCut", fn := fun _ => fun
  | [d1, d2, d3] => { results := [.lit (.bool true)], args := [d1, d2, d3] }
  | _ => none }
def fnExactHydraCutRow : OpenClaim := { program := "ytigkceenhocidaa", sum := "faaf6de3ddf2d1551a3b0dcc0ef67781eaa8a60acda490cc7c79aa1abe7e4e7c", func := "loop.example/ordinalhydras/laws.FnExactHydraCut", spec := "fnExactHydraCut", inPlace := ["slices.overlaps[*loop.example/ordinalhydras/impl.node]"], recurses := true, apart := false }
def FnExactHydraCutSaid : Prop := fnExactHydraCutRow.holds Try.pinned (OpenSpec.ofChange fnExactHydraCutSpec)

/-- ITS FALSE NEIGHBOUR: 'it returns false'. Refute it at one input. -/
def fnExactHydraCutWrong : ChangeSpec := { name := "fnExactHydraCut", fn := fun _ => fun
  | [d1, d2, d3] => { results := [.lit (.bool false)], args := [d1, d2, d3] }
  | _ => none }
def FnExactHydraCutWrongFalsely : Prop := fnExactHydraCutRow.holds Try.pinned (OpenSpec.ofChange fnExactHydraCutWrong)

/-- 'laws.FnExactHydraOrd': WHATEVER THE INPUT: true; the input reads as it did. -/
def fnExactHydraOrdSpec : ChangeSpec := { name := "fnExactHydraOrd", fn := fun _ => fun
  | [d] => { results := [.lit (.bool true)], args := [d] }
  | _ => none }
def fnExactHydraOrdRow : OpenClaim := { program := "ytigkceenhocidaa", sum := "faaf6de3ddf2d1551a3b0dcc0ef67781eaa8a60acda490cc7c79aa1abe7e4e7c", func := "loop.example/ordinalhydras/laws.FnExactHydraOrd", spec := "fnExactHydraOrd", recurses := true, apart := false }
def FnExactHydraOrdSaid : Prop := fnExactHydraOrdRow.holds Try.pinned (OpenSpec.ofChange fnExactHydraOrdSpec)

/-- ITS FALSE NEIGHBOUR: 'it returns false'. Refute it at one input. -/
def fnExactHydraOrdWrong : ChangeSpec := { name := "fnExactHydraOrd", fn := fun _ => fun
  | [d] => { results := [.lit (.bool false)], args := [d] }
  | _ => none }
def FnExactHydraOrdWrongFalsely : Prop := fnExactHydraOrdRow.holds Try.pinned (OpenSpec.ofChange fnExactHydraOrdWrong)

/-- 'laws.FnExactHydraOf': WHATEVER THE INPUT: true; the input reads as it did. -/
def fnExactHydraOfSpec : ChangeSpec := { name := "fnExactHydraOf", fn := fun _ => fun
  | [d] => { results := [.lit (.bool true)], args := [d] }
  | _ => none }
def fnExactHydraOfRow : OpenClaim := { program := "ytigkceenhocidaa", sum := "faaf6de3ddf2d1551a3b0dcc0ef67781eaa8a60acda490cc7c79aa1abe7e4e7c", func := "loop.example/ordinalhydras/laws.FnExactHydraOf", spec := "fnExactHydraOf", recurses := true, apart := false }
def FnExactHydraOfSaid : Prop := fnExactHydraOfRow.holds Try.pinned (OpenSpec.ofChange fnExactHydraOfSpec)

/-- ITS FALSE NEIGHBOUR: 'it returns false'. Refute it at one input. -/
def fnExactHydraOfWrong : ChangeSpec := { name := "fnExactHydraOf", fn := fun _ => fun
  | [d] => { results := [.lit (.bool false)], args := [d] }
  | _ => none }
def FnExactHydraOfWrongFalsely : Prop := fnExactHydraOfRow.holds Try.pinned (OpenSpec.ofChange fnExactHydraOfWrong)

/-- 'laws.FnExactHydraSort': WHATEVER THE INPUT: true; the input reads as it did. -/
def fnExactHydraSortSpec : ChangeSpec := { name := "fnExactHydraSort", fn := fun _ => fun
  | [d] => { results := [.lit (.bool true)], args := [d] }
  | _ => none }
def fnExactHydraSortRow : OpenClaim := { program := "ytigkceenhocidaa", sum := "faaf6de3ddf2d1551a3b0dcc0ef67781eaa8a60acda490cc7c79aa1abe7e4e7c", func := "loop.example/ordinalhydras/laws.FnExactHydraSort", spec := "fnExactHydraSort", unfollowed := true, recurses := true, apart := false }
def FnExactHydraSortSaid : Prop := fnExactHydraSortRow.holds Try.pinned (OpenSpec.ofChange fnExactHydraSortSpec)

/-- ITS FALSE NEIGHBOUR: 'it returns false'. Refute it at one input. -/
def fnExactHydraSortWrong : ChangeSpec := { name := "fnExactHydraSort", fn := fun _ => fun
  | [d] => { results := [.lit (.bool false)], args := [d] }
  | _ => none }
def FnExactHydraSortWrongFalsely : Prop := fnExactHydraSortRow.holds Try.pinned (OpenSpec.ofChange fnExactHydraSortWrong)

/-- 'laws.FnExactHydraSame': WHATEVER THE INPUT: true; the input reads as it did. -/
def fnExactHydraSameSpec : ChangeSpec := { name := "fnExactHydraSame", fn := fun _ => fun
  | [d1, d2] => { results := [.lit (.bool true)], args := [d1, d2] }
  | _ => none }
def fnExactHydraSameRow : OpenClaim := { program := "ytigkceenhocidaa", sum := "faaf6de3ddf2d1551a3b0dcc0ef67781eaa8a60acda490cc7c79aa1abe7e4e7c", func := "loop.example/ordinalhydras/laws.FnExactHydraSame", spec := "fnExactHydraSame", unfollowed := true, recurses := true, apart := false }
def FnExactHydraSameSaid : Prop := fnExactHydraSameRow.holds Try.pinned (OpenSpec.ofChange fnExactHydraSameSpec)

/-- ITS FALSE NEIGHBOUR: 'it returns false'. Refute it at one input. -/
def fnExactHydraSameWrong : ChangeSpec := { name := "fnExactHydraSame", fn := fun _ => fun
  | [d1, d2] => { results := [.lit (.bool false)], args := [d1, d2] }
  | _ => none }
def FnExactHydraSameWrongFalsely : Prop := fnExactHydraSameRow.holds Try.pinned (OpenSpec.ofChange fnExactHydraSameWrong)

/-- 'laws.FnExactHydraRun': WHATEVER THE INPUT: true; the input reads as it did. -/
def fnExactHydraRunSpec : ChangeSpec := { name := "fnExactHydraRun", fn := fun _ => fun
  | [d1, d2, d3] => { results := [.lit (.bool true)], args := [d1, d2, d3] }
  | _ => none }
def fnExactHydraRunRow : OpenClaim := { program := "ytigkceenhocidaa", sum := "faaf6de3ddf2d1551a3b0dcc0ef67781eaa8a60acda490cc7c79aa1abe7e4e7c", func := "loop.example/ordinalhydras/laws.FnExactHydraRun", spec := "fnExactHydraRun", inPlace := ["slices.overlaps[*loop.example/ordinalhydras/impl.node]"], recurses := true, apart := false }
def FnExactHydraRunSaid : Prop := fnExactHydraRunRow.holds Try.pinned (OpenSpec.ofChange fnExactHydraRunSpec)

/-- ITS FALSE NEIGHBOUR: 'it returns false'. Refute it at one input. -/
def fnExactHydraRunWrong : ChangeSpec := { name := "fnExactHydraRun", fn := fun _ => fun
  | [d1, d2, d3] => { results := [.lit (.bool false)], args := [d1, d2, d3] }
  | _ => none }
def FnExactHydraRunWrongFalsely : Prop := fnExactHydraRunRow.holds Try.pinned (OpenSpec.ofChange fnExactHydraRunWrong)

/-- 'laws.FnExactHydraFight': WHATEVER THE INPUT: true; the input reads as it did. -/
def fnExactHydraFightSpec : ChangeSpec := { name := "fnExactHydraFight", fn := fun _ => fun
  | [d1, d2] => { results := [.lit (.bool true)], args := [d1, d2] }
  | _ => none }
def fnExactHydraFightRow : OpenClaim := { program := "ytigkceenhocidaa", sum := "faaf6de3ddf2d1551a3b0dcc0ef67781eaa8a60acda490cc7c79aa1abe7e4e7c", func := "loop.example/ordinalhydras/laws.FnExactHydraFight", spec := "fnExactHydraFight", inPlace := ["slices.overlaps[*loop.example/ordinalhydras/impl.node]"], recurses := true, apart := false }
def FnExactHydraFightSaid : Prop := fnExactHydraFightRow.holds Try.pinned (OpenSpec.ofChange fnExactHydraFightSpec)

/-- ITS FALSE NEIGHBOUR: 'it returns false'. Refute it at one input. -/
def fnExactHydraFightWrong : ChangeSpec := { name := "fnExactHydraFight", fn := fun _ => fun
  | [d1, d2] => { results := [.lit (.bool false)], args := [d1, d2] }
  | _ => none }
def FnExactHydraFightWrongFalsely : Prop := fnExactHydraFightRow.holds Try.pinned (OpenSpec.ofChange fnExactHydraFightWrong)

/-- 'laws.FnExactOrdCompare': WHATEVER THE INPUT: true; the input reads as it did. -/
def fnExactOrdCompareSpec : ChangeSpec := { name := "fnExactOrdCompare", fn := fun _ => fun
  | [d1, d2] => { results := [.lit (.bool true)], args := [d1, d2] }
  | _ => none }
def fnExactOrdCompareRow : OpenClaim := { program := "ytigkceenhocidaa", sum := "faaf6de3ddf2d1551a3b0dcc0ef67781eaa8a60acda490cc7c79aa1abe7e4e7c", func := "loop.example/ordinalhydras/laws.FnExactOrdCompare", spec := "fnExactOrdCompare", recurses := true, apart := false }
def FnExactOrdCompareSaid : Prop := fnExactOrdCompareRow.holds Try.pinned (OpenSpec.ofChange fnExactOrdCompareSpec)

/-- ITS FALSE NEIGHBOUR: 'it returns false'. Refute it at one input. -/
def fnExactOrdCompareWrong : ChangeSpec := { name := "fnExactOrdCompare", fn := fun _ => fun
  | [d1, d2] => { results := [.lit (.bool false)], args := [d1, d2] }
  | _ => none }
def FnExactOrdCompareWrongFalsely : Prop := fnExactOrdCompareRow.holds Try.pinned (OpenSpec.ofChange fnExactOrdCompareWrong)

/-- 'laws.FnExactOrdNext': WHATEVER THE INPUT: true; the input reads as it did. -/
def fnExactOrdNextSpec : ChangeSpec := { name := "fnExactOrdNext", fn := fun _ => fun
  | [d] => { results := [.lit (.bool true)], args := [d] }
  | _ => none }
def fnExactOrdNextRow : OpenClaim := { program := "ytigkceenhocidaa", sum := "faaf6de3ddf2d1551a3b0dcc0ef67781eaa8a60acda490cc7c79aa1abe7e4e7c", func := "loop.example/ordinalhydras/laws.FnExactOrdNext", spec := "fnExactOrdNext", recurses := true, apart := false }
def FnExactOrdNextSaid : Prop := fnExactOrdNextRow.holds Try.pinned (OpenSpec.ofChange fnExactOrdNextSpec)

/-- ITS FALSE NEIGHBOUR: 'it returns false'. Refute it at one input. -/
def fnExactOrdNextWrong : ChangeSpec := { name := "fnExactOrdNext", fn := fun _ => fun
  | [d] => { results := [.lit (.bool false)], args := [d] }
  | _ => none }
def FnExactOrdNextWrongFalsely : Prop := fnExactOrdNextRow.holds Try.pinned (OpenSpec.ofChange fnExactOrdNextWrong)

/-- 'laws.FnExactOrdBefore': WHATEVER THE INPUT: true; the input reads as it did. -/
def fnExactOrdBeforeSpec : ChangeSpec := { name := "fnExactOrdBefore", fn := fun _ => fun
  | [d] => { results := [.lit (.bool true)], args := [d] }
  | _ => none }
def fnExactOrdBeforeRow : OpenClaim := { program := "ytigkceenhocidaa", sum := "faaf6de3ddf2d1551a3b0dcc0ef67781eaa8a60acda490cc7c79aa1abe7e4e7c", func := "loop.example/ordinalhydras/laws.FnExactOrdBefore", spec := "fnExactOrdBefore", recurses := true, apart := false }
def FnExactOrdBeforeSaid : Prop := fnExactOrdBeforeRow.holds Try.pinned (OpenSpec.ofChange fnExactOrdBeforeSpec)

/-- ITS FALSE NEIGHBOUR: 'it returns false'. Refute it at one input. -/
def fnExactOrdBeforeWrong : ChangeSpec := { name := "fnExactOrdBefore", fn := fun _ => fun
  | [d] => { results := [.lit (.bool false)], args := [d] }
  | _ => none }
def FnExactOrdBeforeWrongFalsely : Prop := fnExactOrdBeforeRow.holds Try.pinned (OpenSpec.ofChange fnExactOrdBeforeWrong)

/- THE SECOND FORM. 'bulk': how many values and letters a reading holds, each counted each time it is reached (what is shared counts as often as it is met; a slice's spare places count too). A statement '..UptoSaid' is the law's where the arguments, and the package variables that the reading takes, are together of bulk at most 1048576: NARROWER than '..Said'. Prove '..Said' where nothing that the law and all that it calls make is longer than what came in: it says more and counts as full. Else prove '..UptoSaid'. A law counts once. -/
mutual
def uptoBulk {H : Type} : DataW H → Nat
  | .lit (.string bytes) => bytes.length + 1
  | .lit _ => 1
  | .nil => 1
  | .ptr d => uptoBulk d + 1
  | .slice elems spare => uptoBulkAll elems + uptoBulkAll spare + 1
  | .agg parts => uptoBulkAll parts + 1
  | .iface _ d => uptoBulk d + 1
  | .map entries => uptoBulkEntries entries + 1
  | .held _ => 1
def uptoBulkAll {H : Type} : List (DataW H) → Nat
  | [] => 0
  | d :: r => uptoBulk d + uptoBulkAll r
def uptoBulkEntries {H : Type} : List (Lit × DataW H) → Nat
  | [] => 0
  | x :: r => uptoBulkEntry x + uptoBulkEntries r
def uptoBulkEntry {H : Type} : Lit × DataW H → Nat
  | (.string bytes, d) => bytes.length + uptoBulk d + 1
  | (_, d) => uptoBulk d + 1
 end
def uptoSmall : (H : Type) → List (DataW H) → Bool := fun _ ds => decide (uptoBulkAll ds ≤ 1048576)
def OpenSpec.upto (s : _root_.Go.ChangeSpec) : _root_.Go.OpenSpec := { _root_.Go.OpenSpec.ofChange s with cond := some uptoSmall }

/-- 'laws.FnExactHydraValid', WHERE WHAT IT READS IS OF BULK AT MOST 1048576: true; the input reads as it did. -/
def fnExactHydraValidUptoRow : OpenClaim := { program := "ytigkceenhocidaa", sum := "faaf6de3ddf2d1551a3b0dcc0ef67781eaa8a60acda490cc7c79aa1abe7e4e7c", func := "loop.example/ordinalhydras/laws.FnExactHydraValid", spec := "fnExactHydraValid", recurses := true, apart := false, narrowed := true }
def FnExactHydraValidUptoSaid : Prop := fnExactHydraValidUptoRow.holds Try.pinned (OpenSpec.upto fnExactHydraValidSpec)

/-- 'laws.FnExactHydraHeads', WHERE WHAT IT READS IS OF BULK AT MOST 1048576: true; the input reads as it did. -/
def fnExactHydraHeadsUptoRow : OpenClaim := { program := "ytigkceenhocidaa", sum := "faaf6de3ddf2d1551a3b0dcc0ef67781eaa8a60acda490cc7c79aa1abe7e4e7c", func := "loop.example/ordinalhydras/laws.FnExactHydraHeads", spec := "fnExactHydraHeads", recurses := true, apart := false, narrowed := true }
def FnExactHydraHeadsUptoSaid : Prop := fnExactHydraHeadsUptoRow.holds Try.pinned (OpenSpec.upto fnExactHydraHeadsSpec)

/-- 'laws.FnExactHydraCut', WHERE WHAT IT READS IS OF BULK AT MOST 1048576: true; the input reads as it did. -/
def fnExactHydraCutUptoRow : OpenClaim := { program := "ytigkceenhocidaa", sum := "faaf6de3ddf2d1551a3b0dcc0ef67781eaa8a60acda490cc7c79aa1abe7e4e7c", func := "loop.example/ordinalhydras/laws.FnExactHydraCut", spec := "fnExactHydraCut", inPlace := ["slices.overlaps[*loop.example/ordinalhydras/impl.node]"], recurses := true, apart := false, narrowed := true }
def FnExactHydraCutUptoSaid : Prop := fnExactHydraCutUptoRow.holds Try.pinned (OpenSpec.upto fnExactHydraCutSpec)

/-- 'laws.FnExactHydraOrd', WHERE WHAT IT READS IS OF BULK AT MOST 1048576: true; the input reads as it did. -/
def fnExactHydraOrdUptoRow : OpenClaim := { program := "ytigkceenhocidaa", sum := "faaf6de3ddf2d1551a3b0dcc0ef67781eaa8a60acda490cc7c79aa1abe7e4e7c", func := "loop.example/ordinalhydras/laws.FnExactHydraOrd", spec := "fnExactHydraOrd", recurses := true, apart := false, narrowed := true }
def FnExactHydraOrdUptoSaid : Prop := fnExactHydraOrdUptoRow.holds Try.pinned (OpenSpec.upto fnExactHydraOrdSpec)

/-- 'laws.FnExactHydraOf', WHERE WHAT IT READS IS OF BULK AT MOST 1048576: true; the input reads as it did. -/
def fnExactHydraOfUptoRow : OpenClaim := { program := "ytigkceenhocidaa", sum := "faaf6de3ddf2d1551a3b0dcc0ef67781eaa8a60acda490cc7c79aa1abe7e4e7c", func := "loop.example/ordinalhydras/laws.FnExactHydraOf", spec := "fnExactHydraOf", recurses := true, apart := false, narrowed := true }
def FnExactHydraOfUptoSaid : Prop := fnExactHydraOfUptoRow.holds Try.pinned (OpenSpec.upto fnExactHydraOfSpec)

/-- 'laws.FnExactHydraSort', WHERE WHAT IT READS IS OF BULK AT MOST 1048576: true; the input reads as it did. -/
def fnExactHydraSortUptoRow : OpenClaim := { program := "ytigkceenhocidaa", sum := "faaf6de3ddf2d1551a3b0dcc0ef67781eaa8a60acda490cc7c79aa1abe7e4e7c", func := "loop.example/ordinalhydras/laws.FnExactHydraSort", spec := "fnExactHydraSort", unfollowed := true, recurses := true, apart := false, narrowed := true }
def FnExactHydraSortUptoSaid : Prop := fnExactHydraSortUptoRow.holds Try.pinned (OpenSpec.upto fnExactHydraSortSpec)

/-- 'laws.FnExactHydraSame', WHERE WHAT IT READS IS OF BULK AT MOST 1048576: true; the input reads as it did. -/
def fnExactHydraSameUptoRow : OpenClaim := { program := "ytigkceenhocidaa", sum := "faaf6de3ddf2d1551a3b0dcc0ef67781eaa8a60acda490cc7c79aa1abe7e4e7c", func := "loop.example/ordinalhydras/laws.FnExactHydraSame", spec := "fnExactHydraSame", unfollowed := true, recurses := true, apart := false, narrowed := true }
def FnExactHydraSameUptoSaid : Prop := fnExactHydraSameUptoRow.holds Try.pinned (OpenSpec.upto fnExactHydraSameSpec)

/-- 'laws.FnExactHydraRun', WHERE WHAT IT READS IS OF BULK AT MOST 1048576: true; the input reads as it did. -/
def fnExactHydraRunUptoRow : OpenClaim := { program := "ytigkceenhocidaa", sum := "faaf6de3ddf2d1551a3b0dcc0ef67781eaa8a60acda490cc7c79aa1abe7e4e7c", func := "loop.example/ordinalhydras/laws.FnExactHydraRun", spec := "fnExactHydraRun", inPlace := ["slices.overlaps[*loop.example/ordinalhydras/impl.node]"], recurses := true, apart := false, narrowed := true }
def FnExactHydraRunUptoSaid : Prop := fnExactHydraRunUptoRow.holds Try.pinned (OpenSpec.upto fnExactHydraRunSpec)

/-- 'laws.FnExactHydraFight', WHERE WHAT IT READS IS OF BULK AT MOST 1048576: true; the input reads as it did. -/
def fnExactHydraFightUptoRow : OpenClaim := { program := "ytigkceenhocidaa", sum := "faaf6de3ddf2d1551a3b0dcc0ef67781eaa8a60acda490cc7c79aa1abe7e4e7c", func := "loop.example/ordinalhydras/laws.FnExactHydraFight", spec := "fnExactHydraFight", inPlace := ["slices.overlaps[*loop.example/ordinalhydras/impl.node]"], recurses := true, apart := false, narrowed := true }
def FnExactHydraFightUptoSaid : Prop := fnExactHydraFightUptoRow.holds Try.pinned (OpenSpec.upto fnExactHydraFightSpec)

/-- 'laws.FnExactOrdCompare', WHERE WHAT IT READS IS OF BULK AT MOST 1048576: true; the input reads as it did. -/
def fnExactOrdCompareUptoRow : OpenClaim := { program := "ytigkceenhocidaa", sum := "faaf6de3ddf2d1551a3b0dcc0ef67781eaa8a60acda490cc7c79aa1abe7e4e7c", func := "loop.example/ordinalhydras/laws.FnExactOrdCompare", spec := "fnExactOrdCompare", recurses := true, apart := false, narrowed := true }
def FnExactOrdCompareUptoSaid : Prop := fnExactOrdCompareUptoRow.holds Try.pinned (OpenSpec.upto fnExactOrdCompareSpec)

/-- 'laws.FnExactOrdNext', WHERE WHAT IT READS IS OF BULK AT MOST 1048576: true; the input reads as it did. -/
def fnExactOrdNextUptoRow : OpenClaim := { program := "ytigkceenhocidaa", sum := "faaf6de3ddf2d1551a3b0dcc0ef67781eaa8a60acda490cc7c79aa1abe7e4e7c", func := "loop.example/ordinalhydras/laws.FnExactOrdNext", spec := "fnExactOrdNext", recurses := true, apart := false, narrowed := true }
def FnExactOrdNextUptoSaid : Prop := fnExactOrdNextUptoRow.holds Try.pinned (OpenSpec.upto fnExactOrdNextSpec)

/-- 'laws.FnExactOrdBefore', WHERE WHAT IT READS IS OF BULK AT MOST 1048576: true; the input reads as it did. -/
def fnExactOrdBeforeUptoRow : OpenClaim := { program := "ytigkceenhocidaa", sum := "faaf6de3ddf2d1551a3b0dcc0ef67781eaa8a60acda490cc7c79aa1abe7e4e7c", func := "loop.example/ordinalhydras/laws.FnExactOrdBefore", spec := "fnExactOrdBefore", recurses := true, apart := false, narrowed := true }
def FnExactOrdBeforeUptoSaid : Prop := fnExactOrdBeforeUptoRow.holds Try.pinned (OpenSpec.upto fnExactOrdBeforeSpec)

end Rows
end Go.Proofs.Ytigkceenhocidaa
