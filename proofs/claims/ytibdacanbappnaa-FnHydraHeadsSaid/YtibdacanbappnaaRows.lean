/-
  No cell of these rows narrows 'for every input' (looked for: loops, veiled, ifaces, maps, wideKeys, modest, calm, conditions, laid).
  DERIVED. THE GIVEN ROWS OF THIS SEAT. 12 by the template 'for every input the law returns true; each argument reads behind the call as it read before'; 0 by the template 'total and deterministic' (their statements: YtibdacanbappnaaTotals.lean).
  GIVEN WITH THE SEED: the statements are not yours to turn. If you find one false, say at which input.
  Laid BY PROGRAM, IN A SANDBOX (cutbox-rows.mjs): the forced cells as the released guide's own fill.sh prints them over the translation 227c8834710b11e9… (all of the seat's roots in one cut). By AI agents, Wed Nov 11 2026. No macro, syntax, notation, axiom, sorry.
-/
import Derived.Test.YtibdacanbappnaaChecked
import GoSem.Claim
import GoSem.ClaimJoined
import GoSem.ClaimMapViews
import Derived.JoinedTies
import Derived.KernelRfl
namespace Go.Proofs.Ytibdacanbappnaa
/- THE CELL 'sum', in the pinned program and in every row, IS THE sha256 OF THE DUMP (.gsa) THAT YtibdacanbappnaaProg.lean LOADS. Nothing in Lean hashes anything: it is a label: what it is worth is what the hold of that sum in a sandbox is worth. -/
noncomputable def Try.pinned : Pinned := { name := "ytibdacanbappnaa", sum := "227c8834710b11e94a3ed33150e2a2be0d41f03c6b2312b52726c324e26abf61", checked := Try.checked }
namespace Rows
def none {H : Type} : Left H := { results := [], args := [] }

/-- 'laws.FnHydraValid': WHATEVER THE INPUT: true; the input reads as it did. -/
def fnHydraValidSpec : ChangeSpec := { name := "fnHydraValid", fn := fun _ => fun
  | [d] => { results := [.lit (.bool true)], args := [d] }
  | _ => none }
def fnHydraValidRow : OpenClaim := { program := "ytibdacanbappnaa", sum := "227c8834710b11e94a3ed33150e2a2be0d41f03c6b2312b52726c324e26abf61", func := "loop.example/ordinalhydras/laws.FnHydraValid", spec := "fnHydraValid", recurses := true, apart := false }
def FnHydraValidSaid : Prop := fnHydraValidRow.holds Try.pinned (OpenSpec.ofChange fnHydraValidSpec)

/-- ITS FALSE NEIGHBOUR: 'it returns false'. Refute it at one input. -/
def fnHydraValidWrong : ChangeSpec := { name := "fnHydraValid", fn := fun _ => fun
  | [d] => { results := [.lit (.bool false)], args := [d] }
  | _ => none }
def FnHydraValidWrongFalsely : Prop := fnHydraValidRow.holds Try.pinned (OpenSpec.ofChange fnHydraValidWrong)

/-- 'laws.FnHydraHeads': WHATEVER THE INPUT: true; the input reads as it did. -/
def fnHydraHeadsSpec : ChangeSpec := { name := "fnHydraHeads", fn := fun _ => fun
  | [d] => { results := [.lit (.bool true)], args := [d] }
  | _ => none }
def fnHydraHeadsRow : OpenClaim := { program := "ytibdacanbappnaa", sum := "227c8834710b11e94a3ed33150e2a2be0d41f03c6b2312b52726c324e26abf61", func := "loop.example/ordinalhydras/laws.FnHydraHeads", spec := "fnHydraHeads", recurses := true, apart := false }
def FnHydraHeadsSaid : Prop := fnHydraHeadsRow.holds Try.pinned (OpenSpec.ofChange fnHydraHeadsSpec)

/-- ITS FALSE NEIGHBOUR: 'it returns false'. Refute it at one input. -/
def fnHydraHeadsWrong : ChangeSpec := { name := "fnHydraHeads", fn := fun _ => fun
  | [d] => { results := [.lit (.bool false)], args := [d] }
  | _ => none }
def FnHydraHeadsWrongFalsely : Prop := fnHydraHeadsRow.holds Try.pinned (OpenSpec.ofChange fnHydraHeadsWrong)

/-- 'laws.FnHydraCut': WHATEVER THE INPUT: true; the input reads as it did. -/
def fnHydraCutSpec : ChangeSpec := { name := "fnHydraCut", fn := fun _ => fun
  | [d] => { results := [.lit (.bool true)], args := [d] }
  | _ => none }
def fnHydraCutRow : OpenClaim := { program := "ytibdacanbappnaa", sum := "227c8834710b11e94a3ed33150e2a2be0d41f03c6b2312b52726c324e26abf61", func := "loop.example/ordinalhydras/laws.FnHydraCut", spec := "fnHydraCut", inPlace := ["slices.overlaps[*loop.example/ordinalhydras/impl.node]"], recurses := true, apart := false }
def FnHydraCutSaid : Prop := fnHydraCutRow.holds Try.pinned (OpenSpec.ofChange fnHydraCutSpec)

/-- ITS FALSE NEIGHBOUR: 'it returns false'. Refute it at one input. -/
def fnHydraCutWrong : ChangeSpec := { name := "fnHydraCut", fn := fun _ => fun
  | [d] => { results := [.lit (.bool false)], args := [d] }
  | _ => none }
def FnHydraCutWrongFalsely : Prop := fnHydraCutRow.holds Try.pinned (OpenSpec.ofChange fnHydraCutWrong)

/-- 'laws.FnHydraOrd': WHATEVER THE INPUT: true; the input reads as it did. -/
def fnHydraOrdSpec : ChangeSpec := { name := "fnHydraOrd", fn := fun _ => fun
  | [d] => { results := [.lit (.bool true)], args := [d] }
  | _ => none }
def fnHydraOrdRow : OpenClaim := { program := "ytibdacanbappnaa", sum := "227c8834710b11e94a3ed33150e2a2be0d41f03c6b2312b52726c324e26abf61", func := "loop.example/ordinalhydras/laws.FnHydraOrd", spec := "fnHydraOrd", unfollowed := true, recurses := true, apart := false }
def FnHydraOrdSaid : Prop := fnHydraOrdRow.holds Try.pinned (OpenSpec.ofChange fnHydraOrdSpec)

/-- ITS FALSE NEIGHBOUR: 'it returns false'. Refute it at one input. -/
def fnHydraOrdWrong : ChangeSpec := { name := "fnHydraOrd", fn := fun _ => fun
  | [d] => { results := [.lit (.bool false)], args := [d] }
  | _ => none }
def FnHydraOrdWrongFalsely : Prop := fnHydraOrdRow.holds Try.pinned (OpenSpec.ofChange fnHydraOrdWrong)

/-- 'laws.FnHydraOf': WHATEVER THE INPUT: true; the input reads as it did. -/
def fnHydraOfSpec : ChangeSpec := { name := "fnHydraOf", fn := fun _ => fun
  | [d1, d2] => { results := [.lit (.bool true)], args := [d1, d2] }
  | _ => none }
def fnHydraOfRow : OpenClaim := { program := "ytibdacanbappnaa", sum := "227c8834710b11e94a3ed33150e2a2be0d41f03c6b2312b52726c324e26abf61", func := "loop.example/ordinalhydras/laws.FnHydraOf", spec := "fnHydraOf", inPlace := ["slices.overlaps[*loop.example/ordinalhydras/impl.node]"], recurses := true, apart := false }
def FnHydraOfSaid : Prop := fnHydraOfRow.holds Try.pinned (OpenSpec.ofChange fnHydraOfSpec)

/-- ITS FALSE NEIGHBOUR: 'it returns false'. Refute it at one input. -/
def fnHydraOfWrong : ChangeSpec := { name := "fnHydraOf", fn := fun _ => fun
  | [d1, d2] => { results := [.lit (.bool false)], args := [d1, d2] }
  | _ => none }
def FnHydraOfWrongFalsely : Prop := fnHydraOfRow.holds Try.pinned (OpenSpec.ofChange fnHydraOfWrong)

/-- 'laws.FnHydraSort': WHATEVER THE INPUT: true; the input reads as it did. -/
def fnHydraSortSpec : ChangeSpec := { name := "fnHydraSort", fn := fun _ => fun
  | [d] => { results := [.lit (.bool true)], args := [d] }
  | _ => none }
def fnHydraSortRow : OpenClaim := { program := "ytibdacanbappnaa", sum := "227c8834710b11e94a3ed33150e2a2be0d41f03c6b2312b52726c324e26abf61", func := "loop.example/ordinalhydras/laws.FnHydraSort", spec := "fnHydraSort", unfollowed := true, recurses := true, apart := false }
def FnHydraSortSaid : Prop := fnHydraSortRow.holds Try.pinned (OpenSpec.ofChange fnHydraSortSpec)

/-- ITS FALSE NEIGHBOUR: 'it returns false'. Refute it at one input. -/
def fnHydraSortWrong : ChangeSpec := { name := "fnHydraSort", fn := fun _ => fun
  | [d] => { results := [.lit (.bool false)], args := [d] }
  | _ => none }
def FnHydraSortWrongFalsely : Prop := fnHydraSortRow.holds Try.pinned (OpenSpec.ofChange fnHydraSortWrong)

/-- 'laws.FnHydraSame': WHATEVER THE INPUT: true; the input reads as it did. -/
def fnHydraSameSpec : ChangeSpec := { name := "fnHydraSame", fn := fun _ => fun
  | [d] => { results := [.lit (.bool true)], args := [d] }
  | _ => none }
def fnHydraSameRow : OpenClaim := { program := "ytibdacanbappnaa", sum := "227c8834710b11e94a3ed33150e2a2be0d41f03c6b2312b52726c324e26abf61", func := "loop.example/ordinalhydras/laws.FnHydraSame", spec := "fnHydraSame", unfollowed := true, recurses := true, apart := false }
def FnHydraSameSaid : Prop := fnHydraSameRow.holds Try.pinned (OpenSpec.ofChange fnHydraSameSpec)

/-- ITS FALSE NEIGHBOUR: 'it returns false'. Refute it at one input. -/
def fnHydraSameWrong : ChangeSpec := { name := "fnHydraSame", fn := fun _ => fun
  | [d] => { results := [.lit (.bool false)], args := [d] }
  | _ => none }
def FnHydraSameWrongFalsely : Prop := fnHydraSameRow.holds Try.pinned (OpenSpec.ofChange fnHydraSameWrong)

/-- 'laws.FnHydraRun': WHATEVER THE INPUT: true; the input reads as it did. -/
def fnHydraRunSpec : ChangeSpec := { name := "fnHydraRun", fn := fun _ => fun
  | [d] => { results := [.lit (.bool true)], args := [d] }
  | _ => none }
def fnHydraRunRow : OpenClaim := { program := "ytibdacanbappnaa", sum := "227c8834710b11e94a3ed33150e2a2be0d41f03c6b2312b52726c324e26abf61", func := "loop.example/ordinalhydras/laws.FnHydraRun", spec := "fnHydraRun", inPlace := ["slices.overlaps[*loop.example/ordinalhydras/impl.node]"], recurses := true, apart := false }
def FnHydraRunSaid : Prop := fnHydraRunRow.holds Try.pinned (OpenSpec.ofChange fnHydraRunSpec)

/-- ITS FALSE NEIGHBOUR: 'it returns false'. Refute it at one input. -/
def fnHydraRunWrong : ChangeSpec := { name := "fnHydraRun", fn := fun _ => fun
  | [d] => { results := [.lit (.bool false)], args := [d] }
  | _ => none }
def FnHydraRunWrongFalsely : Prop := fnHydraRunRow.holds Try.pinned (OpenSpec.ofChange fnHydraRunWrong)

/-- 'laws.FnHydraFight': WHATEVER THE INPUT: true; the input reads as it did. -/
def fnHydraFightSpec : ChangeSpec := { name := "fnHydraFight", fn := fun _ => fun
  | [d] => { results := [.lit (.bool true)], args := [d] }
  | _ => none }
def fnHydraFightRow : OpenClaim := { program := "ytibdacanbappnaa", sum := "227c8834710b11e94a3ed33150e2a2be0d41f03c6b2312b52726c324e26abf61", func := "loop.example/ordinalhydras/laws.FnHydraFight", spec := "fnHydraFight", inPlace := ["slices.overlaps[*loop.example/ordinalhydras/impl.node]"], unfollowed := true, recurses := true, apart := false }
def FnHydraFightSaid : Prop := fnHydraFightRow.holds Try.pinned (OpenSpec.ofChange fnHydraFightSpec)

/-- ITS FALSE NEIGHBOUR: 'it returns false'. Refute it at one input. -/
def fnHydraFightWrong : ChangeSpec := { name := "fnHydraFight", fn := fun _ => fun
  | [d] => { results := [.lit (.bool false)], args := [d] }
  | _ => none }
def FnHydraFightWrongFalsely : Prop := fnHydraFightRow.holds Try.pinned (OpenSpec.ofChange fnHydraFightWrong)

/-- 'laws.FnOrdCompare': WHATEVER THE INPUT: true; the input reads as it did. -/
def fnOrdCompareSpec : ChangeSpec := { name := "fnOrdCompare", fn := fun _ => fun
  | [d1, d2] => { results := [.lit (.bool true)], args := [d1, d2] }
  | _ => none }
def fnOrdCompareRow : OpenClaim := { program := "ytibdacanbappnaa", sum := "227c8834710b11e94a3ed33150e2a2be0d41f03c6b2312b52726c324e26abf61", func := "loop.example/ordinalhydras/laws.FnOrdCompare", spec := "fnOrdCompare", recurses := true, apart := false }
def FnOrdCompareSaid : Prop := fnOrdCompareRow.holds Try.pinned (OpenSpec.ofChange fnOrdCompareSpec)

/-- ITS FALSE NEIGHBOUR: 'it returns false'. Refute it at one input. -/
def fnOrdCompareWrong : ChangeSpec := { name := "fnOrdCompare", fn := fun _ => fun
  | [d1, d2] => { results := [.lit (.bool false)], args := [d1, d2] }
  | _ => none }
def FnOrdCompareWrongFalsely : Prop := fnOrdCompareRow.holds Try.pinned (OpenSpec.ofChange fnOrdCompareWrong)

/-- 'laws.FnOrdNext': WHATEVER THE INPUT: true; the input reads as it did. -/
def fnOrdNextSpec : ChangeSpec := { name := "fnOrdNext", fn := fun _ => fun
  | [d1, d2] => { results := [.lit (.bool true)], args := [d1, d2] }
  | _ => none }
def fnOrdNextRow : OpenClaim := { program := "ytibdacanbappnaa", sum := "227c8834710b11e94a3ed33150e2a2be0d41f03c6b2312b52726c324e26abf61", func := "loop.example/ordinalhydras/laws.FnOrdNext", spec := "fnOrdNext", recurses := true, apart := false }
def FnOrdNextSaid : Prop := fnOrdNextRow.holds Try.pinned (OpenSpec.ofChange fnOrdNextSpec)

/-- ITS FALSE NEIGHBOUR: 'it returns false'. Refute it at one input. -/
def fnOrdNextWrong : ChangeSpec := { name := "fnOrdNext", fn := fun _ => fun
  | [d1, d2] => { results := [.lit (.bool false)], args := [d1, d2] }
  | _ => none }
def FnOrdNextWrongFalsely : Prop := fnOrdNextRow.holds Try.pinned (OpenSpec.ofChange fnOrdNextWrong)

/-- 'laws.FnOrdBefore': WHATEVER THE INPUT: true; the input reads as it did. -/
def fnOrdBeforeSpec : ChangeSpec := { name := "fnOrdBefore", fn := fun _ => fun
  | [d] => { results := [.lit (.bool true)], args := [d] }
  | _ => none }
def fnOrdBeforeRow : OpenClaim := { program := "ytibdacanbappnaa", sum := "227c8834710b11e94a3ed33150e2a2be0d41f03c6b2312b52726c324e26abf61", func := "loop.example/ordinalhydras/laws.FnOrdBefore", spec := "fnOrdBefore", recurses := true, apart := false }
def FnOrdBeforeSaid : Prop := fnOrdBeforeRow.holds Try.pinned (OpenSpec.ofChange fnOrdBeforeSpec)

/-- ITS FALSE NEIGHBOUR: 'it returns false'. Refute it at one input. -/
def fnOrdBeforeWrong : ChangeSpec := { name := "fnOrdBefore", fn := fun _ => fun
  | [d] => { results := [.lit (.bool false)], args := [d] }
  | _ => none }
def FnOrdBeforeWrongFalsely : Prop := fnOrdBeforeRow.holds Try.pinned (OpenSpec.ofChange fnOrdBeforeWrong)

/- THE SECOND FORM. 'bulk': how many values and letters a reading holds, each counted each time it is reached (what is shared counts as often as it is met; a slice's spare places count too). A statement '..UptoSaid' is the law's where the arguments, and the package variables that the reading takes, are together of bulk at most 1048576: NARROWER than '..Said'. Prove '..Said' where nothing that the law and all that it calls make is longer than what came in: it says more and counts as full. Else prove '..UptoSaid'. A law counts once. -/
mutual
def uptoBulk {H : Type} : DataW H → Nat
  | .lit (.string bytes) => bytes.length + 1
  | .lit _ => 1
  | .nil => 1
  | .ptr d => uptoBulk d + 1
  | .slice elems spare => uptoBulkAll elems + uptoBulkAll spare + 1
  | .agg parts => uptoBulkAll parts + 1
  | .iface _ d => uptoBulk d + 1
  | .map entries => uptoBulkEntries entries + 1
  | .held _ => 1
def uptoBulkAll {H : Type} : List (DataW H) → Nat
  | [] => 0
  | d :: r => uptoBulk d + uptoBulkAll r
def uptoBulkEntries {H : Type} : List (Lit × DataW H) → Nat
  | [] => 0
  | x :: r => uptoBulkEntry x + uptoBulkEntries r
def uptoBulkEntry {H : Type} : Lit × DataW H → Nat
  | (.string bytes, d) => bytes.length + uptoBulk d + 1
  | (_, d) => uptoBulk d + 1
 end
def uptoSmall : (H : Type) → List (DataW H) → Bool := fun _ ds => decide (uptoBulkAll ds ≤ 1048576)
def OpenSpec.upto (s : _root_.Go.ChangeSpec) : _root_.Go.OpenSpec := { _root_.Go.OpenSpec.ofChange s with cond := some uptoSmall }

/-- 'laws.FnHydraValid', WHERE WHAT IT READS IS OF BULK AT MOST 1048576: true; the input reads as it did. -/
def fnHydraValidUptoRow : OpenClaim := { program := "ytibdacanbappnaa", sum := "227c8834710b11e94a3ed33150e2a2be0d41f03c6b2312b52726c324e26abf61", func := "loop.example/ordinalhydras/laws.FnHydraValid", spec := "fnHydraValid", recurses := true, apart := false, narrowed := true }
def FnHydraValidUptoSaid : Prop := fnHydraValidUptoRow.holds Try.pinned (OpenSpec.upto fnHydraValidSpec)

/-- 'laws.FnHydraHeads', WHERE WHAT IT READS IS OF BULK AT MOST 1048576: true; the input reads as it did. -/
def fnHydraHeadsUptoRow : OpenClaim := { program := "ytibdacanbappnaa", sum := "227c8834710b11e94a3ed33150e2a2be0d41f03c6b2312b52726c324e26abf61", func := "loop.example/ordinalhydras/laws.FnHydraHeads", spec := "fnHydraHeads", recurses := true, apart := false, narrowed := true }
def FnHydraHeadsUptoSaid : Prop := fnHydraHeadsUptoRow.holds Try.pinned (OpenSpec.upto fnHydraHeadsSpec)

/-- 'laws.FnHydraCut', WHERE WHAT IT READS IS OF BULK AT MOST 1048576: true; the input reads as it did. -/
def fnHydraCutUptoRow : OpenClaim := { program := "ytibdacanbappnaa", sum := "227c8834710b11e94a3ed33150e2a2be0d41f03c6b2312b52726c324e26abf61", func := "loop.example/ordinalhydras/laws.FnHydraCut", spec := "fnHydraCut", inPlace := ["slices.overlaps[*loop.example/ordinalhydras/impl.node]"], recurses := true, apart := false, narrowed := true }
def FnHydraCutUptoSaid : Prop := fnHydraCutUptoRow.holds Try.pinned (OpenSpec.upto fnHydraCutSpec)

/-- 'laws.FnHydraOrd', WHERE WHAT IT READS IS OF BULK AT MOST 1048576: true; the input reads as it did. -/
def fnHydraOrdUptoRow : OpenClaim := { program := "ytibdacanbappnaa", sum := "227c8834710b11e94a3ed33150e2a2be0d41f03c6b2312b52726c324e26abf61", func := "loop.example/ordinalhydras/laws.FnHydraOrd", spec := "fnHydraOrd", unfollowed := true, recurses := true, apart := false, narrowed := true }
def FnHydraOrdUptoSaid : Prop := fnHydraOrdUptoRow.holds Try.pinned (OpenSpec.upto fnHydraOrdSpec)

/-- 'laws.FnHydraOf', WHERE WHAT IT READS IS OF BULK AT MOST 1048576: true; the input reads as it did. -/
def fnHydraOfUptoRow : OpenClaim := { program := "ytibdacanbappnaa", sum := "227c8834710b11e94a3ed33150e2a2be0d41f03c6b2312b52726c324e26abf61", func := "loop.example/ordinalhydras/laws.FnHydraOf", spec := "fnHydraOf", inPlace := ["slices.overlaps[*loop.example/ordinalhydras/impl.node]"], recurses := true, apart := false, narrowed := true }
def FnHydraOfUptoSaid : Prop := fnHydraOfUptoRow.holds Try.pinned (OpenSpec.upto fnHydraOfSpec)

/-- 'laws.FnHydraSort', WHERE WHAT IT READS IS OF BULK AT MOST 1048576: true; the input reads as it did. -/
def fnHydraSortUptoRow : OpenClaim := { program := "ytibdacanbappnaa", sum := "227c8834710b11e94a3ed33150e2a2be0d41f03c6b2312b52726c324e26abf61", func := "loop.example/ordinalhydras/laws.FnHydraSort", spec := "fnHydraSort", unfollowed := true, recurses := true, apart := false, narrowed := true }
def FnHydraSortUptoSaid : Prop := fnHydraSortUptoRow.holds Try.pinned (OpenSpec.upto fnHydraSortSpec)

/-- 'laws.FnHydraSame', WHERE WHAT IT READS IS OF BULK AT MOST 1048576: true; the input reads as it did. -/
def fnHydraSameUptoRow : OpenClaim := { program := "ytibdacanbappnaa", sum := "227c8834710b11e94a3ed33150e2a2be0d41f03c6b2312b52726c324e26abf61", func := "loop.example/ordinalhydras/laws.FnHydraSame", spec := "fnHydraSame", unfollowed := true, recurses := true, apart := false, narrowed := true }
def FnHydraSameUptoSaid : Prop := fnHydraSameUptoRow.holds Try.pinned (OpenSpec.upto fnHydraSameSpec)

/-- 'laws.FnHydraRun', WHERE WHAT IT READS IS OF BULK AT MOST 1048576: true; the input reads as it did. -/
def fnHydraRunUptoRow : OpenClaim := { program := "ytibdacanbappnaa", sum := "227c8834710b11e94a3ed33150e2a2be0d41f03c6b2312b52726c324e26abf61", func := "loop.example/ordinalhydras/laws.FnHydraRun", spec := "fnHydraRun", inPlace := ["slices.overlaps[*loop.example/ordinalhydras/impl.node]"], recurses := true, apart := false, narrowed := true }
def FnHydraRunUptoSaid : Prop := fnHydraRunUptoRow.holds Try.pinned (OpenSpec.upto fnHydraRunSpec)

/-- 'laws.FnHydraFight', WHERE WHAT IT READS IS OF BULK AT MOST 1048576: true; the input reads as it did. -/
def fnHydraFightUptoRow : OpenClaim := { program := "ytibdacanbappnaa", sum := "227c8834710b11e94a3ed33150e2a2be0d41f03c6b2312b52726c324e26abf61", func := "loop.example/ordinalhydras/laws.FnHydraFight", spec := "fnHydraFight", inPlace := ["slices.overlaps[*loop.example/ordinalhydras/impl.node]"], unfollowed := true, recurses := true, apart := false, narrowed := true }
def FnHydraFightUptoSaid : Prop := fnHydraFightUptoRow.holds Try.pinned (OpenSpec.upto fnHydraFightSpec)

/-- 'laws.FnOrdCompare', WHERE WHAT IT READS IS OF BULK AT MOST 1048576: true; the input reads as it did. -/
def fnOrdCompareUptoRow : OpenClaim := { program := "ytibdacanbappnaa", sum := "227c8834710b11e94a3ed33150e2a2be0d41f03c6b2312b52726c324e26abf61", func := "loop.example/ordinalhydras/laws.FnOrdCompare", spec := "fnOrdCompare", recurses := true, apart := false, narrowed := true }
def FnOrdCompareUptoSaid : Prop := fnOrdCompareUptoRow.holds Try.pinned (OpenSpec.upto fnOrdCompareSpec)

/-- 'laws.FnOrdNext', WHERE WHAT IT READS IS OF BULK AT MOST 1048576: true; the input reads as it did. -/
def fnOrdNextUptoRow : OpenClaim := { program := "ytibdacanbappnaa", sum := "227c8834710b11e94a3ed33150e2a2be0d41f03c6b2312b52726c324e26abf61", func := "loop.example/ordinalhydras/laws.FnOrdNext", spec := "fnOrdNext", recurses := true, apart := false, narrowed := true }
def FnOrdNextUptoSaid : Prop := fnOrdNextUptoRow.holds Try.pinned (OpenSpec.upto fnOrdNextSpec)

/-- 'laws.FnOrdBefore', WHERE WHAT IT READS IS OF BULK AT MOST 1048576: true; the input reads as it did. -/
def fnOrdBeforeUptoRow : OpenClaim := { program := "ytibdacanbappnaa", sum := "227c8834710b11e94a3ed33150e2a2be0d41f03c6b2312b52726c324e26abf61", func := "loop.example/ordinalhydras/laws.FnOrdBefore", spec := "fnOrdBefore", recurses := true, apart := false, narrowed := true }
def FnOrdBeforeUptoSaid : Prop := fnOrdBeforeUptoRow.holds Try.pinned (OpenSpec.upto fnOrdBeforeSpec)

end Rows
end Go.Proofs.Ytibdacanbappnaa
