/-
  No cell of these rows narrows 'for every input' (looked for: loops, veiled, ifaces, maps, wideKeys, modest, calm, conditions, laid).
  DERIVED. THE GIVEN ROWS OF THIS SEAT. 9 by the template 'for every input the law returns true; each argument reads behind the call as it read before'; 0 by the template 'total and deterministic' (their statements: YtdcgcohfbcdnnaaTotals.lean).
  GIVEN WITH THE SEED: the statements are not yours to turn. If you find one false, say at which input.
  Laid BY PROGRAM, IN A SANDBOX (cutbox-rows.mjs): the forced cells as the released guide's own fill.sh prints them over the translation 49983b02926dc6e2… (all of the seat's roots in one cut). By AI agents, Wed Nov 11 2026. No macro, syntax, notation, axiom, sorry.
-/
import Derived.Test.YtdcgcohfbcdnnaaChecked
import GoSem.Claim
import GoSem.ClaimJoined
import GoSem.ClaimMapViews
import Derived.JoinedTies
import Derived.KernelRfl
namespace Go.Proofs.Ytdcgcohfbcdnnaa
/- THE CELL 'sum', in the pinned program and in every row, IS THE sha256 OF THE DUMP (.gsa) THAT YtdcgcohfbcdnnaaProg.lean LOADS. Nothing in Lean hashes anything: it is a label: what it is worth is what the hold of that sum in a sandbox is worth. -/
noncomputable def Try.pinned : Pinned := { name := "ytdcgcohfbcdnnaa", sum := "49983b02926dc6e282985e18e124d65f9236e021dcd824b4f51ed2c267803de2", checked := Try.checked }
namespace Rows
def none {H : Type} : Left H := { results := [], args := [] }

/-- 'laws.FnExactHydraCut': WHATEVER THE INPUT: true; the input reads as it did. -/
def fnExactHydraCutSpec : ChangeSpec := { name := "fnExactHydraCut", fn := fun _ => fun
  | [d1, d2, d3] => { results := [.lit (.bool true)], args := [d1, d2, d3] }
  | _ => none }
def fnExactHydraCutRow : OpenClaim := { program := "ytdcgcohfbcdnnaa", sum := "49983b02926dc6e282985e18e124d65f9236e021dcd824b4f51ed2c267803de2", func := "loop.example/ordinalhydras/laws.FnExactHydraCut", spec := "fnExactHydraCut", inPlace := ["slices.overlaps[*loop.example/ordinalhydras/impl.node]"], recurses := true, apart := false }
def FnExactHydraCutSaid : Prop := fnExactHydraCutRow.holds Try.pinned (OpenSpec.ofChange fnExactHydraCutSpec)

/-- ITS FALSE NEIGHBOUR: 'it returns false'. Refute it at one input. -/
def fnExactHydraCutWrong : ChangeSpec := { name := "fnExactHydraCut", fn := fun _ => fun
  | [d1, d2, d3] => { results := [.lit (.bool false)], args := [d1, d2, d3] }
  | _ => none }
def FnExactHydraCutWrongFalsely : Prop := fnExactHydraCutRow.holds Try.pinned (OpenSpec.ofChange fnExactHydraCutWrong)

/-- 'laws.FnExactHydraRun': WHATEVER THE INPUT: true; the input reads as it did. -/
def fnExactHydraRunSpec : ChangeSpec := { name := "fnExactHydraRun", fn := fun _ => fun
  | [d1, d2, d3] => { results := [.lit (.bool true)], args := [d1, d2, d3] }
  | _ => none }
def fnExactHydraRunRow : OpenClaim := { program := "ytdcgcohfbcdnnaa", sum := "49983b02926dc6e282985e18e124d65f9236e021dcd824b4f51ed2c267803de2", func := "loop.example/ordinalhydras/laws.FnExactHydraRun", spec := "fnExactHydraRun", inPlace := ["slices.overlaps[*loop.example/ordinalhydras/impl.node]"], recurses := true, apart := false }
def FnExactHydraRunSaid : Prop := fnExactHydraRunRow.holds Try.pinned (OpenSpec.ofChange fnExactHydraRunSpec)

/-- ITS FALSE NEIGHBOUR: 'it returns false'. Refute it at one input. -/
def fnExactHydraRunWrong : ChangeSpec := { name := "fnExactHydraRun", fn := fun _ => fun
  | [d1, d2, d3] => { results := [.lit (.bool false)], args := [d1, d2, d3] }
  | _ => none }
def FnExactHydraRunWrongFalsely : Prop := fnExactHydraRunRow.holds Try.pinned (OpenSpec.ofChange fnExactHydraRunWrong)

/-- 'laws.FnExactHydraFight': WHATEVER THE INPUT: true; the input reads as it did. -/
def fnExactHydraFightSpec : ChangeSpec := { name := "fnExactHydraFight", fn := fun _ => fun
  | [d1, d2] => { results := [.lit (.bool true)], args := [d1, d2] }
  | _ => none }
def fnExactHydraFightRow : OpenClaim := { program := "ytdcgcohfbcdnnaa", sum := "49983b02926dc6e282985e18e124d65f9236e021dcd824b4f51ed2c267803de2", func := "loop.example/ordinalhydras/laws.FnExactHydraFight", spec := "fnExactHydraFight", inPlace := ["slices.overlaps[*loop.example/ordinalhydras/impl.node]"], recurses := true, apart := false }
def FnExactHydraFightSaid : Prop := fnExactHydraFightRow.holds Try.pinned (OpenSpec.ofChange fnExactHydraFightSpec)

/-- ITS FALSE NEIGHBOUR: 'it returns false'. Refute it at one input. -/
def fnExactHydraFightWrong : ChangeSpec := { name := "fnExactHydraFight", fn := fun _ => fun
  | [d1, d2] => { results := [.lit (.bool false)], args := [d1, d2] }
  | _ => none }
def FnExactHydraFightWrongFalsely : Prop := fnExactHydraFightRow.holds Try.pinned (OpenSpec.ofChange fnExactHydraFightWrong)

/-- 'laws.FnExactBattleValid': WHATEVER THE INPUT: true; the input reads as it did. -/
def fnExactBattleValidSpec : ChangeSpec := { name := "fnExactBattleValid", fn := fun _ => fun
  | [d] => { results := [.lit (.bool true)], args := [d] }
  | _ => none }
def fnExactBattleValidRow : OpenClaim := { program := "ytdcgcohfbcdnnaa", sum := "49983b02926dc6e282985e18e124d65f9236e021dcd824b4f51ed2c267803de2", func := "loop.example/ordinalhydras/laws.FnExactBattleValid", spec := "fnExactBattleValid", inPlace := ["slices.overlaps[*loop.example/ordinalhydras/impl.node]"], recurses := true, apart := false }
def FnExactBattleValidSaid : Prop := fnExactBattleValidRow.holds Try.pinned (OpenSpec.ofChange fnExactBattleValidSpec)

/-- ITS FALSE NEIGHBOUR: 'it returns false'. Refute it at one input. -/
def fnExactBattleValidWrong : ChangeSpec := { name := "fnExactBattleValid", fn := fun _ => fun
  | [d] => { results := [.lit (.bool false)], args := [d] }
  | _ => none }
def FnExactBattleValidWrongFalsely : Prop := fnExactBattleValidRow.holds Try.pinned (OpenSpec.ofChange fnExactBattleValidWrong)

/-- 'laws.FnExactBattleNew': WHATEVER THE INPUT: true; the input reads as it did. -/
def fnExactBattleNewSpec : ChangeSpec := { name := "fnExactBattleNew", fn := fun _ => fun
  | [d1, d2] => { results := [.lit (.bool true)], args := [d1, d2] }
  | _ => none }
def fnExactBattleNewRow : OpenClaim := { program := "ytdcgcohfbcdnnaa", sum := "49983b02926dc6e282985e18e124d65f9236e021dcd824b4f51ed2c267803de2", func := "loop.example/ordinalhydras/laws.FnExactBattleNew", spec := "fnExactBattleNew", recurses := true, apart := false }
def FnExactBattleNewSaid : Prop := fnExactBattleNewRow.holds Try.pinned (OpenSpec.ofChange fnExactBattleNewSpec)

/-- ITS FALSE NEIGHBOUR: 'it returns false'. Refute it at one input. -/
def fnExactBattleNewWrong : ChangeSpec := { name := "fnExactBattleNew", fn := fun _ => fun
  | [d1, d2] => { results := [.lit (.bool false)], args := [d1, d2] }
  | _ => none }
def FnExactBattleNewWrongFalsely : Prop := fnExactBattleNewRow.holds Try.pinned (OpenSpec.ofChange fnExactBattleNewWrong)

/-- 'laws.FnExactBattleDo': WHATEVER THE INPUT: true; the input reads as it did. -/
def fnExactBattleDoSpec : ChangeSpec := { name := "fnExactBattleDo", fn := fun _ => fun
  | [d1, d2] => { results := [.lit (.bool true)], args := [d1, d2] }
  | _ => none }
def fnExactBattleDoRow : OpenClaim := { program := "ytdcgcohfbcdnnaa", sum := "49983b02926dc6e282985e18e124d65f9236e021dcd824b4f51ed2c267803de2", func := "loop.example/ordinalhydras/laws.FnExactBattleDo", spec := "fnExactBattleDo", inPlace := ["slices.overlaps[*loop.example/ordinalhydras/impl.node]"], recurses := true, apart := false }
def FnExactBattleDoSaid : Prop := fnExactBattleDoRow.holds Try.pinned (OpenSpec.ofChange fnExactBattleDoSpec)

/-- ITS FALSE NEIGHBOUR: 'it returns false'. Refute it at one input. -/
def fnExactBattleDoWrong : ChangeSpec := { name := "fnExactBattleDo", fn := fun _ => fun
  | [d1, d2] => { results := [.lit (.bool false)], args := [d1, d2] }
  | _ => none }
def FnExactBattleDoWrongFalsely : Prop := fnExactBattleDoRow.holds Try.pinned (OpenSpec.ofChange fnExactBattleDoWrong)

/-- 'laws.FnExactBattleRun': WHATEVER THE INPUT: true; the input reads as it did. -/
def fnExactBattleRunSpec : ChangeSpec := { name := "fnExactBattleRun", fn := fun _ => fun
  | [d1, d2] => { results := [.lit (.bool true)], args := [d1, d2] }
  | _ => none }
def fnExactBattleRunRow : OpenClaim := { program := "ytdcgcohfbcdnnaa", sum := "49983b02926dc6e282985e18e124d65f9236e021dcd824b4f51ed2c267803de2", func := "loop.example/ordinalhydras/laws.FnExactBattleRun", spec := "fnExactBattleRun", inPlace := ["slices.overlaps[*loop.example/ordinalhydras/impl.node]"], recurses := true, apart := false }
def FnExactBattleRunSaid : Prop := fnExactBattleRunRow.holds Try.pinned (OpenSpec.ofChange fnExactBattleRunSpec)

/-- ITS FALSE NEIGHBOUR: 'it returns false'. Refute it at one input. -/
def fnExactBattleRunWrong : ChangeSpec := { name := "fnExactBattleRun", fn := fun _ => fun
  | [d1, d2] => { results := [.lit (.bool false)], args := [d1, d2] }
  | _ => none }
def FnExactBattleRunWrongFalsely : Prop := fnExactBattleRunRow.holds Try.pinned (OpenSpec.ofChange fnExactBattleRunWrong)

/-- 'laws.FnExactBattleLeft': WHATEVER THE INPUT: true; the input reads as it did. -/
def fnExactBattleLeftSpec : ChangeSpec := { name := "fnExactBattleLeft", fn := fun _ => fun
  | [d] => { results := [.lit (.bool true)], args := [d] }
  | _ => none }
def fnExactBattleLeftRow : OpenClaim := { program := "ytdcgcohfbcdnnaa", sum := "49983b02926dc6e282985e18e124d65f9236e021dcd824b4f51ed2c267803de2", func := "loop.example/ordinalhydras/laws.FnExactBattleLeft", spec := "fnExactBattleLeft", inPlace := ["slices.overlaps[*loop.example/ordinalhydras/impl.node]"], recurses := true, apart := false }
def FnExactBattleLeftSaid : Prop := fnExactBattleLeftRow.holds Try.pinned (OpenSpec.ofChange fnExactBattleLeftSpec)

/-- ITS FALSE NEIGHBOUR: 'it returns false'. Refute it at one input. -/
def fnExactBattleLeftWrong : ChangeSpec := { name := "fnExactBattleLeft", fn := fun _ => fun
  | [d] => { results := [.lit (.bool false)], args := [d] }
  | _ => none }
def FnExactBattleLeftWrongFalsely : Prop := fnExactBattleLeftRow.holds Try.pinned (OpenSpec.ofChange fnExactBattleLeftWrong)

/-- 'laws.FnExactBattleFall': WHATEVER THE INPUT: true; the input reads as it did. -/
def fnExactBattleFallSpec : ChangeSpec := { name := "fnExactBattleFall", fn := fun _ => fun
  | [d] => { results := [.lit (.bool true)], args := [d] }
  | _ => none }
def fnExactBattleFallRow : OpenClaim := { program := "ytdcgcohfbcdnnaa", sum := "49983b02926dc6e282985e18e124d65f9236e021dcd824b4f51ed2c267803de2", func := "loop.example/ordinalhydras/laws.FnExactBattleFall", spec := "fnExactBattleFall", inPlace := ["slices.overlaps[*loop.example/ordinalhydras/impl.node]"], recurses := true, apart := false }
def FnExactBattleFallSaid : Prop := fnExactBattleFallRow.holds Try.pinned (OpenSpec.ofChange fnExactBattleFallSpec)

/-- ITS FALSE NEIGHBOUR: 'it returns false'. Refute it at one input. -/
def fnExactBattleFallWrong : ChangeSpec := { name := "fnExactBattleFall", fn := fun _ => fun
  | [d] => { results := [.lit (.bool false)], args := [d] }
  | _ => none }
def FnExactBattleFallWrongFalsely : Prop := fnExactBattleFallRow.holds Try.pinned (OpenSpec.ofChange fnExactBattleFallWrong)

/- THE SECOND FORM. 'bulk': how many values and letters a reading holds, each counted each time it is reached (what is shared counts as often as it is met; a slice's spare places count too). A statement '..UptoSaid' is the law's where the arguments, and the package variables that the reading takes, are together of bulk at most 1048576: NARROWER than '..Said'. Prove '..Said' where nothing that the law and all that it calls make is longer than what came in: it says more and counts as full. Else prove '..UptoSaid'. A law counts once. -/
mutual
def uptoBulk {H : Type} : DataW H → Nat
  | .lit (.string bytes) => bytes.length + 1
  | .lit _ => 1
  | .nil => 1
  | .ptr d => uptoBulk d + 1
  | .slice elems spare => uptoBulkAll elems + uptoBulkAll spare + 1
  | .agg parts => uptoBulkAll parts + 1
  | .iface _ d => uptoBulk d + 1
  | .map entries => uptoBulkEntries entries + 1
  | .held _ => 1
def uptoBulkAll {H : Type} : List (DataW H) → Nat
  | [] => 0
  | d :: r => uptoBulk d + uptoBulkAll r
def uptoBulkEntries {H : Type} : List (Lit × DataW H) → Nat
  | [] => 0
  | x :: r => uptoBulkEntry x + uptoBulkEntries r
def uptoBulkEntry {H : Type} : Lit × DataW H → Nat
  | (.string bytes, d) => bytes.length + uptoBulk d + 1
  | (_, d) => uptoBulk d + 1
 end
def uptoSmall : (H : Type) → List (DataW H) → Bool := fun _ ds => decide (uptoBulkAll ds ≤ 1048576)
def OpenSpec.upto (s : _root_.Go.ChangeSpec) : _root_.Go.OpenSpec := { _root_.Go.OpenSpec.ofChange s with cond := some uptoSmall }

/-- 'laws.FnExactHydraCut', WHERE WHAT IT READS IS OF BULK AT MOST 1048576: true; the input reads as it did. -/
def fnExactHydraCutUptoRow : OpenClaim := { program := "ytdcgcohfbcdnnaa", sum := "49983b02926dc6e282985e18e124d65f9236e021dcd824b4f51ed2c267803de2", func := "loop.example/ordinalhydras/laws.FnExactHydraCut", spec := "fnExactHydraCut", inPlace := ["slices.overlaps[*loop.example/ordinalhydras/impl.node]"], recurses := true, apart := false, narrowed := true }
def FnExactHydraCutUptoSaid : Prop := fnExactHydraCutUptoRow.holds Try.pinned (OpenSpec.upto fnExactHydraCutSpec)

/-- 'laws.FnExactHydraRun', WHERE WHAT IT READS IS OF BULK AT MOST 1048576: true; the input reads as it did. -/
def fnExactHydraRunUptoRow : OpenClaim := { program := "ytdcgcohfbcdnnaa", sum := "49983b02926dc6e282985e18e124d65f9236e021dcd824b4f51ed2c267803de2", func := "loop.example/ordinalhydras/laws.FnExactHydraRun", spec := "fnExactHydraRun", inPlace := ["slices.overlaps[*loop.example/ordinalhydras/impl.node]"], recurses := true, apart := false, narrowed := true }
def FnExactHydraRunUptoSaid : Prop := fnExactHydraRunUptoRow.holds Try.pinned (OpenSpec.upto fnExactHydraRunSpec)

/-- 'laws.FnExactHydraFight', WHERE WHAT IT READS IS OF BULK AT MOST 1048576: true; the input reads as it did. -/
def fnExactHydraFightUptoRow : OpenClaim := { program := "ytdcgcohfbcdnnaa", sum := "49983b02926dc6e282985e18e124d65f9236e021dcd824b4f51ed2c267803de2", func := "loop.example/ordinalhydras/laws.FnExactHydraFight", spec := "fnExactHydraFight", inPlace := ["slices.overlaps[*loop.example/ordinalhydras/impl.node]"], recurses := true, apart := false, narrowed := true }
def FnExactHydraFightUptoSaid : Prop := fnExactHydraFightUptoRow.holds Try.pinned (OpenSpec.upto fnExactHydraFightSpec)

/-- 'laws.FnExactBattleValid', WHERE WHAT IT READS IS OF BULK AT MOST 1048576: true; the input reads as it did. -/
def fnExactBattleValidUptoRow : OpenClaim := { program := "ytdcgcohfbcdnnaa", sum := "49983b02926dc6e282985e18e124d65f9236e021dcd824b4f51ed2c267803de2", func := "loop.example/ordinalhydras/laws.FnExactBattleValid", spec := "fnExactBattleValid", inPlace := ["slices.overlaps[*loop.example/ordinalhydras/impl.node]"], recurses := true, apart := false, narrowed := true }
def FnExactBattleValidUptoSaid : Prop := fnExactBattleValidUptoRow.holds Try.pinned (OpenSpec.upto fnExactBattleValidSpec)

/-- 'laws.FnExactBattleNew', WHERE WHAT IT READS IS OF BULK AT MOST 1048576: true; the input reads as it did. -/
def fnExactBattleNewUptoRow : OpenClaim := { program := "ytdcgcohfbcdnnaa", sum := "49983b02926dc6e282985e18e124d65f9236e021dcd824b4f51ed2c267803de2", func := "loop.example/ordinalhydras/laws.FnExactBattleNew", spec := "fnExactBattleNew", recurses := true, apart := false, narrowed := true }
def FnExactBattleNewUptoSaid : Prop := fnExactBattleNewUptoRow.holds Try.pinned (OpenSpec.upto fnExactBattleNewSpec)

/-- 'laws.FnExactBattleDo', WHERE WHAT IT READS IS OF BULK AT MOST 1048576: true; the input reads as it did. -/
def fnExactBattleDoUptoRow : OpenClaim := { program := "ytdcgcohfbcdnnaa", sum := "49983b02926dc6e282985e18e124d65f9236e021dcd824b4f51ed2c267803de2", func := "loop.example/ordinalhydras/laws.FnExactBattleDo", spec := "fnExactBattleDo", inPlace := ["slices.overlaps[*loop.example/ordinalhydras/impl.node]"], recurses := true, apart := false, narrowed := true }
def FnExactBattleDoUptoSaid : Prop := fnExactBattleDoUptoRow.holds Try.pinned (OpenSpec.upto fnExactBattleDoSpec)

/-- 'laws.FnExactBattleRun', WHERE WHAT IT READS IS OF BULK AT MOST 1048576: true; the input reads as it did. -/
def fnExactBattleRunUptoRow : OpenClaim := { program := "ytdcgcohfbcdnnaa", sum := "49983b02926dc6e282985e18e124d65f9236e021dcd824b4f51ed2c267803de2", func := "loop.example/ordinalhydras/laws.FnExactBattleRun", spec := "fnExactBattleRun", inPlace := ["slices.overlaps[*loop.example/ordinalhydras/impl.node]"], recurses := true, apart := false, narrowed := true }
def FnExactBattleRunUptoSaid : Prop := fnExactBattleRunUptoRow.holds Try.pinned (OpenSpec.upto fnExactBattleRunSpec)

/-- 'laws.FnExactBattleLeft', WHERE WHAT IT READS IS OF BULK AT MOST 1048576: true; the input reads as it did. -/
def fnExactBattleLeftUptoRow : OpenClaim := { program := "ytdcgcohfbcdnnaa", sum := "49983b02926dc6e282985e18e124d65f9236e021dcd824b4f51ed2c267803de2", func := "loop.example/ordinalhydras/laws.FnExactBattleLeft", spec := "fnExactBattleLeft", inPlace := ["slices.overlaps[*loop.example/ordinalhydras/impl.node]"], recurses := true, apart := false, narrowed := true }
def FnExactBattleLeftUptoSaid : Prop := fnExactBattleLeftUptoRow.holds Try.pinned (OpenSpec.upto fnExactBattleLeftSpec)

/-- 'laws.FnExactBattleFall', WHERE WHAT IT READS IS OF BULK AT MOST 1048576: true; the input reads as it did. -/
def fnExactBattleFallUptoRow : OpenClaim := { program := "ytdcgcohfbcdnnaa", sum := "49983b02926dc6e282985e18e124d65f9236e021dcd824b4f51ed2c267803de2", func := "loop.example/ordinalhydras/laws.FnExactBattleFall", spec := "fnExactBattleFall", inPlace := ["slices.overlaps[*loop.example/ordinalhydras/impl.node]"], recurses := true, apart := false, narrowed := true }
def FnExactBattleFallUptoSaid : Prop := fnExactBattleFallUptoRow.holds Try.pinned (OpenSpec.upto fnExactBattleFallSpec)

end Rows
end Go.Proofs.Ytdcgcohfbcdnnaa
