/-
  No cell of these rows narrows 'for every input' (looked for: loops, veiled, ifaces, maps, wideKeys, modest, calm, conditions, laid).
  DERIVED. THE GIVEN ROWS OF THIS SEAT. 3 by the template 'for every input the law returns true; each argument reads behind the call as it read before'; 0 by the template 'total and deterministic' (their statements: YtlbaelehmoidpaaTotals.lean).
  GIVEN WITH THE SEED: the statements are not yours to turn. If you find one false, say at which input.
  Laid BY PROGRAM, IN A SANDBOX (cutbox-rows.mjs): the forced cells as the released guide's own fill.sh prints them over the translation 7e70c4f4645645df… (all of the seat's roots in one cut). By AI agents, Wed Nov 11 2026. No macro, syntax, notation, axiom, sorry.
-/
import Derived.Test.YtlbaelehmoidpaaChecked
import GoSem.Claim
import GoSem.ClaimJoined
import GoSem.ClaimMapViews
import Derived.JoinedTies
import Derived.KernelRfl
namespace Go.Proofs.Ytlbaelehmoidpaa
/- THE CELL 'sum', in the pinned program and in every row, IS THE sha256 OF THE DUMP (.gsa) THAT YtlbaelehmoidpaaProg.lean LOADS. Nothing in Lean hashes anything: it is a label: what it is worth is what the hold of that sum in a sandbox is worth. -/
noncomputable def Try.pinned : Pinned := { name := "ytlbaelehmoidpaa", sum := "7e70c4f4645645dff40522ebec8395c70d42423649d270c35f2189ce22d7ee09", checked := Try.checked }
namespace Rows
def none {H : Type} : Left H := { results := [], args := [] }

/-- 'laws.FnHydraCut': WHATEVER THE INPUT: true; the input reads as it did. -/
def fnHydraCutSpec : ChangeSpec := { name := "fnHydraCut", fn := fun _ => fun
  | [d] => { results := [.lit (.bool true)], args := [d] }
  | _ => none }
def fnHydraCutRow : OpenClaim := { program := "ytlbaelehmoidpaa", sum := "7e70c4f4645645dff40522ebec8395c70d42423649d270c35f2189ce22d7ee09", func := "loop.example/ordinalhydras/laws.FnHydraCut", spec := "fnHydraCut", inPlace := ["slices.overlaps[*loop.example/ordinalhydras/impl.node]"], recurses := true, apart := false }
def FnHydraCutSaid : Prop := fnHydraCutRow.holds Try.pinned (OpenSpec.ofChange fnHydraCutSpec)

/-- ITS FALSE NEIGHBOUR: 'it returns false'. Refute it at one input. -/
def fnHydraCutWrong : ChangeSpec := { name := "fnHydraCut", fn := fun _ => fun
  | [d] => { results := [.lit (.bool false)], args := [d] }
  | _ => none }
def FnHydraCutWrongFalsely : Prop := fnHydraCutRow.holds Try.pinned (OpenSpec.ofChange fnHydraCutWrong)

/-- 'laws.FnHydraRun': WHATEVER THE INPUT: true; the input reads as it did. -/
def fnHydraRunSpec : ChangeSpec := { name := "fnHydraRun", fn := fun _ => fun
  | [d] => { results := [.lit (.bool true)], args := [d] }
  | _ => none }
def fnHydraRunRow : OpenClaim := { program := "ytlbaelehmoidpaa", sum := "7e70c4f4645645dff40522ebec8395c70d42423649d270c35f2189ce22d7ee09", func := "loop.example/ordinalhydras/laws.FnHydraRun", spec := "fnHydraRun", inPlace := ["slices.overlaps[*loop.example/ordinalhydras/impl.node]"], recurses := true, apart := false }
def FnHydraRunSaid : Prop := fnHydraRunRow.holds Try.pinned (OpenSpec.ofChange fnHydraRunSpec)

/-- ITS FALSE NEIGHBOUR: 'it returns false'. Refute it at one input. -/
def fnHydraRunWrong : ChangeSpec := { name := "fnHydraRun", fn := fun _ => fun
  | [d] => { results := [.lit (.bool false)], args := [d] }
  | _ => none }
def FnHydraRunWrongFalsely : Prop := fnHydraRunRow.holds Try.pinned (OpenSpec.ofChange fnHydraRunWrong)

/-- 'laws.FnHydraOf': WHATEVER THE INPUT: true; the input reads as it did. -/
def fnHydraOfSpec : ChangeSpec := { name := "fnHydraOf", fn := fun _ => fun
  | [d1, d2] => { results := [.lit (.bool true)], args := [d1, d2] }
  | _ => none }
def fnHydraOfRow : OpenClaim := { program := "ytlbaelehmoidpaa", sum := "7e70c4f4645645dff40522ebec8395c70d42423649d270c35f2189ce22d7ee09", func := "loop.example/ordinalhydras/laws.FnHydraOf", spec := "fnHydraOf", inPlace := ["slices.overlaps[*loop.example/ordinalhydras/impl.node]"], recurses := true, apart := false }
def FnHydraOfSaid : Prop := fnHydraOfRow.holds Try.pinned (OpenSpec.ofChange fnHydraOfSpec)

/-- ITS FALSE NEIGHBOUR: 'it returns false'. Refute it at one input. -/
def fnHydraOfWrong : ChangeSpec := { name := "fnHydraOf", fn := fun _ => fun
  | [d1, d2] => { results := [.lit (.bool false)], args := [d1, d2] }
  | _ => none }
def FnHydraOfWrongFalsely : Prop := fnHydraOfRow.holds Try.pinned (OpenSpec.ofChange fnHydraOfWrong)

/- THE SECOND FORM. 'bulk': how many values and letters a reading holds, each counted each time it is reached (what is shared counts as often as it is met; a slice's spare places count too). A statement '..UptoSaid' is the law's where the arguments, and the package variables that the reading takes, are together of bulk at most 1048576: NARROWER than '..Said'. Prove '..Said' where nothing that the law and all that it calls make is longer than what came in: it says more and counts as full. Else prove '..UptoSaid'. A law counts once. -/
mutual
def uptoBulk {H : Type} : DataW H → Nat
  | .lit (.string bytes) => bytes.length + 1
  | .lit _ => 1
  | .nil => 1
  | .ptr d => uptoBulk d + 1
  | .slice elems spare => uptoBulkAll elems + uptoBulkAll spare + 1
  | .agg parts => uptoBulkAll parts + 1
  | .iface _ d => uptoBulk d + 1
  | .map entries => uptoBulkEntries entries + 1
  | .held _ => 1
def uptoBulkAll {H : Type} : List (DataW H) → Nat
  | [] => 0
  | d :: r => uptoBulk d + uptoBulkAll r
def uptoBulkEntries {H : Type} : List (Lit × DataW H) → Nat
  | [] => 0
  | x :: r => uptoBulkEntry x + uptoBulkEntries r
def uptoBulkEntry {H : Type} : Lit × DataW H → Nat
  | (.string bytes, d) => bytes.length + uptoBulk d + 1
  | (_, d) => uptoBulk d + 1
 end
def uptoSmall : (H : Type) → List (DataW H) → Bool := fun _ ds => decide (uptoBulkAll ds ≤ 1048576)
def OpenSpec.upto (s : _root_.Go.ChangeSpec) : _root_.Go.OpenSpec := { _root_.Go.OpenSpec.ofChange s with cond := some uptoSmall }

/-- 'laws.FnHydraCut', WHERE WHAT IT READS IS OF BULK AT MOST 1048576: true; the input reads as it did. -/
def fnHydraCutUptoRow : OpenClaim := { program := "ytlbaelehmoidpaa", sum := "7e70c4f4645645dff40522ebec8395c70d42423649d270c35f2189ce22d7ee09", func := "loop.example/ordinalhydras/laws.FnHydraCut", spec := "fnHydraCut", inPlace := ["slices.overlaps[*loop.example/ordinalhydras/impl.node]"], recurses := true, apart := false, narrowed := true }
def FnHydraCutUptoSaid : Prop := fnHydraCutUptoRow.holds Try.pinned (OpenSpec.upto fnHydraCutSpec)

/-- 'laws.FnHydraRun', WHERE WHAT IT READS IS OF BULK AT MOST 1048576: true; the input reads as it did. -/
def fnHydraRunUptoRow : OpenClaim := { program := "ytlbaelehmoidpaa", sum := "7e70c4f4645645dff40522ebec8395c70d42423649d270c35f2189ce22d7ee09", func := "loop.example/ordinalhydras/laws.FnHydraRun", spec := "fnHydraRun", inPlace := ["slices.overlaps[*loop.example/ordinalhydras/impl.node]"], recurses := true, apart := false, narrowed := true }
def FnHydraRunUptoSaid : Prop := fnHydraRunUptoRow.holds Try.pinned (OpenSpec.upto fnHydraRunSpec)

/-- 'laws.FnHydraOf', WHERE WHAT IT READS IS OF BULK AT MOST 1048576: true; the input reads as it did. -/
def fnHydraOfUptoRow : OpenClaim := { program := "ytlbaelehmoidpaa", sum := "7e70c4f4645645dff40522ebec8395c70d42423649d270c35f2189ce22d7ee09", func := "loop.example/ordinalhydras/laws.FnHydraOf", spec := "fnHydraOf", inPlace := ["slices.overlaps[*loop.example/ordinalhydras/impl.node]"], recurses := true, apart := false, narrowed := true }
def FnHydraOfUptoSaid : Prop := fnHydraOfUptoRow.holds Try.pinned (OpenSpec.upto fnHydraOfSpec)

end Rows
end Go.Proofs.Ytlbaelehmoidpaa
