/-
  No cell of these rows narrows 'for every input' (looked for: loops, veiled, ifaces, maps, wideKeys, modest, calm, conditions, laid).
  DERIVED. THE GIVEN ROWS OF THIS SEAT. 6 by the template 'for every input the law returns true; each argument reads behind the call as it read before'; 0 by the template 'total and deterministic' (their statements: YtienfbdgghnnpabTotals.lean).
  GIVEN WITH THE SEED: the statements are not yours to turn. If you find one false, say at which input.
  Laid BY PROGRAM, IN A SANDBOX (cutbox-rows.mjs): the forced cells as the released guide's own fill.sh prints them over the translation cbdd3a37f3c329e2… (all of the seat's roots in one cut). By AI agents, Wed Nov 11 2026. No macro, syntax, notation, axiom, sorry.
-/
import Derived.Test.YtienfbdgghnnpabChecked
import GoSem.Claim
import GoSem.ClaimJoined
import GoSem.ClaimMapViews
import Derived.JoinedTies
import Derived.KernelRfl
namespace Go.Proofs.Ytienfbdgghnnpab
/- THE CELL 'sum', in the pinned program and in every row, IS THE sha256 OF THE DUMP (.gsa) THAT YtienfbdgghnnpabProg.lean LOADS. Nothing in Lean hashes anything: it is a label: what it is worth is what the hold of that sum in a sandbox is worth. -/
noncomputable def Try.pinned : Pinned := { name := "ytienfbdgghnnpab", sum := "cbdd3a37f3c329e274b239bd0730f612f52090b4388b743528170d1a6427d17f", checked := Try.checked }
namespace Rows
def none {H : Type} : Left H := { results := [], args := [] }

/-- 'laws.FnOrdNext': WHATEVER THE INPUT: true; the input reads as it did. -/
def fnOrdNextSpec : ChangeSpec := { name := "fnOrdNext", fn := fun _ => fun
  | [d1, d2] => { results := [.lit (.bool true)], args := [d1, d2] }
  | _ => none }
def fnOrdNextRow : OpenClaim := { program := "ytienfbdgghnnpab", sum := "cbdd3a37f3c329e274b239bd0730f612f52090b4388b743528170d1a6427d17f", func := "loop.example/ordinalhydras/laws.FnOrdNext", spec := "fnOrdNext", recurses := true, apart := false }
def FnOrdNextSaid : Prop := fnOrdNextRow.holds Try.pinned (OpenSpec.ofChange fnOrdNextSpec)

/-- ITS FALSE NEIGHBOUR: 'it returns false'. Refute it at one input. -/
def fnOrdNextWrong : ChangeSpec := { name := "fnOrdNext", fn := fun _ => fun
  | [d1, d2] => { results := [.lit (.bool false)], args := [d1, d2] }
  | _ => none }
def FnOrdNextWrongFalsely : Prop := fnOrdNextRow.holds Try.pinned (OpenSpec.ofChange fnOrdNextWrong)

/-- 'laws.FnExactOrdNext': WHATEVER THE INPUT: true; the input reads as it did. -/
def fnExactOrdNextSpec : ChangeSpec := { name := "fnExactOrdNext", fn := fun _ => fun
  | [d] => { results := [.lit (.bool true)], args := [d] }
  | _ => none }
def fnExactOrdNextRow : OpenClaim := { program := "ytienfbdgghnnpab", sum := "cbdd3a37f3c329e274b239bd0730f612f52090b4388b743528170d1a6427d17f", func := "loop.example/ordinalhydras/laws.FnExactOrdNext", spec := "fnExactOrdNext", recurses := true, apart := false }
def FnExactOrdNextSaid : Prop := fnExactOrdNextRow.holds Try.pinned (OpenSpec.ofChange fnExactOrdNextSpec)

/-- ITS FALSE NEIGHBOUR: 'it returns false'. Refute it at one input. -/
def fnExactOrdNextWrong : ChangeSpec := { name := "fnExactOrdNext", fn := fun _ => fun
  | [d] => { results := [.lit (.bool false)], args := [d] }
  | _ => none }
def FnExactOrdNextWrongFalsely : Prop := fnExactOrdNextRow.holds Try.pinned (OpenSpec.ofChange fnExactOrdNextWrong)

/-- 'laws.FnOrdBefore': WHATEVER THE INPUT: true; the input reads as it did. -/
def fnOrdBeforeSpec : ChangeSpec := { name := "fnOrdBefore", fn := fun _ => fun
  | [d] => { results := [.lit (.bool true)], args := [d] }
  | _ => none }
def fnOrdBeforeRow : OpenClaim := { program := "ytienfbdgghnnpab", sum := "cbdd3a37f3c329e274b239bd0730f612f52090b4388b743528170d1a6427d17f", func := "loop.example/ordinalhydras/laws.FnOrdBefore", spec := "fnOrdBefore", recurses := true, apart := false }
def FnOrdBeforeSaid : Prop := fnOrdBeforeRow.holds Try.pinned (OpenSpec.ofChange fnOrdBeforeSpec)

/-- ITS FALSE NEIGHBOUR: 'it returns false'. Refute it at one input. -/
def fnOrdBeforeWrong : ChangeSpec := { name := "fnOrdBefore", fn := fun _ => fun
  | [d] => { results := [.lit (.bool false)], args := [d] }
  | _ => none }
def FnOrdBeforeWrongFalsely : Prop := fnOrdBeforeRow.holds Try.pinned (OpenSpec.ofChange fnOrdBeforeWrong)

/-- 'laws.FnExactOrdBefore': WHATEVER THE INPUT: true; the input reads as it did. -/
def fnExactOrdBeforeSpec : ChangeSpec := { name := "fnExactOrdBefore", fn := fun _ => fun
  | [d] => { results := [.lit (.bool true)], args := [d] }
  | _ => none }
def fnExactOrdBeforeRow : OpenClaim := { program := "ytienfbdgghnnpab", sum := "cbdd3a37f3c329e274b239bd0730f612f52090b4388b743528170d1a6427d17f", func := "loop.example/ordinalhydras/laws.FnExactOrdBefore", spec := "fnExactOrdBefore", recurses := true, apart := false }
def FnExactOrdBeforeSaid : Prop := fnExactOrdBeforeRow.holds Try.pinned (OpenSpec.ofChange fnExactOrdBeforeSpec)

/-- ITS FALSE NEIGHBOUR: 'it returns false'. Refute it at one input. -/
def fnExactOrdBeforeWrong : ChangeSpec := { name := "fnExactOrdBefore", fn := fun _ => fun
  | [d] => { results := [.lit (.bool false)], args := [d] }
  | _ => none }
def FnExactOrdBeforeWrongFalsely : Prop := fnExactOrdBeforeRow.holds Try.pinned (OpenSpec.ofChange fnExactOrdBeforeWrong)

/-- 'laws.FnOrdDepth': WHATEVER THE INPUT: true; the input reads as it did. -/
def fnOrdDepthSpec : ChangeSpec := { name := "fnOrdDepth", fn := fun _ => fun
  | [d1, d2] => { results := [.lit (.bool true)], args := [d1, d2] }
  | _ => none }
def fnOrdDepthRow : OpenClaim := { program := "ytienfbdgghnnpab", sum := "cbdd3a37f3c329e274b239bd0730f612f52090b4388b743528170d1a6427d17f", func := "loop.example/ordinalhydras/laws.FnOrdDepth", spec := "fnOrdDepth", recurses := true, apart := false }
def FnOrdDepthSaid : Prop := fnOrdDepthRow.holds Try.pinned (OpenSpec.ofChange fnOrdDepthSpec)

/-- ITS FALSE NEIGHBOUR: 'it returns false'. Refute it at one input. -/
def fnOrdDepthWrong : ChangeSpec := { name := "fnOrdDepth", fn := fun _ => fun
  | [d1, d2] => { results := [.lit (.bool false)], args := [d1, d2] }
  | _ => none }
def FnOrdDepthWrongFalsely : Prop := fnOrdDepthRow.holds Try.pinned (OpenSpec.ofChange fnOrdDepthWrong)

/-- 'laws.FnExactOrdDepth': WHATEVER THE INPUT: true; the input reads as it did. -/
def fnExactOrdDepthSpec : ChangeSpec := { name := "fnExactOrdDepth", fn := fun _ => fun
  | [d] => { results := [.lit (.bool true)], args := [d] }
  | _ => none }
def fnExactOrdDepthRow : OpenClaim := { program := "ytienfbdgghnnpab", sum := "cbdd3a37f3c329e274b239bd0730f612f52090b4388b743528170d1a6427d17f", func := "loop.example/ordinalhydras/laws.FnExactOrdDepth", spec := "fnExactOrdDepth", recurses := true, apart := false }
def FnExactOrdDepthSaid : Prop := fnExactOrdDepthRow.holds Try.pinned (OpenSpec.ofChange fnExactOrdDepthSpec)

/-- ITS FALSE NEIGHBOUR: 'it returns false'. Refute it at one input. -/
def fnExactOrdDepthWrong : ChangeSpec := { name := "fnExactOrdDepth", fn := fun _ => fun
  | [d] => { results := [.lit (.bool false)], args := [d] }
  | _ => none }
def FnExactOrdDepthWrongFalsely : Prop := fnExactOrdDepthRow.holds Try.pinned (OpenSpec.ofChange fnExactOrdDepthWrong)

/- THE SECOND FORM. 'bulk': how many values and letters a reading holds, each counted each time it is reached (what is shared counts as often as it is met; a slice's spare places count too). A statement '..UptoSaid' is the law's where the arguments, and the package variables that the reading takes, are together of bulk at most 1048576: NARROWER than '..Said'. Prove '..Said' where nothing that the law and all that it calls make is longer than what came in: it says more and counts as full. Else prove '..UptoSaid'. A law counts once. -/
mutual
def uptoBulk {H : Type} : DataW H → Nat
  | .lit (.string bytes) => bytes.length + 1
  | .lit _ => 1
  | .nil => 1
  | .ptr d => uptoBulk d + 1
  | .slice elems spare => uptoBulkAll elems + uptoBulkAll spare + 1
  | .agg parts => uptoBulkAll parts + 1
  | .iface _ d => uptoBulk d + 1
  | .map entries => uptoBulkEntries entries + 1
  | .held _ => 1
def uptoBulkAll {H : Type} : List (DataW H) → Nat
  | [] => 0
  | d :: r => uptoBulk d + uptoBulkAll r
def uptoBulkEntries {H : Type} : List (Lit × DataW H) → Nat
  | [] => 0
  | x :: r => uptoBulkEntry x + uptoBulkEntries r
def uptoBulkEntry {H : Type} : Lit × DataW H → Nat
  | (.string bytes, d) => bytes.length + uptoBulk d + 1
  | (_, d) => uptoBulk d + 1
 end
def uptoSmall : (H : Type) → List (DataW H) → Bool := fun _ ds => decide (uptoBulkAll ds ≤ 1048576)
def OpenSpec.upto (s : _root_.Go.ChangeSpec) : _root_.Go.OpenSpec := { _root_.Go.OpenSpec.ofChange s with cond := some uptoSmall }

/-- 'laws.FnOrdNext', WHERE WHAT IT READS IS OF BULK AT MOST 1048576: true; the input reads as it did. -/
def fnOrdNextUptoRow : OpenClaim := { program := "ytienfbdgghnnpab", sum := "cbdd3a37f3c329e274b239bd0730f612f52090b4388b743528170d1a6427d17f", func := "loop.example/ordinalhydras/laws.FnOrdNext", spec := "fnOrdNext", recurses := true, apart := false, narrowed := true }
def FnOrdNextUptoSaid : Prop := fnOrdNextUptoRow.holds Try.pinned (OpenSpec.upto fnOrdNextSpec)

/-- 'laws.FnExactOrdNext', WHERE WHAT IT READS IS OF BULK AT MOST 1048576: true; the input reads as it did. -/
def fnExactOrdNextUptoRow : OpenClaim := { program := "ytienfbdgghnnpab", sum := "cbdd3a37f3c329e274b239bd0730f612f52090b4388b743528170d1a6427d17f", func := "loop.example/ordinalhydras/laws.FnExactOrdNext", spec := "fnExactOrdNext", recurses := true, apart := false, narrowed := true }
def FnExactOrdNextUptoSaid : Prop := fnExactOrdNextUptoRow.holds Try.pinned (OpenSpec.upto fnExactOrdNextSpec)

/-- 'laws.FnOrdBefore', WHERE WHAT IT READS IS OF BULK AT MOST 1048576: true; the input reads as it did. -/
def fnOrdBeforeUptoRow : OpenClaim := { program := "ytienfbdgghnnpab", sum := "cbdd3a37f3c329e274b239bd0730f612f52090b4388b743528170d1a6427d17f", func := "loop.example/ordinalhydras/laws.FnOrdBefore", spec := "fnOrdBefore", recurses := true, apart := false, narrowed := true }
def FnOrdBeforeUptoSaid : Prop := fnOrdBeforeUptoRow.holds Try.pinned (OpenSpec.upto fnOrdBeforeSpec)

/-- 'laws.FnExactOrdBefore', WHERE WHAT IT READS IS OF BULK AT MOST 1048576: true; the input reads as it did. -/
def fnExactOrdBeforeUptoRow : OpenClaim := { program := "ytienfbdgghnnpab", sum := "cbdd3a37f3c329e274b239bd0730f612f52090b4388b743528170d1a6427d17f", func := "loop.example/ordinalhydras/laws.FnExactOrdBefore", spec := "fnExactOrdBefore", recurses := true, apart := false, narrowed := true }
def FnExactOrdBeforeUptoSaid : Prop := fnExactOrdBeforeUptoRow.holds Try.pinned (OpenSpec.upto fnExactOrdBeforeSpec)

/-- 'laws.FnOrdDepth', WHERE WHAT IT READS IS OF BULK AT MOST 1048576: true; the input reads as it did. -/
def fnOrdDepthUptoRow : OpenClaim := { program := "ytienfbdgghnnpab", sum := "cbdd3a37f3c329e274b239bd0730f612f52090b4388b743528170d1a6427d17f", func := "loop.example/ordinalhydras/laws.FnOrdDepth", spec := "fnOrdDepth", recurses := true, apart := false, narrowed := true }
def FnOrdDepthUptoSaid : Prop := fnOrdDepthUptoRow.holds Try.pinned (OpenSpec.upto fnOrdDepthSpec)

/-- 'laws.FnExactOrdDepth', WHERE WHAT IT READS IS OF BULK AT MOST 1048576: true; the input reads as it did. -/
def fnExactOrdDepthUptoRow : OpenClaim := { program := "ytienfbdgghnnpab", sum := "cbdd3a37f3c329e274b239bd0730f612f52090b4388b743528170d1a6427d17f", func := "loop.example/ordinalhydras/laws.FnExactOrdDepth", spec := "fnExactOrdDepth", recurses := true, apart := false, narrowed := true }
def FnExactOrdDepthUptoSaid : Prop := fnExactOrdDepthUptoRow.holds Try.pinned (OpenSpec.upto fnExactOrdDepthSpec)

end Rows
end Go.Proofs.Ytienfbdgghnnpab
