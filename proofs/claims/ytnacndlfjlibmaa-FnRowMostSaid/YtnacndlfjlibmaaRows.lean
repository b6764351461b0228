/-
  No cell of these rows narrows 'for every input' (looked for: loops, veiled, ifaces, maps, wideKeys, modest, calm, conditions, laid).
  DERIVED. THE GIVEN ROWS OF THIS SEAT. 11 by the template 'for every input the law returns true; each argument reads behind the call as it read before'; 0 by the template 'total and deterministic' (their statements: YtnacndlfjlibmaaTotals.lean).
  GIVEN WITH THE SEED: the statements are not yours to turn. If you find one false, say at which input.
  Laid BY PROGRAM, IN A SANDBOX (cutbox-rows.mjs): the forced cells as the released guide's own fill.sh prints them over the translation 752605c2baef7460… (all of the seat's roots in one cut). By AI agents, Wed Nov 11 2026. No macro, syntax, notation, axiom, sorry.
-/
import Derived.Test.YtnacndlfjlibmaaChecked
import GoSem.Claim
import GoSem.ClaimJoined
import GoSem.ClaimMapViews
import Derived.JoinedTies
import Derived.KernelRfl
namespace Go.Proofs.Ytnacndlfjlibmaa
/- THE CELL 'sum', in the pinned program and in every row, IS THE sha256 OF THE DUMP (.gsa) THAT YtnacndlfjlibmaaProg.lean LOADS. Nothing in Lean hashes anything: it is a label: what it is worth is what the hold of that sum in a sandbox is worth. -/
noncomputable def Try.pinned : Pinned := { name := "ytnacndlfjlibmaa", sum := "752605c2baef74607f245890650ea0c2588d1200216bfe1eb4ee5cb2f4c82614", checked := Try.checked }
namespace Rows
def none {H : Type} : Left H := { results := [], args := [] }

/-- 'laws.FnRowValid': WHATEVER THE INPUT: true; the input reads as it did. -/
def fnRowValidSpec : ChangeSpec := { name := "fnRowValid", fn := fun _ => fun
  | [d] => { results := [.lit (.bool true)], args := [d] }
  | _ => none }
def fnRowValidRow : OpenClaim := { program := "ytnacndlfjlibmaa", sum := "752605c2baef74607f245890650ea0c2588d1200216bfe1eb4ee5cb2f4c82614", func := "loop.example/ordinalhydras/laws.FnRowValid", spec := "fnRowValid", apart := false }
def FnRowValidSaid : Prop := fnRowValidRow.holds Try.pinned (OpenSpec.ofChange fnRowValidSpec)

/-- ITS FALSE NEIGHBOUR: 'it returns false'. Refute it at one input. -/
def fnRowValidWrong : ChangeSpec := { name := "fnRowValid", fn := fun _ => fun
  | [d] => { results := [.lit (.bool false)], args := [d] }
  | _ => none }
def FnRowValidWrongFalsely : Prop := fnRowValidRow.holds Try.pinned (OpenSpec.ofChange fnRowValidWrong)

/-- 'laws.FnRowCompare': WHATEVER THE INPUT: true; the input reads as it did. -/
def fnRowCompareSpec : ChangeSpec := { name := "fnRowCompare", fn := fun _ => fun
  | [d] => { results := [.lit (.bool true)], args := [d] }
  | _ => none }
def fnRowCompareRow : OpenClaim := { program := "ytnacndlfjlibmaa", sum := "752605c2baef74607f245890650ea0c2588d1200216bfe1eb4ee5cb2f4c82614", func := "loop.example/ordinalhydras/laws.FnRowCompare", spec := "fnRowCompare", unfollowed := true, recurses := true, apart := false }
def FnRowCompareSaid : Prop := fnRowCompareRow.holds Try.pinned (OpenSpec.ofChange fnRowCompareSpec)

/-- ITS FALSE NEIGHBOUR: 'it returns false'. Refute it at one input. -/
def fnRowCompareWrong : ChangeSpec := { name := "fnRowCompare", fn := fun _ => fun
  | [d] => { results := [.lit (.bool false)], args := [d] }
  | _ => none }
def FnRowCompareWrongFalsely : Prop := fnRowCompareRow.holds Try.pinned (OpenSpec.ofChange fnRowCompareWrong)

/-- 'laws.FnRowOrd': WHATEVER THE INPUT: true; the input reads as it did. -/
def fnRowOrdSpec : ChangeSpec := { name := "fnRowOrd", fn := fun _ => fun
  | [d] => { results := [.lit (.bool true)], args := [d] }
  | _ => none }
def fnRowOrdRow : OpenClaim := { program := "ytnacndlfjlibmaa", sum := "752605c2baef74607f245890650ea0c2588d1200216bfe1eb4ee5cb2f4c82614", func := "loop.example/ordinalhydras/laws.FnRowOrd", spec := "fnRowOrd", unfollowed := true, recurses := true, apart := false }
def FnRowOrdSaid : Prop := fnRowOrdRow.holds Try.pinned (OpenSpec.ofChange fnRowOrdSpec)

/-- ITS FALSE NEIGHBOUR: 'it returns false'. Refute it at one input. -/
def fnRowOrdWrong : ChangeSpec := { name := "fnRowOrd", fn := fun _ => fun
  | [d] => { results := [.lit (.bool false)], args := [d] }
  | _ => none }
def FnRowOrdWrongFalsely : Prop := fnRowOrdRow.holds Try.pinned (OpenSpec.ofChange fnRowOrdWrong)

/-- 'laws.FnRowDrop': WHATEVER THE INPUT: true; the input reads as it did. -/
def fnRowDropSpec : ChangeSpec := { name := "fnRowDrop", fn := fun _ => fun
  | [d] => { results := [.lit (.bool true)], args := [d] }
  | _ => none }
def fnRowDropRow : OpenClaim := { program := "ytnacndlfjlibmaa", sum := "752605c2baef74607f245890650ea0c2588d1200216bfe1eb4ee5cb2f4c82614", func := "loop.example/ordinalhydras/laws.FnRowDrop", spec := "fnRowDrop", unfollowed := true, recurses := true, apart := false }
def FnRowDropSaid : Prop := fnRowDropRow.holds Try.pinned (OpenSpec.ofChange fnRowDropSpec)

/-- ITS FALSE NEIGHBOUR: 'it returns false'. Refute it at one input. -/
def fnRowDropWrong : ChangeSpec := { name := "fnRowDrop", fn := fun _ => fun
  | [d] => { results := [.lit (.bool false)], args := [d] }
  | _ => none }
def FnRowDropWrongFalsely : Prop := fnRowDropRow.holds Try.pinned (OpenSpec.ofChange fnRowDropWrong)

/-- 'laws.FnRowMost': WHATEVER THE INPUT: true; the input reads as it did. -/
def fnRowMostSpec : ChangeSpec := { name := "fnRowMost", fn := fun _ => fun
  | [d] => { results := [.lit (.bool true)], args := [d] }
  | _ => none }
def fnRowMostRow : OpenClaim := { program := "ytnacndlfjlibmaa", sum := "752605c2baef74607f245890650ea0c2588d1200216bfe1eb4ee5cb2f4c82614", func := "loop.example/ordinalhydras/laws.FnRowMost", spec := "fnRowMost", apart := false }
def FnRowMostSaid : Prop := fnRowMostRow.holds Try.pinned (OpenSpec.ofChange fnRowMostSpec)

/-- ITS FALSE NEIGHBOUR: 'it returns false'. Refute it at one input. -/
def fnRowMostWrong : ChangeSpec := { name := "fnRowMost", fn := fun _ => fun
  | [d] => { results := [.lit (.bool false)], args := [d] }
  | _ => none }
def FnRowMostWrongFalsely : Prop := fnRowMostRow.holds Try.pinned (OpenSpec.ofChange fnRowMostWrong)

/-- 'laws.FnOrdCompare': WHATEVER THE INPUT: true; the input reads as it did. -/
def fnOrdCompareSpec : ChangeSpec := { name := "fnOrdCompare", fn := fun _ => fun
  | [d1, d2] => { results := [.lit (.bool true)], args := [d1, d2] }
  | _ => none }
def fnOrdCompareRow : OpenClaim := { program := "ytnacndlfjlibmaa", sum := "752605c2baef74607f245890650ea0c2588d1200216bfe1eb4ee5cb2f4c82614", func := "loop.example/ordinalhydras/laws.FnOrdCompare", spec := "fnOrdCompare", recurses := true, apart := false }
def FnOrdCompareSaid : Prop := fnOrdCompareRow.holds Try.pinned (OpenSpec.ofChange fnOrdCompareSpec)

/-- ITS FALSE NEIGHBOUR: 'it returns false'. Refute it at one input. -/
def fnOrdCompareWrong : ChangeSpec := { name := "fnOrdCompare", fn := fun _ => fun
  | [d1, d2] => { results := [.lit (.bool false)], args := [d1, d2] }
  | _ => none }
def FnOrdCompareWrongFalsely : Prop := fnOrdCompareRow.holds Try.pinned (OpenSpec.ofChange fnOrdCompareWrong)

/-- 'laws.FnOrdNext': WHATEVER THE INPUT: true; the input reads as it did. -/
def fnOrdNextSpec : ChangeSpec := { name := "fnOrdNext", fn := fun _ => fun
  | [d1, d2] => { results := [.lit (.bool true)], args := [d1, d2] }
  | _ => none }
def fnOrdNextRow : OpenClaim := { program := "ytnacndlfjlibmaa", sum := "752605c2baef74607f245890650ea0c2588d1200216bfe1eb4ee5cb2f4c82614", func := "loop.example/ordinalhydras/laws.FnOrdNext", spec := "fnOrdNext", recurses := true, apart := false }
def FnOrdNextSaid : Prop := fnOrdNextRow.holds Try.pinned (OpenSpec.ofChange fnOrdNextSpec)

/-- ITS FALSE NEIGHBOUR: 'it returns false'. Refute it at one input. -/
def fnOrdNextWrong : ChangeSpec := { name := "fnOrdNext", fn := fun _ => fun
  | [d1, d2] => { results := [.lit (.bool false)], args := [d1, d2] }
  | _ => none }
def FnOrdNextWrongFalsely : Prop := fnOrdNextRow.holds Try.pinned (OpenSpec.ofChange fnOrdNextWrong)

/-- 'laws.FnOrdBefore': WHATEVER THE INPUT: true; the input reads as it did. -/
def fnOrdBeforeSpec : ChangeSpec := { name := "fnOrdBefore", fn := fun _ => fun
  | [d] => { results := [.lit (.bool true)], args := [d] }
  | _ => none }
def fnOrdBeforeRow : OpenClaim := { program := "ytnacndlfjlibmaa", sum := "752605c2baef74607f245890650ea0c2588d1200216bfe1eb4ee5cb2f4c82614", func := "loop.example/ordinalhydras/laws.FnOrdBefore", spec := "fnOrdBefore", recurses := true, apart := false }
def FnOrdBeforeSaid : Prop := fnOrdBeforeRow.holds Try.pinned (OpenSpec.ofChange fnOrdBeforeSpec)

/-- ITS FALSE NEIGHBOUR: 'it returns false'. Refute it at one input. -/
def fnOrdBeforeWrong : ChangeSpec := { name := "fnOrdBefore", fn := fun _ => fun
  | [d] => { results := [.lit (.bool false)], args := [d] }
  | _ => none }
def FnOrdBeforeWrongFalsely : Prop := fnOrdBeforeRow.holds Try.pinned (OpenSpec.ofChange fnOrdBeforeWrong)

/-- 'laws.FnOrdInBase': WHATEVER THE INPUT: true; the input reads as it did. -/
def fnOrdInBaseSpec : ChangeSpec := { name := "fnOrdInBase", fn := fun _ => fun
  | [d1, d2] => { results := [.lit (.bool true)], args := [d1, d2] }
  | _ => none }
def fnOrdInBaseRow : OpenClaim := { program := "ytnacndlfjlibmaa", sum := "752605c2baef74607f245890650ea0c2588d1200216bfe1eb4ee5cb2f4c82614", func := "loop.example/ordinalhydras/laws.FnOrdInBase", spec := "fnOrdInBase", unfollowed := true, recurses := true, apart := false }
def FnOrdInBaseSaid : Prop := fnOrdInBaseRow.holds Try.pinned (OpenSpec.ofChange fnOrdInBaseSpec)

/-- ITS FALSE NEIGHBOUR: 'it returns false'. Refute it at one input. -/
def fnOrdInBaseWrong : ChangeSpec := { name := "fnOrdInBase", fn := fun _ => fun
  | [d1, d2] => { results := [.lit (.bool false)], args := [d1, d2] }
  | _ => none }
def FnOrdInBaseWrongFalsely : Prop := fnOrdInBaseRow.holds Try.pinned (OpenSpec.ofChange fnOrdInBaseWrong)

/-- 'laws.FnPlainOrd': WHATEVER THE INPUT: true; the input reads as it did. -/
def fnPlainOrdSpec : ChangeSpec := { name := "fnPlainOrd", fn := fun _ => fun
  | [d] => { results := [.lit (.bool true)], args := [d] }
  | _ => none }
def fnPlainOrdRow : OpenClaim := { program := "ytnacndlfjlibmaa", sum := "752605c2baef74607f245890650ea0c2588d1200216bfe1eb4ee5cb2f4c82614", func := "loop.example/ordinalhydras/laws.FnPlainOrd", spec := "fnPlainOrd", unfollowed := true, recurses := true, apart := false }
def FnPlainOrdSaid : Prop := fnPlainOrdRow.holds Try.pinned (OpenSpec.ofChange fnPlainOrdSpec)

/-- ITS FALSE NEIGHBOUR: 'it returns false'. Refute it at one input. -/
def fnPlainOrdWrong : ChangeSpec := { name := "fnPlainOrd", fn := fun _ => fun
  | [d] => { results := [.lit (.bool false)], args := [d] }
  | _ => none }
def FnPlainOrdWrongFalsely : Prop := fnPlainOrdRow.holds Try.pinned (OpenSpec.ofChange fnPlainOrdWrong)

/-- 'laws.FnGoodsteinOrds': WHATEVER THE INPUT: true; the input reads as it did. -/
def fnGoodsteinOrdsSpec : ChangeSpec := { name := "fnGoodsteinOrds", fn := fun _ => fun
  | [d] => { results := [.lit (.bool true)], args := [d] }
  | _ => none }
def fnGoodsteinOrdsRow : OpenClaim := { program := "ytnacndlfjlibmaa", sum := "752605c2baef74607f245890650ea0c2588d1200216bfe1eb4ee5cb2f4c82614", func := "loop.example/ordinalhydras/laws.FnGoodsteinOrds", spec := "fnGoodsteinOrds", unfollowed := true, recurses := true, apart := false }
def FnGoodsteinOrdsSaid : Prop := fnGoodsteinOrdsRow.holds Try.pinned (OpenSpec.ofChange fnGoodsteinOrdsSpec)

/-- ITS FALSE NEIGHBOUR: 'it returns false'. Refute it at one input. -/
def fnGoodsteinOrdsWrong : ChangeSpec := { name := "fnGoodsteinOrds", fn := fun _ => fun
  | [d] => { results := [.lit (.bool false)], args := [d] }
  | _ => none }
def FnGoodsteinOrdsWrongFalsely : Prop := fnGoodsteinOrdsRow.holds Try.pinned (OpenSpec.ofChange fnGoodsteinOrdsWrong)

/- THE SECOND FORM. 'bulk': how many values and letters a reading holds, each counted each time it is reached (what is shared counts as often as it is met; a slice's spare places count too). A statement '..UptoSaid' is the law's where the arguments, and the package variables that the reading takes, are together of bulk at most 1048576: NARROWER than '..Said'. Prove '..Said' where nothing that the law and all that it calls make is longer than what came in: it says more and counts as full. Else prove '..UptoSaid'. A law counts once. -/
mutual
def uptoBulk {H : Type} : DataW H → Nat
  | .lit (.string bytes) => bytes.length + 1
  | .lit _ => 1
  | .nil => 1
  | .ptr d => uptoBulk d + 1
  | .slice elems spare => uptoBulkAll elems + uptoBulkAll spare + 1
  | .agg parts => uptoBulkAll parts + 1
  | .iface _ d => uptoBulk d + 1
  | .map entries => uptoBulkEntries entries + 1
  | .held _ => 1
def uptoBulkAll {H : Type} : List (DataW H) → Nat
  | [] => 0
  | d :: r => uptoBulk d + uptoBulkAll r
def uptoBulkEntries {H : Type} : List (Lit × DataW H) → Nat
  | [] => 0
  | x :: r => uptoBulkEntry x + uptoBulkEntries r
def uptoBulkEntry {H : Type} : Lit × DataW H → Nat
  | (.string bytes, d) => bytes.length + uptoBulk d + 1
  | (_, d) => uptoBulk d + 1
 end
def uptoSmall : (H : Type) → List (DataW H) → Bool := fun _ ds => decide (uptoBulkAll ds ≤ 1048576)
def OpenSpec.upto (s : _root_.Go.ChangeSpec) : _root_.Go.OpenSpec := { _root_.Go.OpenSpec.ofChange s with cond := some uptoSmall }

/-- 'laws.FnRowValid', WHERE WHAT IT READS IS OF BULK AT MOST 1048576: true; the input reads as it did. -/
def fnRowValidUptoRow : OpenClaim := { program := "ytnacndlfjlibmaa", sum := "752605c2baef74607f245890650ea0c2588d1200216bfe1eb4ee5cb2f4c82614", func := "loop.example/ordinalhydras/laws.FnRowValid", spec := "fnRowValid", apart := false, narrowed := true }
def FnRowValidUptoSaid : Prop := fnRowValidUptoRow.holds Try.pinned (OpenSpec.upto fnRowValidSpec)

/-- 'laws.FnRowCompare', WHERE WHAT IT READS IS OF BULK AT MOST 1048576: true; the input reads as it did. -/
def fnRowCompareUptoRow : OpenClaim := { program := "ytnacndlfjlibmaa", sum := "752605c2baef74607f245890650ea0c2588d1200216bfe1eb4ee5cb2f4c82614", func := "loop.example/ordinalhydras/laws.FnRowCompare", spec := "fnRowCompare", unfollowed := true, recurses := true, apart := false, narrowed := true }
def FnRowCompareUptoSaid : Prop := fnRowCompareUptoRow.holds Try.pinned (OpenSpec.upto fnRowCompareSpec)

/-- 'laws.FnRowOrd', WHERE WHAT IT READS IS OF BULK AT MOST 1048576: true; the input reads as it did. -/
def fnRowOrdUptoRow : OpenClaim := { program := "ytnacndlfjlibmaa", sum := "752605c2baef74607f245890650ea0c2588d1200216bfe1eb4ee5cb2f4c82614", func := "loop.example/ordinalhydras/laws.FnRowOrd", spec := "fnRowOrd", unfollowed := true, recurses := true, apart := false, narrowed := true }
def FnRowOrdUptoSaid : Prop := fnRowOrdUptoRow.holds Try.pinned (OpenSpec.upto fnRowOrdSpec)

/-- 'laws.FnRowDrop', WHERE WHAT IT READS IS OF BULK AT MOST 1048576: true; the input reads as it did. -/
def fnRowDropUptoRow : OpenClaim := { program := "ytnacndlfjlibmaa", sum := "752605c2baef74607f245890650ea0c2588d1200216bfe1eb4ee5cb2f4c82614", func := "loop.example/ordinalhydras/laws.FnRowDrop", spec := "fnRowDrop", unfollowed := true, recurses := true, apart := false, narrowed := true }
def FnRowDropUptoSaid : Prop := fnRowDropUptoRow.holds Try.pinned (OpenSpec.upto fnRowDropSpec)

/-- 'laws.FnRowMost', WHERE WHAT IT READS IS OF BULK AT MOST 1048576: true; the input reads as it did. -/
def fnRowMostUptoRow : OpenClaim := { program := "ytnacndlfjlibmaa", sum := "752605c2baef74607f245890650ea0c2588d1200216bfe1eb4ee5cb2f4c82614", func := "loop.example/ordinalhydras/laws.FnRowMost", spec := "fnRowMost", apart := false, narrowed := true }
def FnRowMostUptoSaid : Prop := fnRowMostUptoRow.holds Try.pinned (OpenSpec.upto fnRowMostSpec)

/-- 'laws.FnOrdCompare', WHERE WHAT IT READS IS OF BULK AT MOST 1048576: true; the input reads as it did. -/
def fnOrdCompareUptoRow : OpenClaim := { program := "ytnacndlfjlibmaa", sum := "752605c2baef74607f245890650ea0c2588d1200216bfe1eb4ee5cb2f4c82614", func := "loop.example/ordinalhydras/laws.FnOrdCompare", spec := "fnOrdCompare", recurses := true, apart := false, narrowed := true }
def FnOrdCompareUptoSaid : Prop := fnOrdCompareUptoRow.holds Try.pinned (OpenSpec.upto fnOrdCompareSpec)

/-- 'laws.FnOrdNext', WHERE WHAT IT READS IS OF BULK AT MOST 1048576: true; the input reads as it did. -/
def fnOrdNextUptoRow : OpenClaim := { program := "ytnacndlfjlibmaa", sum := "752605c2baef74607f245890650ea0c2588d1200216bfe1eb4ee5cb2f4c82614", func := "loop.example/ordinalhydras/laws.FnOrdNext", spec := "fnOrdNext", recurses := true, apart := false, narrowed := true }
def FnOrdNextUptoSaid : Prop := fnOrdNextUptoRow.holds Try.pinned (OpenSpec.upto fnOrdNextSpec)

/-- 'laws.FnOrdBefore', WHERE WHAT IT READS IS OF BULK AT MOST 1048576: true; the input reads as it did. -/
def fnOrdBeforeUptoRow : OpenClaim := { program := "ytnacndlfjlibmaa", sum := "752605c2baef74607f245890650ea0c2588d1200216bfe1eb4ee5cb2f4c82614", func := "loop.example/ordinalhydras/laws.FnOrdBefore", spec := "fnOrdBefore", recurses := true, apart := false, narrowed := true }
def FnOrdBeforeUptoSaid : Prop := fnOrdBeforeUptoRow.holds Try.pinned (OpenSpec.upto fnOrdBeforeSpec)

/-- 'laws.FnOrdInBase', WHERE WHAT IT READS IS OF BULK AT MOST 1048576: true; the input reads as it did. -/
def fnOrdInBaseUptoRow : OpenClaim := { program := "ytnacndlfjlibmaa", sum := "752605c2baef74607f245890650ea0c2588d1200216bfe1eb4ee5cb2f4c82614", func := "loop.example/ordinalhydras/laws.FnOrdInBase", spec := "fnOrdInBase", unfollowed := true, recurses := true, apart := false, narrowed := true }
def FnOrdInBaseUptoSaid : Prop := fnOrdInBaseUptoRow.holds Try.pinned (OpenSpec.upto fnOrdInBaseSpec)

/-- 'laws.FnPlainOrd', WHERE WHAT IT READS IS OF BULK AT MOST 1048576: true; the input reads as it did. -/
def fnPlainOrdUptoRow : OpenClaim := { program := "ytnacndlfjlibmaa", sum := "752605c2baef74607f245890650ea0c2588d1200216bfe1eb4ee5cb2f4c82614", func := "loop.example/ordinalhydras/laws.FnPlainOrd", spec := "fnPlainOrd", unfollowed := true, recurses := true, apart := false, narrowed := true }
def FnPlainOrdUptoSaid : Prop := fnPlainOrdUptoRow.holds Try.pinned (OpenSpec.upto fnPlainOrdSpec)

/-- 'laws.FnGoodsteinOrds', WHERE WHAT IT READS IS OF BULK AT MOST 1048576: true; the input reads as it did. -/
def fnGoodsteinOrdsUptoRow : OpenClaim := { program := "ytnacndlfjlibmaa", sum := "752605c2baef74607f245890650ea0c2588d1200216bfe1eb4ee5cb2f4c82614", func := "loop.example/ordinalhydras/laws.FnGoodsteinOrds", spec := "fnGoodsteinOrds", unfollowed := true, recurses := true, apart := false, narrowed := true }
def FnGoodsteinOrdsUptoSaid : Prop := fnGoodsteinOrdsUptoRow.holds Try.pinned (OpenSpec.upto fnGoodsteinOrdsSpec)

end Rows
end Go.Proofs.Ytnacndlfjlibmaa
