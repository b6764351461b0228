/-
  No cell of these rows narrows 'for every input' (looked for: loops, veiled, ifaces, maps, wideKeys, modest, calm, conditions, laid).
  DERIVED. THE GIVEN ROWS OF THIS SEAT. 12 by the template 'for every input the law returns true; each argument reads behind the call as it read before'; 0 by the template 'total and deterministic' (their statements: YtinbbeeplfdafaaTotals.lean).
  GIVEN WITH THE SEED: the statements are not yours to turn. If you find one false, say at which input.
  Laid BY PROGRAM, IN A SANDBOX (cutbox-rows.mjs): the forced cells as the released guide's own fill.sh prints them over the translation d35f25b276344f87… (all of the seat's roots in one cut). By AI agents, Wed Nov 11 2026. No macro, syntax, notation, axiom, sorry.
-/
import Derived.Test.YtinbbeeplfdafaaChecked
import GoSem.Claim
import GoSem.ClaimJoined
import GoSem.ClaimMapViews
import Derived.JoinedTies
import Derived.KernelRfl
namespace Go.Proofs.Ytinbbeeplfdafaa
/- THE CELL 'sum', in the pinned program and in every row, IS THE sha256 OF THE DUMP (.gsa) THAT YtinbbeeplfdafaaProg.lean LOADS. Nothing in Lean hashes anything: it is a label: what it is worth is what the hold of that sum in a sandbox is worth. -/
noncomputable def Try.pinned : Pinned := { name := "ytinbbeeplfdafaa", sum := "d35f25b276344f8763a1c354d8cff985ed5249d62efe76189c5aafce01b8dbf6", checked := Try.checked }
namespace Rows
def none {H : Type} : Left H := { results := [], args := [] }

/-- 'laws.FnExactOrdInBase': WHATEVER THE INPUT: true; the input reads as it did. -/
def fnExactOrdInBaseSpec : ChangeSpec := { name := "fnExactOrdInBase", fn := fun _ => fun
  | [d1, d2] => { results := [.lit (.bool true)], args := [d1, d2] }
  | _ => none }
def fnExactOrdInBaseRow : OpenClaim := { program := "ytinbbeeplfdafaa", sum := "d35f25b276344f8763a1c354d8cff985ed5249d62efe76189c5aafce01b8dbf6", func := "loop.example/ordinalhydras/laws.FnExactOrdInBase", spec := "fnExactOrdInBase", unfollowed := true, recurses := true, apart := false }
def FnExactOrdInBaseSaid : Prop := fnExactOrdInBaseRow.holds Try.pinned (OpenSpec.ofChange fnExactOrdInBaseSpec)

/-- ITS FALSE NEIGHBOUR: 'it returns false'. Refute it at one input. -/
def fnExactOrdInBaseWrong : ChangeSpec := { name := "fnExactOrdInBase", fn := fun _ => fun
  | [d1, d2] => { results := [.lit (.bool false)], args := [d1, d2] }
  | _ => none }
def FnExactOrdInBaseWrongFalsely : Prop := fnExactOrdInBaseRow.holds Try.pinned (OpenSpec.ofChange fnExactOrdInBaseWrong)

/-- 'laws.FnExactBaseOk': WHATEVER THE INPUT: true; the input reads as it did. -/
def fnExactBaseOkSpec : ChangeSpec := { name := "fnExactBaseOk", fn := fun _ => fun
  | [d1, d2] => { results := [.lit (.bool true)], args := [d1, d2] }
  | _ => none }
def fnExactBaseOkRow : OpenClaim := { program := "ytinbbeeplfdafaa", sum := "d35f25b276344f8763a1c354d8cff985ed5249d62efe76189c5aafce01b8dbf6", func := "loop.example/ordinalhydras/laws.FnExactBaseOk", spec := "fnExactBaseOk", recurses := true, apart := false }
def FnExactBaseOkSaid : Prop := fnExactBaseOkRow.holds Try.pinned (OpenSpec.ofChange fnExactBaseOkSpec)

/-- ITS FALSE NEIGHBOUR: 'it returns false'. Refute it at one input. -/
def fnExactBaseOkWrong : ChangeSpec := { name := "fnExactBaseOk", fn := fun _ => fun
  | [d1, d2] => { results := [.lit (.bool false)], args := [d1, d2] }
  | _ => none }
def FnExactBaseOkWrongFalsely : Prop := fnExactBaseOkRow.holds Try.pinned (OpenSpec.ofChange fnExactBaseOkWrong)

/-- 'laws.FnExactChangeBase': WHATEVER THE INPUT: true; the input reads as it did. -/
def fnExactChangeBaseSpec : ChangeSpec := { name := "fnExactChangeBase", fn := fun _ => fun
  | [d1, d2, d3] => { results := [.lit (.bool true)], args := [d1, d2, d3] }
  | _ => none }
def fnExactChangeBaseRow : OpenClaim := { program := "ytinbbeeplfdafaa", sum := "d35f25b276344f8763a1c354d8cff985ed5249d62efe76189c5aafce01b8dbf6", func := "loop.example/ordinalhydras/laws.FnExactChangeBase", spec := "fnExactChangeBase", unfollowed := true, recurses := true, apart := false }
def FnExactChangeBaseSaid : Prop := fnExactChangeBaseRow.holds Try.pinned (OpenSpec.ofChange fnExactChangeBaseSpec)

/-- ITS FALSE NEIGHBOUR: 'it returns false'. Refute it at one input. -/
def fnExactChangeBaseWrong : ChangeSpec := { name := "fnExactChangeBase", fn := fun _ => fun
  | [d1, d2, d3] => { results := [.lit (.bool false)], args := [d1, d2, d3] }
  | _ => none }
def FnExactChangeBaseWrongFalsely : Prop := fnExactChangeBaseRow.holds Try.pinned (OpenSpec.ofChange fnExactChangeBaseWrong)

/-- 'laws.FnExactGoodsteinNext': WHATEVER THE INPUT: true; the input reads as it did. -/
def fnExactGoodsteinNextSpec : ChangeSpec := { name := "fnExactGoodsteinNext", fn := fun _ => fun
  | [d1, d2] => { results := [.lit (.bool true)], args := [d1, d2] }
  | _ => none }
def fnExactGoodsteinNextRow : OpenClaim := { program := "ytinbbeeplfdafaa", sum := "d35f25b276344f8763a1c354d8cff985ed5249d62efe76189c5aafce01b8dbf6", func := "loop.example/ordinalhydras/laws.FnExactGoodsteinNext", spec := "fnExactGoodsteinNext", unfollowed := true, recurses := true, apart := false }
def FnExactGoodsteinNextSaid : Prop := fnExactGoodsteinNextRow.holds Try.pinned (OpenSpec.ofChange fnExactGoodsteinNextSpec)

/-- ITS FALSE NEIGHBOUR: 'it returns false'. Refute it at one input. -/
def fnExactGoodsteinNextWrong : ChangeSpec := { name := "fnExactGoodsteinNext", fn := fun _ => fun
  | [d1, d2] => { results := [.lit (.bool false)], args := [d1, d2] }
  | _ => none }
def FnExactGoodsteinNextWrongFalsely : Prop := fnExactGoodsteinNextRow.holds Try.pinned (OpenSpec.ofChange fnExactGoodsteinNextWrong)

/-- 'laws.FnExactGoodsteinRun': WHATEVER THE INPUT: true; the input reads as it did. -/
def fnExactGoodsteinRunSpec : ChangeSpec := { name := "fnExactGoodsteinRun", fn := fun _ => fun
  | [d] => { results := [.lit (.bool true)], args := [d] }
  | _ => none }
def fnExactGoodsteinRunRow : OpenClaim := { program := "ytinbbeeplfdafaa", sum := "d35f25b276344f8763a1c354d8cff985ed5249d62efe76189c5aafce01b8dbf6", func := "loop.example/ordinalhydras/laws.FnExactGoodsteinRun", spec := "fnExactGoodsteinRun", unfollowed := true, recurses := true, apart := false }
def FnExactGoodsteinRunSaid : Prop := fnExactGoodsteinRunRow.holds Try.pinned (OpenSpec.ofChange fnExactGoodsteinRunSpec)

/-- ITS FALSE NEIGHBOUR: 'it returns false'. Refute it at one input. -/
def fnExactGoodsteinRunWrong : ChangeSpec := { name := "fnExactGoodsteinRun", fn := fun _ => fun
  | [d] => { results := [.lit (.bool false)], args := [d] }
  | _ => none }
def FnExactGoodsteinRunWrongFalsely : Prop := fnExactGoodsteinRunRow.holds Try.pinned (OpenSpec.ofChange fnExactGoodsteinRunWrong)

/-- 'laws.FnExactGoodsteinOrds': WHATEVER THE INPUT: true; the input reads as it did. -/
def fnExactGoodsteinOrdsSpec : ChangeSpec := { name := "fnExactGoodsteinOrds", fn := fun _ => fun
  | [d] => { results := [.lit (.bool true)], args := [d] }
  | _ => none }
def fnExactGoodsteinOrdsRow : OpenClaim := { program := "ytinbbeeplfdafaa", sum := "d35f25b276344f8763a1c354d8cff985ed5249d62efe76189c5aafce01b8dbf6", func := "loop.example/ordinalhydras/laws.FnExactGoodsteinOrds", spec := "fnExactGoodsteinOrds", unfollowed := true, recurses := true, apart := false }
def FnExactGoodsteinOrdsSaid : Prop := fnExactGoodsteinOrdsRow.holds Try.pinned (OpenSpec.ofChange fnExactGoodsteinOrdsSpec)

/-- ITS FALSE NEIGHBOUR: 'it returns false'. Refute it at one input. -/
def fnExactGoodsteinOrdsWrong : ChangeSpec := { name := "fnExactGoodsteinOrds", fn := fun _ => fun
  | [d] => { results := [.lit (.bool false)], args := [d] }
  | _ => none }
def FnExactGoodsteinOrdsWrongFalsely : Prop := fnExactGoodsteinOrdsRow.holds Try.pinned (OpenSpec.ofChange fnExactGoodsteinOrdsWrong)

/-- 'laws.FnExactPlainOrd': WHATEVER THE INPUT: true; the input reads as it did. -/
def fnExactPlainOrdSpec : ChangeSpec := { name := "fnExactPlainOrd", fn := fun _ => fun
  | [d1, d2] => { results := [.lit (.bool true)], args := [d1, d2] }
  | _ => none }
def fnExactPlainOrdRow : OpenClaim := { program := "ytinbbeeplfdafaa", sum := "d35f25b276344f8763a1c354d8cff985ed5249d62efe76189c5aafce01b8dbf6", func := "loop.example/ordinalhydras/laws.FnExactPlainOrd", spec := "fnExactPlainOrd", unfollowed := true, recurses := true, apart := false }
def FnExactPlainOrdSaid : Prop := fnExactPlainOrdRow.holds Try.pinned (OpenSpec.ofChange fnExactPlainOrdSpec)

/-- ITS FALSE NEIGHBOUR: 'it returns false'. Refute it at one input. -/
def fnExactPlainOrdWrong : ChangeSpec := { name := "fnExactPlainOrd", fn := fun _ => fun
  | [d1, d2] => { results := [.lit (.bool false)], args := [d1, d2] }
  | _ => none }
def FnExactPlainOrdWrongFalsely : Prop := fnExactPlainOrdRow.holds Try.pinned (OpenSpec.ofChange fnExactPlainOrdWrong)

/-- 'laws.FnExactPlainNext': WHATEVER THE INPUT: true; the input reads as it did. -/
def fnExactPlainNextSpec : ChangeSpec := { name := "fnExactPlainNext", fn := fun _ => fun
  | [d1, d2] => { results := [.lit (.bool true)], args := [d1, d2] }
  | _ => none }
def fnExactPlainNextRow : OpenClaim := { program := "ytinbbeeplfdafaa", sum := "d35f25b276344f8763a1c354d8cff985ed5249d62efe76189c5aafce01b8dbf6", func := "loop.example/ordinalhydras/laws.FnExactPlainNext", spec := "fnExactPlainNext", apart := false }
def FnExactPlainNextSaid : Prop := fnExactPlainNextRow.holds Try.pinned (OpenSpec.ofChange fnExactPlainNextSpec)

/-- ITS FALSE NEIGHBOUR: 'it returns false'. Refute it at one input. -/
def fnExactPlainNextWrong : ChangeSpec := { name := "fnExactPlainNext", fn := fun _ => fun
  | [d1, d2] => { results := [.lit (.bool false)], args := [d1, d2] }
  | _ => none }
def FnExactPlainNextWrongFalsely : Prop := fnExactPlainNextRow.holds Try.pinned (OpenSpec.ofChange fnExactPlainNextWrong)

/-- 'laws.FnExactGoodsteinEnd': WHATEVER THE INPUT: true; the input reads as it did. -/
def fnExactGoodsteinEndSpec : ChangeSpec := { name := "fnExactGoodsteinEnd", fn := fun _ => fun
  | [d] => { results := [.lit (.bool true)], args := [d] }
  | _ => none }
def fnExactGoodsteinEndRow : OpenClaim := { program := "ytinbbeeplfdafaa", sum := "d35f25b276344f8763a1c354d8cff985ed5249d62efe76189c5aafce01b8dbf6", func := "loop.example/ordinalhydras/laws.FnExactGoodsteinEnd", spec := "fnExactGoodsteinEnd", unfollowed := true, recurses := true, apart := false }
def FnExactGoodsteinEndSaid : Prop := fnExactGoodsteinEndRow.holds Try.pinned (OpenSpec.ofChange fnExactGoodsteinEndSpec)

/-- ITS FALSE NEIGHBOUR: 'it returns false'. Refute it at one input. -/
def fnExactGoodsteinEndWrong : ChangeSpec := { name := "fnExactGoodsteinEnd", fn := fun _ => fun
  | [d] => { results := [.lit (.bool false)], args := [d] }
  | _ => none }
def FnExactGoodsteinEndWrongFalsely : Prop := fnExactGoodsteinEndRow.holds Try.pinned (OpenSpec.ofChange fnExactGoodsteinEndWrong)

/-- 'laws.FnExactOrdCompare': WHATEVER THE INPUT: true; the input reads as it did. -/
def fnExactOrdCompareSpec : ChangeSpec := { name := "fnExactOrdCompare", fn := fun _ => fun
  | [d1, d2] => { results := [.lit (.bool true)], args := [d1, d2] }
  | _ => none }
def fnExactOrdCompareRow : OpenClaim := { program := "ytinbbeeplfdafaa", sum := "d35f25b276344f8763a1c354d8cff985ed5249d62efe76189c5aafce01b8dbf6", func := "loop.example/ordinalhydras/laws.FnExactOrdCompare", spec := "fnExactOrdCompare", recurses := true, apart := false }
def FnExactOrdCompareSaid : Prop := fnExactOrdCompareRow.holds Try.pinned (OpenSpec.ofChange fnExactOrdCompareSpec)

/-- ITS FALSE NEIGHBOUR: 'it returns false'. Refute it at one input. -/
def fnExactOrdCompareWrong : ChangeSpec := { name := "fnExactOrdCompare", fn := fun _ => fun
  | [d1, d2] => { results := [.lit (.bool false)], args := [d1, d2] }
  | _ => none }
def FnExactOrdCompareWrongFalsely : Prop := fnExactOrdCompareRow.holds Try.pinned (OpenSpec.ofChange fnExactOrdCompareWrong)

/-- 'laws.FnExactOrdNext': WHATEVER THE INPUT: true; the input reads as it did. -/
def fnExactOrdNextSpec : ChangeSpec := { name := "fnExactOrdNext", fn := fun _ => fun
  | [d] => { results := [.lit (.bool true)], args := [d] }
  | _ => none }
def fnExactOrdNextRow : OpenClaim := { program := "ytinbbeeplfdafaa", sum := "d35f25b276344f8763a1c354d8cff985ed5249d62efe76189c5aafce01b8dbf6", func := "loop.example/ordinalhydras/laws.FnExactOrdNext", spec := "fnExactOrdNext", recurses := true, apart := false }
def FnExactOrdNextSaid : Prop := fnExactOrdNextRow.holds Try.pinned (OpenSpec.ofChange fnExactOrdNextSpec)

/-- ITS FALSE NEIGHBOUR: 'it returns false'. Refute it at one input. -/
def fnExactOrdNextWrong : ChangeSpec := { name := "fnExactOrdNext", fn := fun _ => fun
  | [d] => { results := [.lit (.bool false)], args := [d] }
  | _ => none }
def FnExactOrdNextWrongFalsely : Prop := fnExactOrdNextRow.holds Try.pinned (OpenSpec.ofChange fnExactOrdNextWrong)

/-- 'laws.FnExactOrdBefore': WHATEVER THE INPUT: true; the input reads as it did. -/
def fnExactOrdBeforeSpec : ChangeSpec := { name := "fnExactOrdBefore", fn := fun _ => fun
  | [d] => { results := [.lit (.bool true)], args := [d] }
  | _ => none }
def fnExactOrdBeforeRow : OpenClaim := { program := "ytinbbeeplfdafaa", sum := "d35f25b276344f8763a1c354d8cff985ed5249d62efe76189c5aafce01b8dbf6", func := "loop.example/ordinalhydras/laws.FnExactOrdBefore", spec := "fnExactOrdBefore", recurses := true, apart := false }
def FnExactOrdBeforeSaid : Prop := fnExactOrdBeforeRow.holds Try.pinned (OpenSpec.ofChange fnExactOrdBeforeSpec)

/-- ITS FALSE NEIGHBOUR: 'it returns false'. Refute it at one input. -/
def fnExactOrdBeforeWrong : ChangeSpec := { name := "fnExactOrdBefore", fn := fun _ => fun
  | [d] => { results := [.lit (.bool false)], args := [d] }
  | _ => none }
def FnExactOrdBeforeWrongFalsely : Prop := fnExactOrdBeforeRow.holds Try.pinned (OpenSpec.ofChange fnExactOrdBeforeWrong)

/- THE SECOND FORM. 'bulk': how many values and letters a reading holds, each counted each time it is reached (what is shared counts as often as it is met; a slice's spare places count too). A statement '..UptoSaid' is the law's where the arguments, and the package variables that the reading takes, are together of bulk at most 1048576: NARROWER than '..Said'. Prove '..Said' where nothing that the law and all that it calls make is longer than what came in: it says more and counts as full. Else prove '..UptoSaid'. A law counts once. -/
mutual
def uptoBulk {H : Type} : DataW H → Nat
  | .lit (.string bytes) => bytes.length + 1
  | .lit _ => 1
  | .nil => 1
  | .ptr d => uptoBulk d + 1
  | .slice elems spare => uptoBulkAll elems + uptoBulkAll spare + 1
  | .agg parts => uptoBulkAll parts + 1
  | .iface _ d => uptoBulk d + 1
  | .map entries => uptoBulkEntries entries + 1
  | .held _ => 1
def uptoBulkAll {H : Type} : List (DataW H) → Nat
  | [] => 0
  | d :: r => uptoBulk d + uptoBulkAll r
def uptoBulkEntries {H : Type} : List (Lit × DataW H) → Nat
  | [] => 0
  | x :: r => uptoBulkEntry x + uptoBulkEntries r
def uptoBulkEntry {H : Type} : Lit × DataW H → Nat
  | (.string bytes, d) => bytes.length + uptoBulk d + 1
  | (_, d) => uptoBulk d + 1
 end
def uptoSmall : (H : Type) → List (DataW H) → Bool := fun _ ds => decide (uptoBulkAll ds ≤ 1048576)
def OpenSpec.upto (s : _root_.Go.ChangeSpec) : _root_.Go.OpenSpec := { _root_.Go.OpenSpec.ofChange s with cond := some uptoSmall }

/-- 'laws.FnExactOrdInBase', WHERE WHAT IT READS IS OF BULK AT MOST 1048576: true; the input reads as it did. -/
def fnExactOrdInBaseUptoRow : OpenClaim := { program := "ytinbbeeplfdafaa", sum := "d35f25b276344f8763a1c354d8cff985ed5249d62efe76189c5aafce01b8dbf6", func := "loop.example/ordinalhydras/laws.FnExactOrdInBase", spec := "fnExactOrdInBase", unfollowed := true, recurses := true, apart := false, narrowed := true }
def FnExactOrdInBaseUptoSaid : Prop := fnExactOrdInBaseUptoRow.holds Try.pinned (OpenSpec.upto fnExactOrdInBaseSpec)

/-- 'laws.FnExactBaseOk', WHERE WHAT IT READS IS OF BULK AT MOST 1048576: true; the input reads as it did. -/
def fnExactBaseOkUptoRow : OpenClaim := { program := "ytinbbeeplfdafaa", sum := "d35f25b276344f8763a1c354d8cff985ed5249d62efe76189c5aafce01b8dbf6", func := "loop.example/ordinalhydras/laws.FnExactBaseOk", spec := "fnExactBaseOk", recurses := true, apart := false, narrowed := true }
def FnExactBaseOkUptoSaid : Prop := fnExactBaseOkUptoRow.holds Try.pinned (OpenSpec.upto fnExactBaseOkSpec)

/-- 'laws.FnExactChangeBase', WHERE WHAT IT READS IS OF BULK AT MOST 1048576: true; the input reads as it did. -/
def fnExactChangeBaseUptoRow : OpenClaim := { program := "ytinbbeeplfdafaa", sum := "d35f25b276344f8763a1c354d8cff985ed5249d62efe76189c5aafce01b8dbf6", func := "loop.example/ordinalhydras/laws.FnExactChangeBase", spec := "fnExactChangeBase", unfollowed := true, recurses := true, apart := false, narrowed := true }
def FnExactChangeBaseUptoSaid : Prop := fnExactChangeBaseUptoRow.holds Try.pinned (OpenSpec.upto fnExactChangeBaseSpec)

/-- 'laws.FnExactGoodsteinNext', WHERE WHAT IT READS IS OF BULK AT MOST 1048576: true; the input reads as it did. -/
def fnExactGoodsteinNextUptoRow : OpenClaim := { program := "ytinbbeeplfdafaa", sum := "d35f25b276344f8763a1c354d8cff985ed5249d62efe76189c5aafce01b8dbf6", func := "loop.example/ordinalhydras/laws.FnExactGoodsteinNext", spec := "fnExactGoodsteinNext", unfollowed := true, recurses := true, apart := false, narrowed := true }
def FnExactGoodsteinNextUptoSaid : Prop := fnExactGoodsteinNextUptoRow.holds Try.pinned (OpenSpec.upto fnExactGoodsteinNextSpec)

/-- 'laws.FnExactGoodsteinRun', WHERE WHAT IT READS IS OF BULK AT MOST 1048576: true; the input reads as it did. -/
def fnExactGoodsteinRunUptoRow : OpenClaim := { program := "ytinbbeeplfdafaa", sum := "d35f25b276344f8763a1c354d8cff985ed5249d62efe76189c5aafce01b8dbf6", func := "loop.example/ordinalhydras/laws.FnExactGoodsteinRun", spec := "fnExactGoodsteinRun", unfollowed := true, recurses := true, apart := false, narrowed := true }
def FnExactGoodsteinRunUptoSaid : Prop := fnExactGoodsteinRunUptoRow.holds Try.pinned (OpenSpec.upto fnExactGoodsteinRunSpec)

/-- 'laws.FnExactGoodsteinOrds', WHERE WHAT IT READS IS OF BULK AT MOST 1048576: true; the input reads as it did. -/
def fnExactGoodsteinOrdsUptoRow : OpenClaim := { program := "ytinbbeeplfdafaa", sum := "d35f25b276344f8763a1c354d8cff985ed5249d62efe76189c5aafce01b8dbf6", func := "loop.example/ordinalhydras/laws.FnExactGoodsteinOrds", spec := "fnExactGoodsteinOrds", unfollowed := true, recurses := true, apart := false, narrowed := true }
def FnExactGoodsteinOrdsUptoSaid : Prop := fnExactGoodsteinOrdsUptoRow.holds Try.pinned (OpenSpec.upto fnExactGoodsteinOrdsSpec)

/-- 'laws.FnExactPlainOrd', WHERE WHAT IT READS IS OF BULK AT MOST 1048576: true; the input reads as it did. -/
def fnExactPlainOrdUptoRow : OpenClaim := { program := "ytinbbeeplfdafaa", sum := "d35f25b276344f8763a1c354d8cff985ed5249d62efe76189c5aafce01b8dbf6", func := "loop.example/ordinalhydras/laws.FnExactPlainOrd", spec := "fnExactPlainOrd", unfollowed := true, recurses := true, apart := false, narrowed := true }
def FnExactPlainOrdUptoSaid : Prop := fnExactPlainOrdUptoRow.holds Try.pinned (OpenSpec.upto fnExactPlainOrdSpec)

/-- 'laws.FnExactPlainNext', WHERE WHAT IT READS IS OF BULK AT MOST 1048576: true; the input reads as it did. -/
def fnExactPlainNextUptoRow : OpenClaim := { program := "ytinbbeeplfdafaa", sum := "d35f25b276344f8763a1c354d8cff985ed5249d62efe76189c5aafce01b8dbf6", func := "loop.example/ordinalhydras/laws.FnExactPlainNext", spec := "fnExactPlainNext", apart := false, narrowed := true }
def FnExactPlainNextUptoSaid : Prop := fnExactPlainNextUptoRow.holds Try.pinned (OpenSpec.upto fnExactPlainNextSpec)

/-- 'laws.FnExactGoodsteinEnd', WHERE WHAT IT READS IS OF BULK AT MOST 1048576: true; the input reads as it did. -/
def fnExactGoodsteinEndUptoRow : OpenClaim := { program := "ytinbbeeplfdafaa", sum := "d35f25b276344f8763a1c354d8cff985ed5249d62efe76189c5aafce01b8dbf6", func := "loop.example/ordinalhydras/laws.FnExactGoodsteinEnd", spec := "fnExactGoodsteinEnd", unfollowed := true, recurses := true, apart := false, narrowed := true }
def FnExactGoodsteinEndUptoSaid : Prop := fnExactGoodsteinEndUptoRow.holds Try.pinned (OpenSpec.upto fnExactGoodsteinEndSpec)

/-- 'laws.FnExactOrdCompare', WHERE WHAT IT READS IS OF BULK AT MOST 1048576: true; the input reads as it did. -/
def fnExactOrdCompareUptoRow : OpenClaim := { program := "ytinbbeeplfdafaa", sum := "d35f25b276344f8763a1c354d8cff985ed5249d62efe76189c5aafce01b8dbf6", func := "loop.example/ordinalhydras/laws.FnExactOrdCompare", spec := "fnExactOrdCompare", recurses := true, apart := false, narrowed := true }
def FnExactOrdCompareUptoSaid : Prop := fnExactOrdCompareUptoRow.holds Try.pinned (OpenSpec.upto fnExactOrdCompareSpec)

/-- 'laws.FnExactOrdNext', WHERE WHAT IT READS IS OF BULK AT MOST 1048576: true; the input reads as it did. -/
def fnExactOrdNextUptoRow : OpenClaim := { program := "ytinbbeeplfdafaa", sum := "d35f25b276344f8763a1c354d8cff985ed5249d62efe76189c5aafce01b8dbf6", func := "loop.example/ordinalhydras/laws.FnExactOrdNext", spec := "fnExactOrdNext", recurses := true, apart := false, narrowed := true }
def FnExactOrdNextUptoSaid : Prop := fnExactOrdNextUptoRow.holds Try.pinned (OpenSpec.upto fnExactOrdNextSpec)

/-- 'laws.FnExactOrdBefore', WHERE WHAT IT READS IS OF BULK AT MOST 1048576: true; the input reads as it did. -/
def fnExactOrdBeforeUptoRow : OpenClaim := { program := "ytinbbeeplfdafaa", sum := "d35f25b276344f8763a1c354d8cff985ed5249d62efe76189c5aafce01b8dbf6", func := "loop.example/ordinalhydras/laws.FnExactOrdBefore", spec := "fnExactOrdBefore", recurses := true, apart := false, narrowed := true }
def FnExactOrdBeforeUptoSaid : Prop := fnExactOrdBeforeUptoRow.holds Try.pinned (OpenSpec.upto fnExactOrdBeforeSpec)

end Rows
end Go.Proofs.Ytinbbeeplfdafaa
