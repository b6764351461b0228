/-
  No cell of these rows narrows 'for every input' (looked for: loops, veiled, ifaces, maps, wideKeys, modest, calm, conditions, laid).
  DERIVED. THE GIVEN ROWS OF THIS SEAT. 11 by the template 'for every input the law returns true; each argument reads behind the call as it read before'; 0 by the template 'total and deterministic' (their statements: YtffcgkpligjmpaaTotals.lean).
  GIVEN WITH THE SEED: the statements are not yours to turn. If you find one false, say at which input.
  Laid BY PROGRAM, IN A SANDBOX (cutbox-rows.mjs): the forced cells as the released guide's own fill.sh prints them over the translation 70fb82e6d010e875… (all of the seat's roots in one cut). By AI agents, Wed Nov 11 2026. No macro, syntax, notation, axiom, sorry.
-/
import Derived.Test.YtffcgkpligjmpaaChecked
import GoSem.Claim
import GoSem.ClaimJoined
import GoSem.ClaimMapViews
import Derived.JoinedTies
import Derived.KernelRfl
namespace Go.Proofs.Ytffcgkpligjmpaa
/- THE CELL 'sum', in the pinned program and in every row, IS THE sha256 OF THE DUMP (.gsa) THAT YtffcgkpligjmpaaProg.lean LOADS. Nothing in Lean hashes anything: it is a label: what it is worth is what the hold of that sum in a sandbox is worth. -/
noncomputable def Try.pinned : Pinned := { name := "ytffcgkpligjmpaa", sum := "70fb82e6d010e8756092bc87d2fbac576d8fbc846f3596576562ab8e12635850", checked := Try.checked }
namespace Rows
def none {H : Type} : Left H := { results := [], args := [] }

/-- 'laws.FnExactRowValid': WHATEVER THE INPUT: true; the input reads as it did. -/
def fnExactRowValidSpec : ChangeSpec := { name := "fnExactRowValid", fn := fun _ => fun
  | [d] => { results := [.lit (.bool true)], args := [d] }
  | _ => none }
def fnExactRowValidRow : OpenClaim := { program := "ytffcgkpligjmpaa", sum := "70fb82e6d010e8756092bc87d2fbac576d8fbc846f3596576562ab8e12635850", func := "loop.example/ordinalhydras/laws.FnExactRowValid", spec := "fnExactRowValid", apart := false }
def FnExactRowValidSaid : Prop := fnExactRowValidRow.holds Try.pinned (OpenSpec.ofChange fnExactRowValidSpec)

/-- ITS FALSE NEIGHBOUR: 'it returns false'. Refute it at one input. -/
def fnExactRowValidWrong : ChangeSpec := { name := "fnExactRowValid", fn := fun _ => fun
  | [d] => { results := [.lit (.bool false)], args := [d] }
  | _ => none }
def FnExactRowValidWrongFalsely : Prop := fnExactRowValidRow.holds Try.pinned (OpenSpec.ofChange fnExactRowValidWrong)

/-- 'laws.FnExactRowCompare': WHATEVER THE INPUT: true; the input reads as it did. -/
def fnExactRowCompareSpec : ChangeSpec := { name := "fnExactRowCompare", fn := fun _ => fun
  | [d1, d2] => { results := [.lit (.bool true)], args := [d1, d2] }
  | _ => none }
def fnExactRowCompareRow : OpenClaim := { program := "ytffcgkpligjmpaa", sum := "70fb82e6d010e8756092bc87d2fbac576d8fbc846f3596576562ab8e12635850", func := "loop.example/ordinalhydras/laws.FnExactRowCompare", spec := "fnExactRowCompare", apart := false }
def FnExactRowCompareSaid : Prop := fnExactRowCompareRow.holds Try.pinned (OpenSpec.ofChange fnExactRowCompareSpec)

/-- ITS FALSE NEIGHBOUR: 'it returns false'. Refute it at one input. -/
def fnExactRowCompareWrong : ChangeSpec := { name := "fnExactRowCompare", fn := fun _ => fun
  | [d1, d2] => { results := [.lit (.bool false)], args := [d1, d2] }
  | _ => none }
def FnExactRowCompareWrongFalsely : Prop := fnExactRowCompareRow.holds Try.pinned (OpenSpec.ofChange fnExactRowCompareWrong)

/-- 'laws.FnExactRowOrd': WHATEVER THE INPUT: true; the input reads as it did. -/
def fnExactRowOrdSpec : ChangeSpec := { name := "fnExactRowOrd", fn := fun _ => fun
  | [d] => { results := [.lit (.bool true)], args := [d] }
  | _ => none }
def fnExactRowOrdRow : OpenClaim := { program := "ytffcgkpligjmpaa", sum := "70fb82e6d010e8756092bc87d2fbac576d8fbc846f3596576562ab8e12635850", func := "loop.example/ordinalhydras/laws.FnExactRowOrd", spec := "fnExactRowOrd", unfollowed := true, recurses := true, apart := false }
def FnExactRowOrdSaid : Prop := fnExactRowOrdRow.holds Try.pinned (OpenSpec.ofChange fnExactRowOrdSpec)

/-- ITS FALSE NEIGHBOUR: 'it returns false'. Refute it at one input. -/
def fnExactRowOrdWrong : ChangeSpec := { name := "fnExactRowOrd", fn := fun _ => fun
  | [d] => { results := [.lit (.bool false)], args := [d] }
  | _ => none }
def FnExactRowOrdWrongFalsely : Prop := fnExactRowOrdRow.holds Try.pinned (OpenSpec.ofChange fnExactRowOrdWrong)

/-- 'laws.FnExactRowDrop': WHATEVER THE INPUT: true; the input reads as it did. -/
def fnExactRowDropSpec : ChangeSpec := { name := "fnExactRowDrop", fn := fun _ => fun
  | [d1, d2, d3] => { results := [.lit (.bool true)], args := [d1, d2, d3] }
  | _ => none }
def fnExactRowDropRow : OpenClaim := { program := "ytffcgkpligjmpaa", sum := "70fb82e6d010e8756092bc87d2fbac576d8fbc846f3596576562ab8e12635850", func := "loop.example/ordinalhydras/laws.FnExactRowDrop", spec := "fnExactRowDrop", apart := false }
def FnExactRowDropSaid : Prop := fnExactRowDropRow.holds Try.pinned (OpenSpec.ofChange fnExactRowDropSpec)

/-- ITS FALSE NEIGHBOUR: 'it returns false'. Refute it at one input. -/
def fnExactRowDropWrong : ChangeSpec := { name := "fnExactRowDrop", fn := fun _ => fun
  | [d1, d2, d3] => { results := [.lit (.bool false)], args := [d1, d2, d3] }
  | _ => none }
def FnExactRowDropWrongFalsely : Prop := fnExactRowDropRow.holds Try.pinned (OpenSpec.ofChange fnExactRowDropWrong)

/-- 'laws.FnExactRowMost': WHATEVER THE INPUT: true; the input reads as it did. -/
def fnExactRowMostSpec : ChangeSpec := { name := "fnExactRowMost", fn := fun _ => fun
  | [d1, d2] => { results := [.lit (.bool true)], args := [d1, d2] }
  | _ => none }
def fnExactRowMostRow : OpenClaim := { program := "ytffcgkpligjmpaa", sum := "70fb82e6d010e8756092bc87d2fbac576d8fbc846f3596576562ab8e12635850", func := "loop.example/ordinalhydras/laws.FnExactRowMost", spec := "fnExactRowMost", apart := false }
def FnExactRowMostSaid : Prop := fnExactRowMostRow.holds Try.pinned (OpenSpec.ofChange fnExactRowMostSpec)

/-- ITS FALSE NEIGHBOUR: 'it returns false'. Refute it at one input. -/
def fnExactRowMostWrong : ChangeSpec := { name := "fnExactRowMost", fn := fun _ => fun
  | [d1, d2] => { results := [.lit (.bool false)], args := [d1, d2] }
  | _ => none }
def FnExactRowMostWrongFalsely : Prop := fnExactRowMostRow.holds Try.pinned (OpenSpec.ofChange fnExactRowMostWrong)

/-- 'laws.FnExactOrdInBase': WHATEVER THE INPUT: true; the input reads as it did. -/
def fnExactOrdInBaseSpec : ChangeSpec := { name := "fnExactOrdInBase", fn := fun _ => fun
  | [d1, d2] => { results := [.lit (.bool true)], args := [d1, d2] }
  | _ => none }
def fnExactOrdInBaseRow : OpenClaim := { program := "ytffcgkpligjmpaa", sum := "70fb82e6d010e8756092bc87d2fbac576d8fbc846f3596576562ab8e12635850", func := "loop.example/ordinalhydras/laws.FnExactOrdInBase", spec := "fnExactOrdInBase", unfollowed := true, recurses := true, apart := false }
def FnExactOrdInBaseSaid : Prop := fnExactOrdInBaseRow.holds Try.pinned (OpenSpec.ofChange fnExactOrdInBaseSpec)

/-- ITS FALSE NEIGHBOUR: 'it returns false'. Refute it at one input. -/
def fnExactOrdInBaseWrong : ChangeSpec := { name := "fnExactOrdInBase", fn := fun _ => fun
  | [d1, d2] => { results := [.lit (.bool false)], args := [d1, d2] }
  | _ => none }
def FnExactOrdInBaseWrongFalsely : Prop := fnExactOrdInBaseRow.holds Try.pinned (OpenSpec.ofChange fnExactOrdInBaseWrong)

/-- 'laws.FnExactPlainOrd': WHATEVER THE INPUT: true; the input reads as it did. -/
def fnExactPlainOrdSpec : ChangeSpec := { name := "fnExactPlainOrd", fn := fun _ => fun
  | [d1, d2] => { results := [.lit (.bool true)], args := [d1, d2] }
  | _ => none }
def fnExactPlainOrdRow : OpenClaim := { program := "ytffcgkpligjmpaa", sum := "70fb82e6d010e8756092bc87d2fbac576d8fbc846f3596576562ab8e12635850", func := "loop.example/ordinalhydras/laws.FnExactPlainOrd", spec := "fnExactPlainOrd", unfollowed := true, recurses := true, apart := false }
def FnExactPlainOrdSaid : Prop := fnExactPlainOrdRow.holds Try.pinned (OpenSpec.ofChange fnExactPlainOrdSpec)

/-- ITS FALSE NEIGHBOUR: 'it returns false'. Refute it at one input. -/
def fnExactPlainOrdWrong : ChangeSpec := { name := "fnExactPlainOrd", fn := fun _ => fun
  | [d1, d2] => { results := [.lit (.bool false)], args := [d1, d2] }
  | _ => none }
def FnExactPlainOrdWrongFalsely : Prop := fnExactPlainOrdRow.holds Try.pinned (OpenSpec.ofChange fnExactPlainOrdWrong)

/-- 'laws.FnExactGoodsteinOrds': WHATEVER THE INPUT: true; the input reads as it did. -/
def fnExactGoodsteinOrdsSpec : ChangeSpec := { name := "fnExactGoodsteinOrds", fn := fun _ => fun
  | [d] => { results := [.lit (.bool true)], args := [d] }
  | _ => none }
def fnExactGoodsteinOrdsRow : OpenClaim := { program := "ytffcgkpligjmpaa", sum := "70fb82e6d010e8756092bc87d2fbac576d8fbc846f3596576562ab8e12635850", func := "loop.example/ordinalhydras/laws.FnExactGoodsteinOrds", spec := "fnExactGoodsteinOrds", unfollowed := true, recurses := true, apart := false }
def FnExactGoodsteinOrdsSaid : Prop := fnExactGoodsteinOrdsRow.holds Try.pinned (OpenSpec.ofChange fnExactGoodsteinOrdsSpec)

/-- ITS FALSE NEIGHBOUR: 'it returns false'. Refute it at one input. -/
def fnExactGoodsteinOrdsWrong : ChangeSpec := { name := "fnExactGoodsteinOrds", fn := fun _ => fun
  | [d] => { results := [.lit (.bool false)], args := [d] }
  | _ => none }
def FnExactGoodsteinOrdsWrongFalsely : Prop := fnExactGoodsteinOrdsRow.holds Try.pinned (OpenSpec.ofChange fnExactGoodsteinOrdsWrong)

/-- 'laws.FnExactOrdCompare': WHATEVER THE INPUT: true; the input reads as it did. -/
def fnExactOrdCompareSpec : ChangeSpec := { name := "fnExactOrdCompare", fn := fun _ => fun
  | [d1, d2] => { results := [.lit (.bool true)], args := [d1, d2] }
  | _ => none }
def fnExactOrdCompareRow : OpenClaim := { program := "ytffcgkpligjmpaa", sum := "70fb82e6d010e8756092bc87d2fbac576d8fbc846f3596576562ab8e12635850", func := "loop.example/ordinalhydras/laws.FnExactOrdCompare", spec := "fnExactOrdCompare", recurses := true, apart := false }
def FnExactOrdCompareSaid : Prop := fnExactOrdCompareRow.holds Try.pinned (OpenSpec.ofChange fnExactOrdCompareSpec)

/-- ITS FALSE NEIGHBOUR: 'it returns false'. Refute it at one input. -/
def fnExactOrdCompareWrong : ChangeSpec := { name := "fnExactOrdCompare", fn := fun _ => fun
  | [d1, d2] => { results := [.lit (.bool false)], args := [d1, d2] }
  | _ => none }
def FnExactOrdCompareWrongFalsely : Prop := fnExactOrdCompareRow.holds Try.pinned (OpenSpec.ofChange fnExactOrdCompareWrong)

/-- 'laws.FnExactOrdNext': WHATEVER THE INPUT: true; the input reads as it did. -/
def fnExactOrdNextSpec : ChangeSpec := { name := "fnExactOrdNext", fn := fun _ => fun
  | [d] => { results := [.lit (.bool true)], args := [d] }
  | _ => none }
def fnExactOrdNextRow : OpenClaim := { program := "ytffcgkpligjmpaa", sum := "70fb82e6d010e8756092bc87d2fbac576d8fbc846f3596576562ab8e12635850", func := "loop.example/ordinalhydras/laws.FnExactOrdNext", spec := "fnExactOrdNext", recurses := true, apart := false }
def FnExactOrdNextSaid : Prop := fnExactOrdNextRow.holds Try.pinned (OpenSpec.ofChange fnExactOrdNextSpec)

/-- ITS FALSE NEIGHBOUR: 'it returns false'. Refute it at one input. -/
def fnExactOrdNextWrong : ChangeSpec := { name := "fnExactOrdNext", fn := fun _ => fun
  | [d] => { results := [.lit (.bool false)], args := [d] }
  | _ => none }
def FnExactOrdNextWrongFalsely : Prop := fnExactOrdNextRow.holds Try.pinned (OpenSpec.ofChange fnExactOrdNextWrong)

/-- 'laws.FnExactOrdBefore': WHATEVER THE INPUT: true; the input reads as it did. -/
def fnExactOrdBeforeSpec : ChangeSpec := { name := "fnExactOrdBefore", fn := fun _ => fun
  | [d] => { results := [.lit (.bool true)], args := [d] }
  | _ => none }
def fnExactOrdBeforeRow : OpenClaim := { program := "ytffcgkpligjmpaa", sum := "70fb82e6d010e8756092bc87d2fbac576d8fbc846f3596576562ab8e12635850", func := "loop.example/ordinalhydras/laws.FnExactOrdBefore", spec := "fnExactOrdBefore", recurses := true, apart := false }
def FnExactOrdBeforeSaid : Prop := fnExactOrdBeforeRow.holds Try.pinned (OpenSpec.ofChange fnExactOrdBeforeSpec)

/-- ITS FALSE NEIGHBOUR: 'it returns false'. Refute it at one input. -/
def fnExactOrdBeforeWrong : ChangeSpec := { name := "fnExactOrdBefore", fn := fun _ => fun
  | [d] => { results := [.lit (.bool false)], args := [d] }
  | _ => none }
def FnExactOrdBeforeWrongFalsely : Prop := fnExactOrdBeforeRow.holds Try.pinned (OpenSpec.ofChange fnExactOrdBeforeWrong)

/- THE SECOND FORM. 'bulk': how many values and letters a reading holds, each counted each time it is reached (what is shared counts as often as it is met; a slice's spare places count too). A statement '..UptoSaid' is the law's where the arguments, and the package variables that the reading takes, are together of bulk at most 1048576: NARROWER than '..Said'. Prove '..Said' where nothing that the law and all that it calls make is longer than what came in: it says more and counts as full. Else prove '..UptoSaid'. A law counts once. -/
mutual
def uptoBulk {H : Type} : DataW H → Nat
  | .lit (.string bytes) => bytes.length + 1
  | .lit _ => 1
  | .nil => 1
  | .ptr d => uptoBulk d + 1
  | .slice elems spare => uptoBulkAll elems + uptoBulkAll spare + 1
  | .agg parts => uptoBulkAll parts + 1
  | .iface _ d => uptoBulk d + 1
  | .map entries => uptoBulkEntries entries + 1
  | .held _ => 1
def uptoBulkAll {H : Type} : List (DataW H) → Nat
  | [] => 0
  | d :: r => uptoBulk d + uptoBulkAll r
def uptoBulkEntries {H : Type} : List (Lit × DataW H) → Nat
  | [] => 0
  | x :: r => uptoBulkEntry x + uptoBulkEntries r
def uptoBulkEntry {H : Type} : Lit × DataW H → Nat
  | (.string bytes, d) => bytes.length + uptoBulk d + 1
  | (_, d) => uptoBulk d + 1
 end
def uptoSmall : (H : Type) → List (DataW H) → Bool := fun _ ds => decide (uptoBulkAll ds ≤ 1048576)
def OpenSpec.upto (s : _root_.Go.ChangeSpec) : _root_.Go.OpenSpec := { _root_.Go.OpenSpec.ofChange s with cond := some uptoSmall }

/-- 'laws.FnExactRowValid', WHERE WHAT IT READS IS OF BULK AT MOST 1048576: true; the input reads as it did. -/
def fnExactRowValidUptoRow : OpenClaim := { program := "ytffcgkpligjmpaa", sum := "70fb82e6d010e8756092bc87d2fbac576d8fbc846f3596576562ab8e12635850", func := "loop.example/ordinalhydras/laws.FnExactRowValid", spec := "fnExactRowValid", apart := false, narrowed := true }
def FnExactRowValidUptoSaid : Prop := fnExactRowValidUptoRow.holds Try.pinned (OpenSpec.upto fnExactRowValidSpec)

/-- 'laws.FnExactRowCompare', WHERE WHAT IT READS IS OF BULK AT MOST 1048576: true; the input reads as it did. -/
def fnExactRowCompareUptoRow : OpenClaim := { program := "ytffcgkpligjmpaa", sum := "70fb82e6d010e8756092bc87d2fbac576d8fbc846f3596576562ab8e12635850", func := "loop.example/ordinalhydras/laws.FnExactRowCompare", spec := "fnExactRowCompare", apart := false, narrowed := true }
def FnExactRowCompareUptoSaid : Prop := fnExactRowCompareUptoRow.holds Try.pinned (OpenSpec.upto fnExactRowCompareSpec)

/-- 'laws.FnExactRowOrd', WHERE WHAT IT READS IS OF BULK AT MOST 1048576: true; the input reads as it did. -/
def fnExactRowOrdUptoRow : OpenClaim := { program := "ytffcgkpligjmpaa", sum := "70fb82e6d010e8756092bc87d2fbac576d8fbc846f3596576562ab8e12635850", func := "loop.example/ordinalhydras/laws.FnExactRowOrd", spec := "fnExactRowOrd", unfollowed := true, recurses := true, apart := false, narrowed := true }
def FnExactRowOrdUptoSaid : Prop := fnExactRowOrdUptoRow.holds Try.pinned (OpenSpec.upto fnExactRowOrdSpec)

/-- 'laws.FnExactRowDrop', WHERE WHAT IT READS IS OF BULK AT MOST 1048576: true; the input reads as it did. -/
def fnExactRowDropUptoRow : OpenClaim := { program := "ytffcgkpligjmpaa", sum := "70fb82e6d010e8756092bc87d2fbac576d8fbc846f3596576562ab8e12635850", func := "loop.example/ordinalhydras/laws.FnExactRowDrop", spec := "fnExactRowDrop", apart := false, narrowed := true }
def FnExactRowDropUptoSaid : Prop := fnExactRowDropUptoRow.holds Try.pinned (OpenSpec.upto fnExactRowDropSpec)

/-- 'laws.FnExactRowMost', WHERE WHAT IT READS IS OF BULK AT MOST 1048576: true; the input reads as it did. -/
def fnExactRowMostUptoRow : OpenClaim := { program := "ytffcgkpligjmpaa", sum := "70fb82e6d010e8756092bc87d2fbac576d8fbc846f3596576562ab8e12635850", func := "loop.example/ordinalhydras/laws.FnExactRowMost", spec := "fnExactRowMost", apart := false, narrowed := true }
def FnExactRowMostUptoSaid : Prop := fnExactRowMostUptoRow.holds Try.pinned (OpenSpec.upto fnExactRowMostSpec)

/-- 'laws.FnExactOrdInBase', WHERE WHAT IT READS IS OF BULK AT MOST 1048576: true; the input reads as it did. -/
def fnExactOrdInBaseUptoRow : OpenClaim := { program := "ytffcgkpligjmpaa", sum := "70fb82e6d010e8756092bc87d2fbac576d8fbc846f3596576562ab8e12635850", func := "loop.example/ordinalhydras/laws.FnExactOrdInBase", spec := "fnExactOrdInBase", unfollowed := true, recurses := true, apart := false, narrowed := true }
def FnExactOrdInBaseUptoSaid : Prop := fnExactOrdInBaseUptoRow.holds Try.pinned (OpenSpec.upto fnExactOrdInBaseSpec)

/-- 'laws.FnExactPlainOrd', WHERE WHAT IT READS IS OF BULK AT MOST 1048576: true; the input reads as it did. -/
def fnExactPlainOrdUptoRow : OpenClaim := { program := "ytffcgkpligjmpaa", sum := "70fb82e6d010e8756092bc87d2fbac576d8fbc846f3596576562ab8e12635850", func := "loop.example/ordinalhydras/laws.FnExactPlainOrd", spec := "fnExactPlainOrd", unfollowed := true, recurses := true, apart := false, narrowed := true }
def FnExactPlainOrdUptoSaid : Prop := fnExactPlainOrdUptoRow.holds Try.pinned (OpenSpec.upto fnExactPlainOrdSpec)

/-- 'laws.FnExactGoodsteinOrds', WHERE WHAT IT READS IS OF BULK AT MOST 1048576: true; the input reads as it did. -/
def fnExactGoodsteinOrdsUptoRow : OpenClaim := { program := "ytffcgkpligjmpaa", sum := "70fb82e6d010e8756092bc87d2fbac576d8fbc846f3596576562ab8e12635850", func := "loop.example/ordinalhydras/laws.FnExactGoodsteinOrds", spec := "fnExactGoodsteinOrds", unfollowed := true, recurses := true, apart := false, narrowed := true }
def FnExactGoodsteinOrdsUptoSaid : Prop := fnExactGoodsteinOrdsUptoRow.holds Try.pinned (OpenSpec.upto fnExactGoodsteinOrdsSpec)

/-- 'laws.FnExactOrdCompare', WHERE WHAT IT READS IS OF BULK AT MOST 1048576: true; the input reads as it did. -/
def fnExactOrdCompareUptoRow : OpenClaim := { program := "ytffcgkpligjmpaa", sum := "70fb82e6d010e8756092bc87d2fbac576d8fbc846f3596576562ab8e12635850", func := "loop.example/ordinalhydras/laws.FnExactOrdCompare", spec := "fnExactOrdCompare", recurses := true, apart := false, narrowed := true }
def FnExactOrdCompareUptoSaid : Prop := fnExactOrdCompareUptoRow.holds Try.pinned (OpenSpec.upto fnExactOrdCompareSpec)

/-- 'laws.FnExactOrdNext', WHERE WHAT IT READS IS OF BULK AT MOST 1048576: true; the input reads as it did. -/
def fnExactOrdNextUptoRow : OpenClaim := { program := "ytffcgkpligjmpaa", sum := "70fb82e6d010e8756092bc87d2fbac576d8fbc846f3596576562ab8e12635850", func := "loop.example/ordinalhydras/laws.FnExactOrdNext", spec := "fnExactOrdNext", recurses := true, apart := false, narrowed := true }
def FnExactOrdNextUptoSaid : Prop := fnExactOrdNextUptoRow.holds Try.pinned (OpenSpec.upto fnExactOrdNextSpec)

/-- 'laws.FnExactOrdBefore', WHERE WHAT IT READS IS OF BULK AT MOST 1048576: true; the input reads as it did. -/
def fnExactOrdBeforeUptoRow : OpenClaim := { program := "ytffcgkpligjmpaa", sum := "70fb82e6d010e8756092bc87d2fbac576d8fbc846f3596576562ab8e12635850", func := "loop.example/ordinalhydras/laws.FnExactOrdBefore", spec := "fnExactOrdBefore", recurses := true, apart := false, narrowed := true }
def FnExactOrdBeforeUptoSaid : Prop := fnExactOrdBeforeUptoRow.holds Try.pinned (OpenSpec.upto fnExactOrdBeforeSpec)

end Rows
end Go.Proofs.Ytffcgkpligjmpaa
