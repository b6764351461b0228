/- The laws' own helpers for one rule: sizes, copies, comparisons. -/
import Derived.Test.YtdcgcohfbcdnnaaTrA
import Derived.Test.YtdcgcohfbcdnnaaMark
namespace Go.Proofs.Ytdcgcohfbcdnnaa
set_option maxRecDepth 100000
open Go.RowKit

/-- What is left of a measure, -1 where it is too small. -/
def szI (n : Nat) (z : Int) : Int := if (n : Int) ≤ z then z - n else -1
theorem szI_yes {n : Nat} {z : Int} (h : (n : Int) ≤ z) : szI n z = z - n := if_pos h
theorem szI_no {n : Nat} {z : Int} (h : ¬ (n : Int) ≤ z) : szI n z = -1 := if_neg h

theorem szIntS_any (ao : Option Addr) (n c : Nat) (z : Int) (w : World) (hn : n ≤ 9223372036854775807) (hz0 : 0 ≤ z) (hz1 : z ≤ 1048576) :
    Calls Try.prog 58 #[.slice ao n c, .int .i64 z] w fun e w' => e = .returned (.int .i64 (szI n z)) ∧ w = w' := by
  by_cases h : (n : Int) ≤ z
  · rw [szI_yes h]
    have h' : ¬ (z - (n : Int) < 0) := by omega
    go_enter Try.func58, Try.ntmps58
    go_wp2_with fail
    go_ret
    exact ⟨rfl, rfl⟩
  · rw [szI_no h]
    have h' : z - (n : Int) < 0 := by omega
    go_enter Try.func58, Try.ntmps58
    go_wp2_with fail
    go_ret
    exact ⟨rfl, rfl⟩

/-- A rule in memory. -/
def TrIn (w : World) (v : Value) (t : Tr) : Prop :=
  ∃ (a1 a2 : Option Addr) (n1 c1 n2 c2 : Nat), v = .agg #[.slice a1 n1 c1, .slice a2 n2 c2] ∧ Sl w a1 n1 c1 t.take ∧ Sl w a2 n2 c2 t.give

/-- A structure of two fields that lies whole in a block. -/
def Blk (w : World) (g : Nat) (v0 v1 : Value) (T : TypeId) : Prop := w.heap[g]? = some (.cells #[v0, v1] T (0, 0))
theorem Blk.lt {w : World} {g : Nat} {v0 v1 : Value} {T : TypeId} (h : Blk w g v0 v1 T) : g < w.heap.size := (Array.getElem?_eq_some_iff.1 h).1
theorem Blk.c0 {w : World} {g : Nat} {v0 v1 : Value} {T : TypeId} (h : Blk w g v0 v1 T) : w.cell? ⟨g, 0, none⟩ = some v0 := Joins.cell_of_block h 0
theorem Blk.c1 {w : World} {g : Nat} {v0 v1 : Value} {T : TypeId} (h : Blk w g v0 v1 T) : w.cell? ⟨g, 1, none⟩ = some v1 := Joins.cell_of_block h 1
theorem Blk.f {w : World} {g : Nat} {v0 v1 : Value} {T : TypeId} (h : Blk w g v0 v1 T) (i : Nat) : w.frozen? ⟨g, i, none⟩ = false := Joins.unfrozen_of_block h i
theorem Blk.below {w w' : World} {B g : Nat} {v0 v1 : Value} {T : TypeId} (h : Blk w g v0 v1 T) (hb : Below B w w') (hg : g < B) : Blk w' g v0 v1 T := (hb.block g hg).trans h
theorem Blk.s0 {w : World} {g : Nat} {v0 v1 : Value} {T : TypeId} (h : Blk w g v0 v1 T) (v : Value) : Blk (w.setCell ⟨g, 0, none⟩ v) g v v1 T := Joins.block_setCell (i := 0) h v
theorem Blk.s1 {w : World} {g : Nat} {v0 v1 : Value} {T : TypeId} (h : Blk w g v0 v1 T) (v : Value) : Blk (w.setCell ⟨g, 1, none⟩ v) g v0 v T := Joins.block_setCell (i := 1) h v
theorem Blk.other {w : World} {g : Nat} {v0 v1 : Value} {T : TypeId} (h : Blk w g v0 v1 T) (p : Addr) (v : Value) (hp : p.block ≠ g) : Blk (w.setCell p v) g v0 v1 T := (heap_setCell_other w p g v (fun e => hp e.symm)).trans h

/-- The block of a structure of two fields that the call has laid. -/
theorem box_two (w : World) (v0 v1 : Value) (T : TypeId) : ∃ W, w.alloc (.cells #[v0, v1] T) = W ∧ Blk W w.heap.size v0 v1 T ∧ Below w.heap.size w W ∧ W.heap.size = w.heap.size + 1 := by
  refine ⟨_, rfl, ?_, (Below.refl _ _).alloc (Nat.le_refl _) _, ?_⟩
  · show (w.heap.push _)[w.heap.size]? = _
    simp
  · show (w.heap.push _).size = _
    rw [Array.size_push]


/-- A copy of a rule: two rows of the call's own, the second one behind the first one. -/
def TrCopy (B : Nat) (w : World) (v : Value) (n1 n2 : Nat) (t : Tr) : Prop :=
  ∃ g1 g2, v = .agg #[.slice (some ⟨g1, 0, none⟩) n1 n1, .slice (some ⟨g2, 0, none⟩) n2 n2] ∧ g1 < g2 ∧ w.ownsRow B 3 1 (.slice (some ⟨g1, 0, none⟩) n1 n1) n1 (ints t.take) ∧ w.ownsRow B 3 1 (.slice (some ⟨g2, 0, none⟩) n2 n2) n2 (ints t.give)


theorem TrCopy.parts {B : Nat} {w : World} {v : Value} {n1 n2 : Nat} {t : Tr} (h : TrCopy B w v n1 n2 t) : ∃ g1 g2, v = .agg #[.slice (some ⟨g1, 0, none⟩) n1 n1, .slice (some ⟨g2, 0, none⟩) n2 n2] ∧ Sl w (some ⟨g1, 0, none⟩) n1 n1 t.take ∧ Sl w (some ⟨g2, 0, none⟩) n2 n2 t.give := by
  obtain ⟨g1, g2, rfl, _, h1, h2⟩ := h
  exact ⟨g1, g2, rfl, Sl.of_own h1, Sl.of_own h2⟩
theorem TrCopy.below {B : Nat} {w w' : World} {v : Value} {n1 n2 : Nat} {t : Tr} (h : TrCopy B w v n1 n2 t) (hb : Below w.heap.size w w') : TrCopy B w' v n1 n2 t := by
  obtain ⟨g1, g2, rfl, h0, h1, h2⟩ := h
  exact ⟨g1, g2, rfl, h0, ownsRow_below' h1 hb, ownsRow_below' h2 hb⟩


end Go.Proofs.Ytdcgcohfbcdnnaa
