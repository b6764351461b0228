/- The reader's steps. -/
import Derived.Test.YtagdeifalkenhaaDoorPickD
namespace Go.Proofs.YtagdeifalkenhaaDoor
set_option maxRecDepth 100000
open Go.RowKit

/-- Two steps of the world. -/
theorem grownBy_step {w0 wr w1 : World} {g : Nat} {row : Option Nat} (h : w0.grownBy wr (some g)) (k : wr.grownBy w1 row) (hr : ∀ r, row = some r → r = g ∨ w0.heap.size ≤ r) : w0.grownBy w1 (some g) := by
  refine ⟨k.os.trans h.os, k.tape.trans h.tape, k.output.trans h.output, Nat.le_trans h.size k.size, fun i hi hne => ?_⟩
  rw [k.block i (Nat.lt_of_lt_of_le hi h.size) (fun e => ?_)]
  · exact h.block i hi hne
  · rcases hr i e.symm with h1 | h1
    · exact hne (by rw [h1])
    · omega

theorem below_grown {w w' : World} (h : Below w.heap.size w w') (row : Option Nat) : w.grownBy w' row := ⟨h.os, h.tape, h.output, h.size, fun k hk _ => h.block k hk⟩

/-- A row of the call's own that is no nil slice is a slice at the head of a block. -/
theorem own_some {w : World} {B e n size : Nat} {v : Value} {xs : List Value} (h : w.ownsRow B e size v n xs) (hn : ¬ v = .slice none 0 0) : ∃ g cap, v = .slice (some ⟨g, 0, none⟩) n cap ∧ B ≤ g ∧ g < w.heap.size ∧ n ≤ cap ∧ cap ≤ maxLen := by
  rcases h.2 with ⟨h1, _⟩ | ⟨g, cap, cur, rfl, h1, h2, h3, h4, _⟩
  · exact absurd h1 hn
  · exact ⟨g, cap, rfl, h1, (Array.getElem?_eq_some_iff.1 h2).1, h3, h4⟩

theorem own_rd {w w' : World} {B e n size g : Nat} {v : Value} {xs : List Value} (h : w.ownsRow B e size v n xs) (hg : w.grownBy w' (some g)) (hB : g < B) : w'.ownsRow B e size v n xs :=
  h.kept hg (.inr (fun he => by have := (h.lt _ he).1; omega))

theorem ga (w : World) (o : Obj) (row : Option Nat) : w.grownBy (w.alloc o).drew row :=
  have h := World.grownBy_alloc w o row
  ⟨h.os, h.tape, h.output, h.size, h.block⟩

/-- The next step of a chain from wz on: only the reader or new rows are written. -/
theorem gs {wz W w' : World} {g : Nat} {row : Option Nat} (h : wz.grownBy W (some g)) (k : W.grownBy w' row) (hr : ∀ r, row = some r → wz.heap.size ≤ r) : wz.grownBy w' (some g) :=
  grownBy_step h k (fun r e => .inr (hr r e))

theorem rd_gs {W w' : World} {g P : Nat} {row : Option Nat} (h : RdOk W g P) (k : W.grownBy w' row) {s : Nat} (hs : g < s) (hr : ∀ r, row = some r → s ≤ r) : RdOk w' g P :=
  h.kept k (fun r e => by have := hr r e; omega)


end Go.Proofs.YtagdeifalkenhaaDoor
