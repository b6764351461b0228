/- One exchange: TradeDo of the program and of the model. -/
import Derived.Test.YtfigkfcdfmoihaaDoorTrB
import Derived.Deep.LoopGhost
import Derived.StillTailTactics
import Derived.Maps.AppendAt
import Derived.Deep.RegionHeld3
import Derived.Deep.AppendLies
namespace Go.Proofs.YtfigkfcdfmoihaaDoor
set_option maxRecDepth 100000
open Go.RowKit

/-- An answer of a row and a truth. -/
def TdPost (w : World) (r : List Int) (o : Bool) (e : Ending) (w' : World) : Prop :=
  ∃ a c, e = .returned (.tuple #[.slice a r.length c, .bool o]) ∧ w'.ownsRow w.heap.size 3 1 (.slice a r.length c) r.length (ints r) ∧ Below w.heap.size w w'

theorem td_nil {w w1 : World} (hb : Below w.heap.size w w1) : TdPost w [] false (.returned (.tuple #[.slice none 0 0, .bool false])) w1 := ⟨none, 0, rfl, ⟨rfl, .inl ⟨rfl, rfl⟩⟩, hb⟩
theorem td_lit {w w1 : World} (hb : Below w.heap.size w w1) : TdPost w [] false (.returned (.tuple #[.slice (some ⟨w1.heap.size, 0, none⟩) 0 0, .bool false])) (w1.alloc (.cells #[] 3)) :=
  ⟨_, 0, rfl, World.ownsRow_lit w1 #[] 0 (by have := hb.size; omega) (by simp [maxLen]) rfl, hb.alloc (by have := hb.size; omega) _⟩

/-- The row behind k heaps. -/
def rowAt (h : List Int) (t : Tr) : Nat → List Int
  | 0 => [0, 0, 0]
  | 1 => [aft h t 0, 0, 0]
  | 2 => [aft h t 0, aft h t 1, 0]
  | _ => [aft h t 0, aft h t 1, aft h t 2]
theorem rowAt_len (h : List Int) (t : Tr) (k : Nat) : (rowAt h t k).length = 3 := by
  match k with
  | 0 => rfl
  | 1 => rfl
  | 2 => rfl
  | k + 3 => rfl
theorem rowAt_set (h : List Int) (t : Tr) {k : Nat} (hk : k < 3) : (ints (rowAt h t k)).set k (.int .i64 (aft h t k)) = ints (rowAt h t (k + 1)) := by
  match k, hk with
  | 0, _ => rfl
  | 1, _ => rfl
  | 2, _ => rfl


theorem cell_in {w : World} {p : Addr} {v : Value} (h : w.cell? p = some v) : p.block < w.heap.size := by
  by_cases hh : p.block < w.heap.size
  · exact hh
  · have hn : w.heap[p.block]? = none := Array.getElem?_eq_none_iff.2 (by omega)
    simp [World.cell?, hn] at h

/-- The first k numbers of the row. -/
def outAt (h : List Int) (t : Tr) : Nat → List Int
  | 0 => []
  | k + 1 => outAt h t k ++ [aft h t k]
theorem outAt_len (h : List Int) (t : Tr) (k : Nat) : (outAt h t k).length = k := by
  induction k with
  | zero => rfl
  | succ k ih => rw [outAt, List.length_append, ih]; rfl
theorem aft_fit {h : List Int} {t : Tr} (hh : listB 40 h = true) (ht : tradeB t = true) {k : Nat} (hk : k < 3) (hu : t.take.getD k 0 ≤ h.getD k 0) : 0 ≤ aft h t k ∧ aft h t k ≤ 45 := by
  have a1 := listB_get hh hk
  have a2 := listB_get (tradeB_true.1 ht).1 hk
  have a3 := listB_get (tradeB_true.1 ht).2 hk
  unfold aft
  omega

theorem td_cell {wr w1 : World} {B e n size : Nat} {v : Value} {ys : List Value} (ho : wr.ownsRow B e size v n ys) {o1 : Obj}
    (hg : (wr.alloc o1).drew.grownBy w1 v.ownBlock) {b o : Nat} {x : Value} (h : wr.cell? ⟨b, o, none⟩ = some x) (hb : b < B) : w1.cell? ⟨b, o, none⟩ = some x := by
  have hlt : b < wr.heap.size := World.block_lt_of_cell? wr _ h
  refine hg.cell ?_ ?_
  · show (wr.alloc o1).cell? ⟨b, o, none⟩ = _
    rw [World.cell?_alloc_past _ _ _ hlt]
    exact h
  · intro h'
    have h2 : B ≤ b := (ho.lt _ h'.symm).1
    omega

theorem sl_lt {w : World} {b off n c : Nat} {xs : List Int} (h : Sl w (some ⟨b, off, none⟩) n c xs) (hn : 0 < n) : b < w.heap.size := by
  obtain ⟨b', off', e, hat⟩ := h.2.2.2 hn
  cases e
  exact cell_in (hat 0 (by rw [h.1]; exact hn))

theorem out_can {h : List Int} {t : Tr} (hh : listB 40 h = true) (ht : tradeB t = true) (hu : ∀ j, j < 3 → t.take.getD j 0 ≤ h.getD j 0) : listB 40 (outAt h t 3) = canB h t := by
  rcases can_tf h t with hc | hc
  · rw [hc, show outAt h t 3 = doR h t by rw [doR_yes hc]; rfl]
    exact doR_valid hc
  · rw [hc, Bool.eq_false_iff]
    intro h1
    have h2 : canB h t = true := by
      rw [canB_true]
      refine ⟨hh, ht, fun k hk => ?_⟩
      rw [fitB_true]
      refine ⟨hu k hk, ?_⟩
      have h3 := (listB_get h1 hk).2
      have h4 : (outAt h t 3).getD k 0 = aft h t k := by
        have : k = 0 ∨ k = 1 ∨ k = 2 := by omega
        rcases this with rfl | rfl | rfl <;> rfl
      rw [h4] at h3
      exact h3
    rw [hc] at h2
    cases h2


end Go.Proofs.YtfigkfcdfmoihaaDoor
