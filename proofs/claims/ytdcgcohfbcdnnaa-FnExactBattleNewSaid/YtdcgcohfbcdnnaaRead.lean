/- What a world holds: rows of numbers, and small lemmas that the walks share. -/
import Derived.Test.YtdcgcohfbcdnnaaMath
import Derived.WalkKit
import Derived.Lib.SmallJoins
namespace Go.Proofs.Ytdcgcohfbcdnnaa
set_option maxRecDepth 100000
open Go.RowKit

/-- The numbers xs lie in block b from cell off on. -/
def At (w : World) (b off : Nat) (xs : List Int) : Prop := ∀ j, j < xs.length → w.cell? ⟨b, off + j, none⟩ = some (.int .i64 (xs.getD j 0))

theorem At.get {w : World} {b off : Nat} {xs : List Int} (h : At w b off xs) {a : Nat} {x : Int} {ys : List Int} (hd : xs.drop a = x :: ys) : w.cell? ⟨b, off + a, none⟩ = some (.int .i64 x) := by
  have hlt : a < xs.length := by
    have := congrArg List.length hd
    simp at this; omega
  rw [h a hlt]
  have : xs.getD a 0 = x := by
    have e : xs[a]? = (xs.drop a)[0]? := by simp
    simp [List.getD, e, hd]
  rw [this]

theorem At.head {w : World} {b off : Nat} {x : Int} {ys : List Int} (h : At w b off (x :: ys)) : w.cell? ⟨b, off, none⟩ = some (.int .i64 x) := by
  simpa using h.get (a := 0) (x := x) (ys := ys) rfl

theorem At.drop {w : World} {b off : Nat} {xs : List Int} (h : At w b off xs) (a : Nat) : At w b (off + a) (xs.drop a) := by
  intro j hj
  rw [List.length_drop] at hj
  rw [Nat.add_assoc, h (a + j) (by omega)]
  simp [List.getD]

theorem At.take {w : World} {b off : Nat} {xs : List Int} (h : At w b off xs) (a : Nat) : At w b off (xs.take a) := by
  intro j hj
  rw [List.length_take] at hj
  rw [h j (by omega)]
  simp [List.getD, show j < a by omega]

theorem At.left {w : World} {b off : Nat} {xs ys : List Int} (h : At w b off (xs ++ ys)) : At w b off xs := by
  have := h.take xs.length
  simpa using this

theorem At.right {w : World} {b off : Nat} {xs ys : List Int} (h : At w b off (xs ++ ys)) : At w b (off + xs.length) ys := by
  have := h.drop xs.length
  simpa using this

theorem At.below {w w' : World} {B b off : Nat} {xs : List Int} (h : At w b off xs) (hb : Below B w w') (hB : b < B) : At w' b off xs := by
  intro j hj
  rw [hb.cell (p := ⟨b, off + j, none⟩) hB]
  exact h j hj

theorem At.lt {w : World} {b off : Nat} {xs : List Int} (h : At w b off xs) (hx : xs ≠ []) : b < w.heap.size := by
  have hl : 0 < xs.length := List.length_pos_iff.2 hx
  exact World.block_lt_of_cell? w _ (h 0 hl)

theorem drop_cons {xs : List Int} {a : Nat} (h : a < xs.length) : ∃ x ys, xs.drop a = x :: ys ∧ xs.drop (a + 1) = ys := by
  refine ⟨xs[a], xs.drop (a + 1), ?_, rfl⟩
  exact List.drop_eq_getElem_cons h

theorem drop_more {xs ys : List Int} {a : Nat} {x : Int} (h : xs.drop a = x :: ys) : xs.drop (a + 1) = ys := by
  rw [show a + 1 = a + 1 from rfl, ← List.drop_drop, h]; rfl
theorem drop_app {xs l r : List Int} {a : Nat} (h : xs.drop a = l ++ r) : xs.drop (a + l.length) = r := by
  rw [← List.drop_drop, h]; simp
theorem drop_len {xs l : List Int} {a : Nat} (h : xs.drop a = l) (hl : l ≠ []) : a + l.length = xs.length := by
  have h1 := congrArg List.length h
  rw [List.length_drop] at h1
  have : 0 < l.length := List.length_pos_iff.2 hl
  omega

namespace T
/-- The terms of one behind those of another one. -/
def app : T → T → T
  | z, s => s
  | c n e r, s => c n e (r.app s)
theorem app_body (t s : T) : (t.app s).body = t.body ++ s.body := by
  induction t with
  | z => simp [app, body]
  | c n e r _ ih => simp [app, body, ih]
theorem app_cnt (t s : T) : (t.app s).cnt = t.cnt + s.cnt := by
  induction t with
  | z => simp [app, cnt]
  | c n e r _ ih => simp [app, cnt, ih]; omega
theorem app_z (t : T) : t.app z = t := by
  induction t with
  | z => rfl
  | c n e r _ ih => simp [app, ih]
theorem app_assoc (t s u : T) : (t.app s).app u = t.app (s.app u) := by
  induction t with
  | z => rfl
  | c n e r _ ih => simp [app, ih]
theorem cnt_zero {t : T} (h : t.cnt = 0) : t = z := by
  cases t with
  | z => rfl
  | c n e r => simp [cnt] at h
theorem cnt_succ {t : T} {k : Nat} (h : t.cnt = k + 1) : ∃ n e r, t = c n e r ∧ r.cnt = k := by
  cases t with
  | z => simp [cnt] at h
  | c n e r => exact ⟨n, e, r, rfl, by simpa [cnt] using h⟩
theorem cnt_pos {t : T} (h : 0 < t.cnt) : ∃ n e r, t = c n e r := by
  cases t with
  | z => simp [cnt] at h
  | c n e r => exact ⟨n, e, r, rfl⟩
end T
end Go.Proofs.Ytdcgcohfbcdnnaa
