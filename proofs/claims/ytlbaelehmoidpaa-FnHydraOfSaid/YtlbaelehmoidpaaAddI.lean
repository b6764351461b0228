/- The program's sums. -/
import Derived.Test.YtlbaelehmoidpaaAdd
import Derived.Test.YtlbaelehmoidpaaConcat
import Derived.Test.YtlbaelehmoidpaaBefore
import Derived.Test.YtlbaelehmoidpaaOld
import Derived.Deep.CutBlock
import Derived.StillTailTactics
namespace Go.Proofs.Ytlbaelehmoidpaa
set_option maxRecDepth 100000
open Go.RowKit

theorem TC.join {w : World} {d u : T} {cs ds : List Value} (h : TC w d cs) (k : TC w u ds) : TC w (d.app u) (cs ++ ds) := by
  induction d generalizing cs with
  | z => simp only [TC] at h; subst h; exact k
  | c n e r _ ih =>
    obtain ⟨b, off, cap, cs', rfl, h1, h2, h3, h4⟩ := h
    exact ⟨b, off, cap, _, rfl, h1, h2, h3, ih h4⟩
theorem TC.back {w : World} {d u : T} {cs : List Value} (h : TC w (d.app u) cs) : TC w u (cs.drop (2 * d.cnt)) := by
  induction d generalizing cs with
  | z => simpa [T.cnt, T.app] using h
  | c n e r _ ih =>
    obtain ⟨b, off, cap, cs', rfl, h1, h2, h3, h4⟩ := h
    have := ih h4
    rw [show 2 * (T.c n e r).cnt = 2 * r.cnt + 1 + 1 by simp [T.cnt]; omega]
    simpa using this
theorem TC.one {w : World} {t : T} {cs : List Value} (h : TC w t cs) : ∀ u ∈ cs, u.oneCell' = true := by
  induction t generalizing cs with
  | z => simp only [TC] at h; subst h; intro u hu; cases hu
  | c n e r _ ih =>
    obtain ⟨b, off, cap, cs', rfl, h1, h2, h3, h4⟩ := h
    intro u hu
    rcases List.mem_cons.1 hu with rfl | hu
    · rfl
    · rcases List.mem_cons.1 hu with rfl | hu
      · rfl
      · exact ih h4 u hu

theorem set_same {w : World} {b : Nat} {u : Value} (h : w.cell? ⟨b, 0, none⟩ = some u) (v : Value) : (w.drew.setCell ⟨b, 0, none⟩ v).cell? ⟨b, 0, none⟩ = some v := by
  exact World.cell?_setCell_same' _ _ _ (by show (w.cell? _).isSome = true; rw [h]; rfl)

/-- What stands in the row of slices, and in the row of one term. -/
theorem cat_cells (w : World) (x : Int) (V V1 V2 V3 : Value) (t1 t2 : TypeId) (hV : V.oneCell' = true) :
    (((w.alloc (.cells #[.int .i64 x, V] t1)).alloc (.cells #[V1, V2, V3] t2)).drew).cell? ⟨w.heap.size + 1, 0, none⟩ = some V1 ∧
    (((w.alloc (.cells #[.int .i64 x, V] t1)).alloc (.cells #[V1, V2, V3] t2)).drew).cell? ⟨w.heap.size + 1, 1, none⟩ = some V2 ∧
    (((w.alloc (.cells #[.int .i64 x, V] t1)).alloc (.cells #[V1, V2, V3] t2)).drew).cell? ⟨w.heap.size + 1, 2, none⟩ = some V3 ∧
    Rd (((w.alloc (.cells #[.int .i64 x, V] t1)).alloc (.cells #[V1, V2, V3] t2)).drew) (some ⟨w.heap.size, 0, none⟩) 1 1 [.int .i64 x, V] := by
  have h3 : ∀ i, (((w.alloc (.cells #[.int .i64 x, V] t1)).alloc (.cells #[V1, V2, V3] t2)).drew).cell? ⟨w.heap.size + 1, i, none⟩ = #[V1, V2, V3][i]? := fun i => by
    show ((w.alloc (.cells #[.int .i64 x, V] t1)).alloc (.cells #[V1, V2, V3] t2)).cell? _ = _
    exact Joins.cell_alloc_mark_at _ _ _ _ _ _ (by simp)
  have h2 : ∀ i, (((w.alloc (.cells #[.int .i64 x, V] t1)).alloc (.cells #[V1, V2, V3] t2)).drew).cell? ⟨w.heap.size, i, none⟩ = #[.int .i64 x, V][i]? := fun i => by
    show ((w.alloc (.cells #[.int .i64 x, V] t1)).alloc (.cells #[V1, V2, V3] t2)).cell? _ = _
    rw [World.cell?_alloc_past _ _ _ (by simp)]
    exact Joins.cell_alloc_mark_at _ _ _ _ _ _ rfl
  refine ⟨h3 0, h3 1, h3 2, rfl, ?_, .inr ⟨w.heap.size, 0, rfl, fun j u hj => ?_⟩⟩
  · intro u hu
    simp at hu
    rcases hu with rfl | rfl
    · rfl
    · exact hV
  · rw [Addr.add_lit, Nat.zero_add, h2 j]
    simpa using hj

/-- A slice of terms at the head of a block. -/
def Tz (w : World) (g n c : Nat) (t : T) (cs : List Value) : Prop :=
  n = t.cnt ∧ n ≤ c ∧ c ≤ maxLen ∧ TC w t cs ∧ g < w.heap.size ∧ ∀ j, j < 2 * n → w.cell? ⟨g, j, none⟩ = cs[j]?

theorem Tz.below {w w' : World} {g n c : Nat} {t : T} {cs : List Value} (h : Tz w g n c t cs) (hb : Below w.heap.size w w') : Tz w' g n c t cs := by
  obtain ⟨h1, h2, h3, h4, h5, h6⟩ := h
  exact ⟨h1, h2, h3, h4.below hb, Nat.lt_of_lt_of_le h5 hb.size, fun j hj => (hb.cell (p := ⟨g, j, none⟩) h5).trans (h6 j hj)⟩

theorem Tz.tm {w : World} {g n c : Nat} {t : T} {cs : List Value} (h : Tz w g n c t cs) : Tm w (some ⟨g, 0, none⟩) n t := by
  obtain ⟨h1, _, _, h4, h5, h6⟩ := h
  exact ⟨h1, cs, h4, fun _ => ⟨g, rfl, h5, h6⟩⟩

/-- The first ones of them, to be read. -/
theorem Tz.rd_front {w : World} {g n c : Nat} {d u : T} {cs : List Value} (h : Tz w g n c (d.app u) cs) : Rd w (some ⟨g, 0, none⟩) d.cnt c (cs.take (d.cnt * 2)) := by
  obtain ⟨h1, h2, h3, h4, h5, h6⟩ := h
  have hl := h4.length
  rw [T.app_cnt] at h1 hl
  refine ⟨by rw [List.length_take]; omega, fun u hu => h4.one u (List.mem_of_mem_take hu), .inr ⟨g, 0, rfl, fun j u hj => ?_⟩⟩
  have hjl : j < (cs.take (d.cnt * 2)).length := (List.getElem?_eq_some_iff.1 hj).1
  rw [List.length_take] at hjl
  rw [Addr.add_lit, Nat.zero_add, h6 j (by omega)]
  rw [List.getElem?_take_of_lt (by omega)] at hj
  exact hj

/-- All but the first one, to be read. -/
theorem Tz.rd_tail {w : World} {g n c : Nat} {m : Int} {e r : T} {cs : List Value} (h : Tz w g n c (.c m e r) cs) : Rd w (some (if c = 1 then (⟨g, 0, none⟩ : Addr) else ⟨g, 2, none⟩)) r.cnt (c - 1) (cs.drop 2) := by
  obtain ⟨h1, h2, h3, h4, h5, h6⟩ := h
  have hl := h4.length
  simp only [T.cnt] at h1 hl
  refine ⟨by rw [List.length_drop]; omega, fun u hu => h4.one u (List.mem_of_mem_drop hu), ?_⟩
  by_cases hc : c = 1
  · rw [if_pos hc]
    refine .inr ⟨g, 0, rfl, fun j u hj => ?_⟩
    have hjl : j < (cs.drop 2).length := (List.getElem?_eq_some_iff.1 hj).1
    rw [List.length_drop] at hjl
    omega
  · rw [if_neg hc]
    refine .inr ⟨g, 2, rfl, fun j u hj => ?_⟩
    have hjl : j < (cs.drop 2).length := (List.getElem?_eq_some_iff.1 hj).1
    rw [List.length_drop] at hjl
    rw [Addr.add_lit, h6 (2 + j) (by omega)]
    rw [List.getElem?_drop] at hj
    exact hj

def TmPost (w : World) (t : T) (e : Ending) (w' : World) : Prop :=
  ∃ a n c, e = .returned (.slice a n c) ∧ Tm w' a n t ∧ Below w.heap.size w w'

def AddLoop (wb : World) (s e : T) (gk : Nat) (v6 : Value) (wr : World) : Prop :=
  ∃ (k : Nat) (d u : T), v6 = .int .i64 k ∧ gk + k = s.cnt ∧ d.app u = s ∧ d.cnt = k ∧ T.takeGt e s = d.app (T.takeGt e u) ∧ T.dropGt e s = T.dropGt e u ∧ Below wb.heap.size wb wr

def AddAt (wb : World) (s e : T) (v6 : Value) (wr : World) : Prop :=
  ∃ (k : Nat) (d u : T), v6 = .int .i64 k ∧ k ≤ s.cnt ∧ d.app u = s ∧ d.cnt = k ∧ T.takeGt e s = d ∧ T.dropGt e s = u ∧ (∀ n f r, u = .c n f r → f.cmp e ≠ 1) ∧ Below wb.heap.size wb wr

def AddTest (wz : World) (m : Int) (e r u : T) (v : Value) (wx : World) : Prop :=
  ∃ bq : Bool, v = .bool bq ∧ (bq = true → ∃ n q, u = .c n e q) ∧ (bq = false → T.addTail m e r u = .c m e r) ∧ Below wz.heap.size wz wx

def AddBox (w : World) (s : T) (m : Int) (e r d : T) (be oe ce : Nat) (wx : World) : Prop :=
  ∃ x : Int, wx.cell? ⟨w.heap.size, 0, none⟩ = some (.int .i64 x) ∧ wx.cell? ⟨w.heap.size, 1, none⟩ = some (.slice (some ⟨be, oe, none⟩) e.enc.length ce) ∧ T.add s (.c m e r) = d.app (.c x e r) ∧
    Below w.heap.size w wx ∧ w.heap.size < wx.heap.size

end Go.Proofs.Ytlbaelehmoidpaa
