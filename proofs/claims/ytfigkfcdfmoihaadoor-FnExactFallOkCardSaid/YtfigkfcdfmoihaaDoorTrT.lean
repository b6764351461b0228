/- The laws' own helpers for slices of rules: sizes, copies, comparisons, marks. -/
import Derived.Test.YtfigkfcdfmoihaaDoorTrS
import Derived.Deep.RegionHeld3
namespace Go.Proofs.YtfigkfcdfmoihaaDoor
set_option maxRecDepth 100000
open Go.RowKit

def szTs : List Tr → Nat
  | [] => 0
  | t :: r => t.take.length + t.give.length + szTs r
theorem szTs_snoc (l : List Tr) (t : Tr) : szTs (l ++ [t]) = szTs l + (t.take.length + t.give.length) := by
  induction l with
  | nil => simp [szTs]
  | cons y l ih => simp only [List.cons_append, szTs, ih]; omega
theorem szTs_take {l : List Tr} {k : Nat} {t : Tr} (h : l[k]? = some t) : szTs (l.take (k + 1)) = szTs (l.take k) + (t.take.length + t.give.length) := by
  obtain ⟨hk, he⟩ := List.getElem?_eq_some_iff.1 h
  rw [List.take_succ_eq_append_getElem hk, he, szTs_snoc]
theorem szTs_le (l : List Tr) (k : Nat) : szTs (l.take k) ≤ szTs l := by
  induction l generalizing k with
  | nil => simp [szTs]
  | cons y l ih =>
    cases k with
    | zero => simp [szTs]
    | succ k => simp only [List.take_succ_cons, szTs]; have := ih k; omega
theorem szTs_mem {l : List Tr} {t : Tr} (h : t ∈ l) : t.take.length + t.give.length ≤ szTs l := by
  obtain ⟨k, hk⟩ := List.mem_iff_getElem?.1 h
  have h1 := szTs_take hk
  have h2 := szTs_le l (k + 1)
  omega


/-- Rules that were copied so far: their rows lie in blocks of their own, one behind the other, behind the slice's own block g. -/
def TsP (w : World) (B U g k : Nat) (ts : List Tr) (cs : List Value) (bl : Nat → Nat) : Prop :=
  (∀ j t, j < k → ts[j]? = some t → (cs[j * 2]? = some (.slice (some ⟨bl (j * 2), 0, none⟩) t.take.length t.take.length) ∧ cs[j * 2 + 1]? = some (.slice (some ⟨bl (j * 2 + 1), 0, none⟩) t.give.length t.give.length)) ∧
      w.ownsRow B 3 1 (.slice (some ⟨bl (j * 2), 0, none⟩) t.take.length t.take.length) t.take.length (ints t.take) ∧ w.ownsRow B 3 1 (.slice (some ⟨bl (j * 2 + 1), 0, none⟩) t.give.length t.give.length) t.give.length (ints t.give)) ∧
    (∀ i j, i < j → j < k * 2 → bl i < bl j) ∧ (∀ i, i < k * 2 → g < bl i ∧ bl i < U)

theorem TsP.below {w w' : World} {B U g k : Nat} {ts : List Tr} {cs : List Value} {bl : Nat → Nat} (h : TsP w B U g k ts cs bl) (hb : Below w.heap.size w w') : TsP w' B U g k ts cs bl :=
  ⟨fun j t hj ht => ⟨(h.1 j t hj ht).1, ownsRow_below' (h.1 j t hj ht).2.1 hb, ownsRow_below' (h.1 j t hj ht).2.2 hb⟩, h.2.1, h.2.2⟩

/-- Two more blocks. -/
def upB (bl : Nat → Nat) (k g1 g2 i : Nat) : Nat := if i = k * 2 then g1 else if i = k * 2 + 1 then g2 else bl i
theorem upB_0 (bl : Nat → Nat) (k g1 g2 : Nat) : upB bl k g1 g2 (k * 2) = g1 := if_pos rfl
theorem upB_1 (bl : Nat → Nat) (k g1 g2 : Nat) : upB bl k g1 g2 (k * 2 + 1) = g2 := by rw [upB, if_neg (by omega), if_pos rfl]
theorem upB_o (bl : Nat → Nat) (k g1 g2 : Nat) {i : Nat} (h1 : i ≠ k * 2) (h2 : i ≠ k * 2 + 1) : upB bl k g1 g2 i = bl i := by rw [upB, if_neg h1, if_neg h2]

theorem TsP.step {w w2 : World} {B g k n n1 n2 : Nat} {ts : List Tr} {cs : List Value} {bl : Nat → Nat} {t : Tr} {g1 g2 : Nat} (h : TsP w B w.heap.size g k ts cs bl) (hb : Below w.heap.size w w2) (ht : ts[k]? = some t) (hcs : cs.length = n * 2) (hk : k < n)
    (hn1 : t.take.length = n1) (hn2 : t.give.length = n2) (hg : g < w.heap.size) (hB : B ≤ w.heap.size) (h12 : g1 < g2) (o1 : w2.ownsRow w.heap.size 3 1 (.slice (some ⟨g1, 0, none⟩) n1 n1) n1 (ints t.take)) (o2 : w2.ownsRow w.heap.size 3 1 (.slice (some ⟨g2, 0, none⟩) n2 n2) n2 (ints t.give)) (u1 u2 : Value) :
    ∃ bl', TsP ((w2.setCell ⟨g, k * 2, none⟩ u1).setCell ⟨g, k * 2 + 1, none⟩ u2) B ((w2.setCell ⟨g, k * 2, none⟩ u1).setCell ⟨g, k * 2 + 1, none⟩ u2).heap.size g (k + 1) ts ((cs.set (k * 2) (.slice (some ⟨g1, 0, none⟩) n1 n1)).set (k * 2 + 1) (.slice (some ⟨g2, 0, none⟩) n2 n2)) bl' := by
  subst hn1 hn2
  have l1 := o1.lt g1 rfl
  have l2 := o2.lt g2 rfl
  have hsz : ((w2.setCell ⟨g, k * 2, none⟩ u1).setCell ⟨g, k * 2 + 1, none⟩ u2).heap.size = w2.heap.size := by simp [World.setCell]
  refine ⟨upB bl k g1 g2, ?_, ?_, ?_⟩
  · intro j t' hj ht'
    by_cases hjk : j = k
    · subst hjk
      cases ht.symm.trans ht'
      rw [upB_0, upB_1]
      refine ⟨⟨?_, ?_⟩, ?_, ?_⟩
      · rw [List.getElem?_set_ne (by omega), List.getElem?_set_self (by omega)]
      · rw [List.getElem?_set_self (by rw [List.length_set]; omega)]
      · exact Joins.ownsRow_le (ownsRow_setCell_other (ownsRow_setCell_other o1 (a := ⟨g, j * 2, none⟩) (by simp [Value.ownBlock]; omega) u1) (a := ⟨g, j * 2 + 1, none⟩) (by simp [Value.ownBlock]; omega) u2) hB
      · exact Joins.ownsRow_le (ownsRow_setCell_other (ownsRow_setCell_other o2 (a := ⟨g, j * 2, none⟩) (by simp [Value.ownBlock]; omega) u1) (a := ⟨g, j * 2 + 1, none⟩) (by simp [Value.ownBlock]; omega) u2) hB
    · obtain ⟨⟨e1, e2⟩, q1, q2⟩ := h.1 j t' (by omega) ht'
      rw [upB_o bl k g1 g2 (i := j * 2) (by omega) (by omega), upB_o bl k g1 g2 (i := j * 2 + 1) (by omega) (by omega)]
      have p1 := (h.2.2 (j * 2) (by omega)).1
      have p2 := (h.2.2 (j * 2 + 1) (by omega)).1
      refine ⟨⟨?_, ?_⟩, ?_, ?_⟩
      · rw [List.getElem?_set_ne (by omega), List.getElem?_set_ne (by omega)]; exact e1
      · rw [List.getElem?_set_ne (by omega), List.getElem?_set_ne (by omega)]; exact e2
      · exact ownsRow_setCell_other (ownsRow_setCell_other (ownsRow_below' q1 hb) (a := ⟨g, k * 2, none⟩) (by simp [Value.ownBlock]; omega) u1) (a := ⟨g, k * 2 + 1, none⟩) (by simp [Value.ownBlock]; omega) u2
      · exact ownsRow_setCell_other (ownsRow_setCell_other (ownsRow_below' q2 hb) (a := ⟨g, k * 2, none⟩) (by simp [Value.ownBlock]; omega) u1) (a := ⟨g, k * 2 + 1, none⟩) (by simp [Value.ownBlock]; omega) u2
  · intro i j hij hj
    have hbl : ∀ i, i < k * 2 → bl i < w.heap.size := fun i hi => (h.2.2 i hi).2
    by_cases j1 : j = k * 2
    · have := hbl i (by omega)
      rw [j1, upB_0, upB_o bl k g1 g2 (i := i) (by omega) (by omega)]
      omega
    · by_cases j2 : j = k * 2 + 1
      · rw [j2, upB_1]
        by_cases i1 : i = k * 2
        · rw [i1, upB_0]; exact h12
        · have := hbl i (by omega)
          rw [upB_o bl k g1 g2 (i := i) i1 (by omega)]
          omega
      · rw [upB_o bl k g1 g2 (i := i) (by omega) (by omega), upB_o bl k g1 g2 (i := j) j1 j2]
        exact h.2.1 i j hij (by omega)
  · intro i hi
    rw [hsz]
    by_cases i1 : i = k * 2
    · rw [i1, upB_0]; omega
    · by_cases i2 : i = k * 2 + 1
      · rw [i2, upB_1]; omega
      · rw [upB_o bl k g1 g2 i1 i2]
        have := h.2.2 i (by omega)
        have := hb.size
        omega



/-- Below B and from U on the world is as it was. -/
structure Mid (B U : Nat) (w w' : World) : Prop where
  below : Below B w w'
  keep : ∀ k, U ≤ k → k < w.heap.size → w'.heap[k]? = w.heap[k]?
theorem Mid.refl (B U : Nat) (w : World) : Mid B U w w := ⟨Below.refl _ _, fun _ _ _ => rfl⟩
theorem Mid.trans {B U : Nat} {a b c : World} (h : Mid B U a b) (k : Mid B U b c) : Mid B U a c :=
  ⟨h.below.trans k.below, fun i h1 h2 => (k.keep i h1 (Nat.lt_of_lt_of_le h2 h.below.size)).trans (h.keep i h1 h2)⟩
theorem Mid.of_grown {B U g : Nat} {w w' : World} (hb : Below B w w') (hg : w.grownBy w' (some g)) (hU : g < U) : Mid B U w w' :=
  ⟨hb, fun k h1 h2 => hg.block k h2 (fun e => by cases e; omega)⟩
theorem Mid.mono {B B' U U' : Nat} {w w' : World} (h : Mid B U w w') (hB : B' ≤ B) (hU : U ≤ U') : Mid B' U' w w' := ⟨h.below.mono hB, fun k h1 h2 => h.keep k (by omega) h2⟩
theorem own_same {w w' : World} {B e n size g cap : Nat} {xs : List Value} (h : w.ownsRow B e size (.slice (some ⟨g, 0, none⟩) n cap) n xs) (hb : w'.heap[g]? = w.heap[g]?) : w'.ownsRow B e size (.slice (some ⟨g, 0, none⟩) n cap) n xs := by
  refine ⟨h.1, ?_⟩
  rcases h.2 with ⟨h1, _⟩ | ⟨g', c', cur, h1, h2, h3, h4⟩
  · cases h1
  · cases h1
    exact .inr ⟨g, cap, cur, rfl, h2, by rw [hb]; exact h3, h4⟩
theorem Mid.own {B U Bo e n size : Nat} {w w' : World} {v : Value} {xs : List Value} (h : Mid B U w w') (ho : w.ownsRow Bo e size v n xs) (hU : U ≤ Bo) : w'.ownsRow Bo e size v n xs := by
  obtain ⟨h1, h2⟩ := ho
  refine ⟨h1, ?_⟩
  rcases h2 with h2 | ⟨g, cap, cur, hv, hg, hh, r⟩
  · exact .inl h2
  · exact .inr ⟨g, cap, cur, hv, hg, by rw [h.keep g (by omega) (Array.getElem?_eq_some_iff.1 hh).1]; exact hh, r⟩

theorem TsP.lt {w : World} {B U g n : Nat} {ts : List Tr} {cs : List Value} {bl : Nat → Nat} (h : TsP w B U g n ts cs bl) (hl : n = ts.length) {i : Nat} (hi : i < n * 2) : bl i < w.heap.size := by
  obtain ⟨t, ht⟩ : ∃ t, ts[i / 2]? = some t := ⟨ts[i / 2]'(by omega), List.getElem?_eq_getElem _⟩
  obtain ⟨_, o1, o2⟩ := h.1 (i / 2) t (by omega) ht
  have hc : i = i / 2 * 2 ∨ i = i / 2 * 2 + 1 := by omega
  rcases hc with h1 | h1
  · rw [h1]; exact (o1.lt _ rfl).2
  · rw [h1]; exact (o2.lt _ rfl).2

theorem TsP.same {w w' : World} {B U g n k : Nat} {ts : List Tr} {cs : List Value} {bl : Nat → Nat} {t : Tr} (h : TsP w B U g n ts cs bl) (hk : k < n) (ht : ts[k]? = some t) (hs : ∀ i, k * 2 ≤ i → i < n * 2 → w'.heap[bl i]? = w.heap[bl i]?) :
    w'.ownsRow B 3 1 (.slice (some ⟨bl (k * 2), 0, none⟩) t.take.length t.take.length) t.take.length (ints t.take) ∧ w'.ownsRow B 3 1 (.slice (some ⟨bl (k * 2 + 1), 0, none⟩) t.give.length t.give.length) t.give.length (ints t.give) := by
  obtain ⟨_, o1, o2⟩ := h.1 k t hk ht
  exact ⟨own_same o1 (hs _ (Nat.le_refl _) (by omega)), own_same o2 (hs _ (by omega) (by omega))⟩


end Go.Proofs.YtfigkfcdfmoihaaDoor
