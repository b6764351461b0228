/- The laws' own helpers for one rule: sizes, copies, comparisons. -/
import Derived.Test.YtjkkopjmpmbapaaTrA
import Derived.Test.YtjkkopjmpmbapaaMark
namespace Go.Proofs.Ytjkkopjmpmbapaa
set_option maxRecDepth 100000
open Go.RowKit

/-- What is left of a measure, -1 where it is too small. -/
def szI (n : Nat) (z : Int) : Int := if (n : Int) ≤ z then z - n else -1
theorem szI_yes {n : Nat} {z : Int} (h : (n : Int) ≤ z) : szI n z = z - n := if_pos h
theorem szI_no {n : Nat} {z : Int} (h : ¬ (n : Int) ≤ z) : szI n z = -1 := if_neg h

theorem szIntS_any (ao : Option Addr) (n c : Nat) (z : Int) (w : World) (hn : n ≤ 9223372036854775807) (hz0 : 0 ≤ z) (hz1 : z ≤ 1048576) :
    Calls Try.prog 50 #[.slice ao n c, .int .i64 z] w fun e w' => e = .returned (.int .i64 (szI n z)) ∧ w = w' := by
  by_cases h : (n : Int) ≤ z
  · rw [szI_yes h]
    have h' : ¬ (z - (n : Int) < 0) := by omega
    go_enter Try.func50, Try.ntmps50
    go_wp2_with fail
    go_ret
    exact ⟨rfl, rfl⟩
  · rw [szI_no h]
    have h' : z - (n : Int) < 0 := by omega
    go_enter Try.func50, Try.ntmps50
    go_wp2_with fail
    go_ret
    exact ⟨rfl, rfl⟩

/-- A rule in memory. -/
def TrIn (w : World) (v : Value) (t : Tr) : Prop :=
  ∃ (a1 a2 : Option Addr) (n1 c1 n2 c2 : Nat), v = .agg #[.slice a1 n1 c1, .slice a2 n2 c2] ∧ Sl w a1 n1 c1 t.take ∧ Sl w a2 n2 c2 t.give

/-- A structure of two fields that lies whole in a block. -/
def Blk (w : World) (g : Nat) (v0 v1 : Value) (T : TypeId) : Prop := w.heap[g]? = some (.cells #[v0, v1] T (0, 0))
theorem Blk.lt {w : World} {g : Nat} {v0 v1 : Value} {T : TypeId} (h : Blk w g v0 v1 T) : g < w.heap.size := (Array.getElem?_eq_some_iff.1 h).1
theorem Blk.c0 {w : World} {g : Nat} {v0 v1 : Value} {T : TypeId} (h : Blk w g v0 v1 T) : w.cell? ⟨g, 0, none⟩ = some v0 := Joins.cell_of_block h 0
theorem Blk.c1 {w : World} {g : Nat} {v0 v1 : Value} {T : TypeId} (h : Blk w g v0 v1 T) : w.cell? ⟨g, 1, none⟩ = some v1 := Joins.cell_of_block h 1
theorem Blk.f {w : World} {g : Nat} {v0 v1 : Value} {T : TypeId} (h : Blk w g v0 v1 T) (i : Nat) : w.frozen? ⟨g, i, none⟩ = false := Joins.unfrozen_of_block h i
theorem Blk.below {w w' : World} {B g : Nat} {v0 v1 : Value} {T : TypeId} (h : Blk w g v0 v1 T) (hb : Below B w w') (hg : g < B) : Blk w' g v0 v1 T := (hb.block g hg).trans h
theorem Blk.s0 {w : World} {g : Nat} {v0 v1 : Value} {T : TypeId} (h : Blk w g v0 v1 T) (v : Value) : Blk (w.setCell ⟨g, 0, none⟩ v) g v v1 T := Joins.block_setCell (i := 0) h v
theorem Blk.s1 {w : World} {g : Nat} {v0 v1 : Value} {T : TypeId} (h : Blk w g v0 v1 T) (v : Value) : Blk (w.setCell ⟨g, 1, none⟩ v) g v0 v T := Joins.block_setCell (i := 1) h v
theorem Blk.other {w : World} {g : Nat} {v0 v1 : Value} {T : TypeId} (h : Blk w g v0 v1 T) (p : Addr) (v : Value) (hp : p.block ≠ g) : Blk (w.setCell p v) g v0 v1 T := (heap_setCell_other w p g v (fun e => hp e.symm)).trans h

/-- The block of a structure of two fields that the call has laid. -/
theorem box_two (w : World) (v0 v1 : Value) (T : TypeId) : ∃ W, w.alloc (.cells #[v0, v1] T) = W ∧ Blk W w.heap.size v0 v1 T ∧ Below w.heap.size w W ∧ W.heap.size = w.heap.size + 1 := by
  refine ⟨_, rfl, ?_, (Below.refl _ _).alloc (Nat.le_refl _) _, ?_⟩
  · show (w.heap.push _)[w.heap.size]? = _
    simp
  · show (w.heap.push _).size = _
    rw [Array.size_push]

set_option maxHeartbeats 1000000 in
theorem szTrade_any (a1 a2 : Option Addr) (n1 c1 n2 c2 : Nat) (z : Int) (w : World) (h1 : n1 ≤ 9223372036854775807) (h2 : n2 ≤ 9223372036854775807) (hz0 : 0 ≤ z) (hz1 : z ≤ 1048576) :
    Calls Try.prog 13 #[.agg #[.slice a1 n1 c1, .slice a2 n2 c2], .int .i64 z] w fun e w' => e = .returned (.int .i64 (szI (n1 + n2) z)) ∧ Below w.heap.size w w' := by
  obtain ⟨W, hW, hB, hbW, _⟩ := box_two w (.slice a1 n1 c1) (.slice a2 n2 c2) 24
  have hc0 := hB.c0
  have hc1 := hB.c1
  have HbW := Lib.hid hbW
  have k1 := Lib.hid (szIntS_any a1 n1 c1 z W h1 hz0 hz1)
  clear hbW
  by_cases hA : (n1 : Int) ≤ z
  · have k2 := Lib.hid (szIntS_any a2 n2 c2 (z - n1) W h2 (by omega) (by omega))
    rw [szI_yes hA] at k1
    have hA' : ¬ (z - (n1 : Int) < 0) := by omega
    by_cases hB : (n2 : Int) ≤ z - n1
    · rw [szI_yes (n := n1 + n2) (by omega)]
      rw [szI_yes hB] at k2
      have hB' : ¬ (z - (n1 : Int) - (n2 : Int) < 0) := by omega
      clear hA hB
      go_enter Try.func13, Try.ntmps13
      go_wp2_with fail
      refine (k1.out).mono ?_
      rintro ee wx ⟨rfl, rfl⟩
      go_wp2_with fail
      refine (k2.out).mono ?_
      rintro ee wx ⟨rfl, rfl⟩
      go_wp2_with fail
      go_ret
      exact ⟨ret_int (by push_cast; omega), HbW.out⟩
    · rw [szI_no (n := n1 + n2) (by omega)]
      rw [szI_no hB] at k2
      clear hA hB
      go_enter Try.func13, Try.ntmps13
      go_wp2_with fail
      refine (k1.out).mono ?_
      rintro ee wx ⟨rfl, rfl⟩
      go_wp2_with fail
      refine (k2.out).mono ?_
      rintro ee wx ⟨rfl, rfl⟩
      go_wp2_with fail
      go_ret
      exact ⟨rfl, HbW.out⟩
  · rw [szI_no hA] at k1
    rw [szI_no (n := n1 + n2) (by omega)]
    clear hA
    go_enter Try.func13, Try.ntmps13
    go_wp2_with fail
    refine (k1.out).mono ?_
    rintro ee wx ⟨rfl, rfl⟩
    go_wp2_with fail
    go_ret
    exact ⟨rfl, HbW.out⟩

/-- A copy of a rule: two rows of the call's own, the second one behind the first one. -/
def TrCopy (B : Nat) (w : World) (v : Value) (n1 n2 : Nat) (t : Tr) : Prop :=
  ∃ g1 g2, v = .agg #[.slice (some ⟨g1, 0, none⟩) n1 n1, .slice (some ⟨g2, 0, none⟩) n2 n2] ∧ g1 < g2 ∧ w.ownsRow B 3 1 (.slice (some ⟨g1, 0, none⟩) n1 n1) n1 (ints t.take) ∧ w.ownsRow B 3 1 (.slice (some ⟨g2, 0, none⟩) n2 n2) n2 (ints t.give)

set_option maxHeartbeats 1000000 in
theorem toTrade_any (a1 a2 : Option Addr) (n1 c1 n2 c2 : Nat) (t : Tr) (w : World) (hb1 : n1 ≤ 1000000000000) (hb2 : n2 ≤ 1000000000000) (h1 : Sl w a1 n1 c1 t.take) (h2 : Sl w a2 n2 c2 t.give) :
    Calls Try.prog 15 #[.agg #[.slice a1 n1 c1, .slice a2 n2 c2]] w fun e w' => ∃ v, e = .returned v ∧ TrCopy w.heap.size w' v n1 n2 t ∧ Below w.heap.size w w' := by
  obtain ⟨W1, hW1, hB1, hbW1, e1⟩ := box_two w (.slice a1 n1 c1) (.slice a2 n2 c2) 24
  obtain ⟨W2, hW2, hB2, hbW2, e2⟩ := box_two W1 (.slice none 0 0) (.slice none 0 0) 27
  obtain ⟨W3, hW3, hB3, hbW3, e3⟩ := box_two W2 (.slice none 0 0) (.slice none 0 0) 27
  have hA : ((w.alloc (.cells #[.slice a1 n1 c1, .slice a2 n2 c2] 24)).alloc (.cells #[.slice none 0 0, .slice none 0 0] 27)).alloc (.cells #[.slice none 0 0, .slice none 0 0] 27) = W3 := by rw [hW1, hW2, hW3]
  have hb03 : Below w.heap.size w W3 := (hbW1.trans (hbW2.mono hbW1.size)).trans (hbW3.mono (by omega))
  have k1 := Lib.hid (toIntS_any a1 n1 c1 t.take W3 hb1 (h1.below hb03))
  have B1 := (hB1.below hbW2 (by omega)).below hbW3 (by omega)
  have B2 := hB2.below hbW3 (by omega)
  rw [e1] at B2
  rw [e2, e1] at hB3
  have hc0 := B1.c0
  have HB1 := Lib.hid B1
  have HB2 := Lib.hid B2
  have HB3 := Lib.hid hB3
  have H2 := Lib.hid h2
  have Hb := Lib.hid hb03
  have Hs3 := Lib.hid (show W3.heap.size = w.heap.size + 1 + 1 + 1 by omega)
  clear hb03 hbW1 hbW2 hbW3 hW1 hW2 hW3 h1 h2 e1 e2 e3 hB1 hB2 hB3 B1 B2
  go_enter Try.func15, Try.ntmps15
  go_wp2_with fail
  refine (k1.out).mono ?_
  rintro ee w1 ⟨rfl, ho1, hb1'⟩
  obtain ⟨G1, hG1⟩ : ∃ g, g = W3.heap.size := ⟨_, rfl⟩
  have hG3 := Hs3.out
  rw [← hG1] at ho1 hb1' hG3 ⊢
  have A1 := HB1.out.below hb1' (by omega)
  have A2 := HB2.out.below hb1' (by omega)
  have A3 := HB3.out.below hb1' (by omega)
  have w1s := hb1'.size
  obtain ⟨W4, hW4⟩ : ∃ W, w1.setCell ⟨w.heap.size + 1 + 1, 0, none⟩ (.slice (some ⟨G1, 0, none⟩) n1 n1) = W := ⟨_, rfl⟩
  have D1 := A1.other ⟨w.heap.size + 1 + 1, 0, none⟩ (.slice (some ⟨G1, 0, none⟩) n1 n1) (by show w.heap.size + 1 + 1 ≠ _; omega)
  have D2 := A2.other ⟨w.heap.size + 1 + 1, 0, none⟩ (.slice (some ⟨G1, 0, none⟩) n1 n1) (by show w.heap.size + 1 + 1 ≠ _; omega)
  have D3 := A3.s0 (.slice (some ⟨G1, 0, none⟩) n1 n1)
  rw [hW4] at D1 D2 D3
  have HG1 := Lib.hid hG1
  have HG3 := Lib.hid hG3
  have HD1 := Lib.hid D1
  have HD2 := Lib.hid D2
  have HD3 := Lib.hid D3
  have HbA := Lib.hid hb1'
  have Ho1 := Lib.hid ho1
  have k2 := Lib.hid (toIntS_any a2 n2 c2 t.give W4 hb2 (H2.out.below (by rw [← hW4]; exact (Hb.out.trans (hb1'.mono (by omega))).setCell (Nat.le_add_right_of_le (Nat.le_succ _)) _)))
  have x0 := A3.c0
  have f0 := A3.f 0
  have y1 := D1.c1
  clear hG1 hG3 D1 D2 D3 A1 A2 A3 hb1' ho1 hc0 w1s
  go_wp2_with fail
  refine (k2.out).mono ?_
  rintro ee w2 ⟨rfl, ho2, hb2'⟩
  have oA := ownsRow_setCell_below Ho1.out (a := ⟨w.heap.size + 1 + 1, 0, none⟩) (by show w.heap.size + 1 + 1 < G1; rw [HG3.out]; omega) (.slice (some ⟨G1, 0, none⟩) n1 n1)
  rw [hW4] at oA
  have oB := ownsRow_below' oA hb2'
  obtain ⟨G2, hG2⟩ : ∃ g, g = W4.heap.size := ⟨_, rfl⟩
  rw [← hG2] at ho2 hb2' ⊢
  have hsW4 : w1.heap.size = W4.heap.size := by rw [← hW4]; simp [World.setCell]
  have hG12 : G1 < G2 := by
    have h1 := (Ho1.out.lt G1 rfl).2
    omega
  have hG3 := HG3.out
  have A1 := HD1.out.below hb2' (by omega)
  have A2 := HD2.out.below hb2' (by omega)
  have A3 := HD3.out.below hb2' (by omega)
  have x1 := A3.c1
  have f1 := A3.f 1
  obtain ⟨W5, hW5⟩ : ∃ W, w2.setCell ⟨w.heap.size + 1 + 1, 1, none⟩ (.slice (some ⟨G2, 0, none⟩) n2 n2) = W := ⟨_, rfl⟩
  have D2 := A2.other ⟨w.heap.size + 1 + 1, 1, none⟩ (.slice (some ⟨G2, 0, none⟩) n2 n2) (by show w.heap.size + 1 + 1 ≠ _; omega)
  have D3 := A3.s1 (.slice (some ⟨G2, 0, none⟩) n2 n2)
  have oC := ownsRow_setCell_below oB (a := ⟨w.heap.size + 1 + 1, 1, none⟩) (by show w.heap.size + 1 + 1 < G1; omega) (.slice (some ⟨G2, 0, none⟩) n2 n2)
  have oD := ownsRow_setCell_below ho2 (a := ⟨w.heap.size + 1 + 1, 1, none⟩) (by show w.heap.size + 1 + 1 < G2; omega) (.slice (some ⟨G2, 0, none⟩) n2 n2)
  rw [hW5] at D2 D3 oC oD
  have z0 := D3.c0
  have z1 := D3.c1
  have p0 := D2.c0
  have q0 := D2.f 0
  obtain ⟨W6, hW6⟩ : ∃ W, W5.setCell ⟨w.heap.size + 1, 0, none⟩ (.slice (some ⟨G1, 0, none⟩) n1 n1) = W := ⟨_, rfl⟩
  have E2 := D2.s0 (.slice (some ⟨G1, 0, none⟩) n1 n1)
  rw [hW6] at E2
  have p1 := E2.c1
  have q1 := E2.f 1
  obtain ⟨W7, hW7⟩ : ∃ W, W6.setCell ⟨w.heap.size + 1, 1, none⟩ (.slice (some ⟨G2, 0, none⟩) n2 n2) = W := ⟨_, rfl⟩
  have F2 := E2.s1 (.slice (some ⟨G2, 0, none⟩) n2 n2)
  rw [hW7] at F2
  have r0 := F2.c0
  have r1 := F2.c1
  have oE := ownsRow_setCell_below (ownsRow_setCell_below oC (a := ⟨w.heap.size + 1, 0, none⟩) (by show w.heap.size + 1 < G1; omega) (.slice (some ⟨G1, 0, none⟩) n1 n1)) (a := ⟨w.heap.size + 1, 1, none⟩) (by show w.heap.size + 1 < G1; omega) (.slice (some ⟨G2, 0, none⟩) n2 n2)
  have oF := ownsRow_setCell_below (ownsRow_setCell_below oD (a := ⟨w.heap.size + 1, 0, none⟩) (by show w.heap.size + 1 < G2; omega) (.slice (some ⟨G1, 0, none⟩) n1 n1)) (a := ⟨w.heap.size + 1, 1, none⟩) (by show w.heap.size + 1 < G2; omega) (.slice (some ⟨G2, 0, none⟩) n2 n2)
  rw [hW6, hW7] at oE oF
  have bA : Below w.heap.size w w1 := Hb.out.trans (HbA.out.mono (by omega))
  have bB : Below w.heap.size w W4 := by rw [← hW4]; exact bA.setCell (by show w.heap.size ≤ w.heap.size + 1 + 1; omega) _
  have bC : Below w.heap.size w W5 := by rw [← hW5]; exact (bB.trans (hb2'.mono (by omega))).setCell (by show w.heap.size ≤ w.heap.size + 1 + 1; omega) _
  have bD : Below w.heap.size w W7 := by rw [← hW7, ← hW6]; exact (bC.setCell (by show w.heap.size ≤ w.heap.size + 1; omega) _).setCell (by show w.heap.size ≤ w.heap.size + 1; omega) _
  have HF := Lib.hid (show TrCopy w.heap.size W7 (.agg #[.slice (some ⟨G1, 0, none⟩) n1 n1, .slice (some ⟨G2, 0, none⟩) n2 n2]) n1 n2 t from ⟨G1, G2, rfl, hG12, Joins.ownsRow_le oE (by omega), Joins.ownsRow_le oF (by omega)⟩)
  have HbD := Lib.hid bD
  clear hG2 hG3 A1 A2 A3 D2 D3 E2 F2 oA oB oC oD oE oF bA bB bC bD hb2' ho2 hsW4 hG12 y1 x0 f0
  go_wp2_with fail
  refine bodyPost_ret (v := .agg #[.slice (some ⟨G1, 0, none⟩) n1 n1, .slice (some ⟨G2, 0, none⟩) n2 n2]) (by simp [results, Try.f15, go_sem, r0, r1]) rfl ?_
  exact ⟨_, rfl, HF.out, HbD.out⟩

theorem TrCopy.parts {B : Nat} {w : World} {v : Value} {n1 n2 : Nat} {t : Tr} (h : TrCopy B w v n1 n2 t) : ∃ g1 g2, v = .agg #[.slice (some ⟨g1, 0, none⟩) n1 n1, .slice (some ⟨g2, 0, none⟩) n2 n2] ∧ Sl w (some ⟨g1, 0, none⟩) n1 n1 t.take ∧ Sl w (some ⟨g2, 0, none⟩) n2 n2 t.give := by
  obtain ⟨g1, g2, rfl, _, h1, h2⟩ := h
  exact ⟨g1, g2, rfl, Sl.of_own h1, Sl.of_own h2⟩
theorem TrCopy.below {B : Nat} {w w' : World} {v : Value} {n1 n2 : Nat} {t : Tr} (h : TrCopy B w v n1 n2 t) (hb : Below w.heap.size w w') : TrCopy B w' v n1 n2 t := by
  obtain ⟨g1, g2, rfl, h0, h1, h2⟩ := h
  exact ⟨g1, g2, rfl, h0, ownsRow_below' h1 hb, ownsRow_below' h2 hb⟩

set_option maxHeartbeats 1000000 in
theorem eqTrade_same (a1 a2 a3 a4 : Option Addr) (n1 c1 n2 c2 n3 c3 n4 c4 : Nat) (t : Tr) (w : World) (hb1 : n1 ≤ 1000000000000) (hb2 : n2 ≤ 1000000000000) (h1 : Sl w a1 n1 c1 t.take) (h2 : Sl w a2 n2 c2 t.give) (h3 : Sl w a3 n3 c3 t.take) (h4 : Sl w a4 n4 c4 t.give) :
    Calls Try.prog 17 #[.agg #[.slice a1 n1 c1, .slice a2 n2 c2], .agg #[.slice a3 n3 c3, .slice a4 n4 c4]] w fun e w' => e = .returned (.bool true) ∧ Below w.heap.size w w' := by
  obtain ⟨W1, hW1, hB1, hbW1, e1⟩ := box_two w (.slice a1 n1 c1) (.slice a2 n2 c2) 27
  obtain ⟨W2, hW2, hB2, hbW2, e2⟩ := box_two W1 (.slice a3 n3 c3) (.slice a4 n4 c4) 27
  have hA : (w.alloc (.cells #[.slice a1 n1 c1, .slice a2 n2 c2] 27)).alloc (.cells #[.slice a3 n3 c3, .slice a4 n4 c4] 27) = W2 := by rw [hW1, hW2]
  have hb02 : Below w.heap.size w W2 := hbW1.trans (hbW2.mono hbW1.size)
  have B1 := hB1.below hbW2 (by omega)
  rw [e1] at hB2
  have k1 := Lib.hid (eqIntS_any a1 a3 n1 c1 n3 c3 t.take t.take W2 hb1 (h1.below hb02) (h3.below hb02))
  rw [eqB_refl] at k1
  have x0 := B1.c0
  have x1 := hB2.c0
  have HB1 := Lib.hid B1
  have HB2 := Lib.hid hB2
  have Hb := Lib.hid hb02
  have Hs := Lib.hid (show W2.heap.size = w.heap.size + 1 + 1 by omega)
  have H2 := Lib.hid h2
  have H4 := Lib.hid h4
  clear hW1 hW2 hB1 hB2 hbW1 hbW2 e1 e2 hb02 B1 h1 h2 h3 h4
  go_enter Try.func17, Try.ntmps17
  go_wp2_with fail
  refine (k1.out).mono ?_
  rintro ee w1 ⟨rfl, hb3⟩
  have hs2 := Hs.out
  have y0 := (HB1.out.below hb3 (by omega)).c1
  have y1 := (HB2.out.below hb3 (by omega)).c1
  have hb4 := Hb.out.trans (hb3.mono Hb.out.size)
  have k2 := Lib.hid (eqIntS_any a2 a4 n2 c2 n4 c4 t.give t.give w1 hb2 (H2.out.below hb4) (H4.out.below hb4))
  rw [eqB_refl] at k2
  have Hb4 := Lib.hid hb4
  clear hs2 hb3 hb4
  go_wp2_with fail
  refine (k2.out).mono ?_
  rintro ee w2 ⟨rfl, hb5⟩
  have Hb5 := Lib.hid (Hb4.out.trans (hb5.mono Hb4.out.size))
  clear hb5
  go_wp2_with fail
  go_ret
  exact ⟨rfl, Hb5.out⟩

end Go.Proofs.Ytjkkopjmpmbapaa
