/- The laws' own helpers for one battle: sizes, copies, comparisons. -/
import Derived.Test.YtdcgcohfbcdnnaaTrB
import Derived.Test.YtdcgcohfbcdnnaaMark
namespace Go.Proofs.Ytdcgcohfbcdnnaa
set_option maxRecDepth 100000
open Go.RowKit

/-- A battle. -/
structure Bt where
  first : List Int
  copies : Int
  cuts : List Int
  now : List Int

/-- A structure of four fields that lies whole in a block. -/
def Blk4 (w : World) (g : Nat) (v0 v1 v2 v3 : Value) (T : TypeId) : Prop := w.heap[g]? = some (.cells #[v0, v1, v2, v3] T (0, 0))
section
variable {w w' : World} {g : Nat} {v0 v1 v2 v3 : Value} {T : TypeId}
theorem Blk4.lt (h : Blk4 w g v0 v1 v2 v3 T) : g < w.heap.size := (Array.getElem?_eq_some_iff.1 h).1
theorem Blk4.c0 (h : Blk4 w g v0 v1 v2 v3 T) : w.cell? ⟨g, 0, none⟩ = some v0 := Joins.cell_of_block h 0
theorem Blk4.c1 (h : Blk4 w g v0 v1 v2 v3 T) : w.cell? ⟨g, 1, none⟩ = some v1 := Joins.cell_of_block h 1
theorem Blk4.c2 (h : Blk4 w g v0 v1 v2 v3 T) : w.cell? ⟨g, 2, none⟩ = some v2 := Joins.cell_of_block h 2
theorem Blk4.c3 (h : Blk4 w g v0 v1 v2 v3 T) : w.cell? ⟨g, 3, none⟩ = some v3 := Joins.cell_of_block h 3
theorem Blk4.f (h : Blk4 w g v0 v1 v2 v3 T) (i : Nat) : w.frozen? ⟨g, i, none⟩ = false := Joins.unfrozen_of_block h i
theorem Blk4.below {B : Nat} (h : Blk4 w g v0 v1 v2 v3 T) (hb : Below B w w') (hg : g < B) : Blk4 w' g v0 v1 v2 v3 T := (hb.block g hg).trans h
theorem Blk4.s0 (h : Blk4 w g v0 v1 v2 v3 T) (v : Value) : Blk4 (w.setCell ⟨g, 0, none⟩ v) g v v1 v2 v3 T := Joins.block_setCell (i := 0) h v
theorem Blk4.s1 (h : Blk4 w g v0 v1 v2 v3 T) (v : Value) : Blk4 (w.setCell ⟨g, 1, none⟩ v) g v0 v v2 v3 T := Joins.block_setCell (i := 1) h v
theorem Blk4.s2 (h : Blk4 w g v0 v1 v2 v3 T) (v : Value) : Blk4 (w.setCell ⟨g, 2, none⟩ v) g v0 v1 v v3 T := Joins.block_setCell (i := 2) h v
theorem Blk4.s3 (h : Blk4 w g v0 v1 v2 v3 T) (v : Value) : Blk4 (w.setCell ⟨g, 3, none⟩ v) g v0 v1 v2 v T := Joins.block_setCell (i := 3) h v
theorem Blk4.other (h : Blk4 w g v0 v1 v2 v3 T) (p : Addr) (v : Value) (hp : p.block ≠ g) : Blk4 (w.setCell p v) g v0 v1 v2 v3 T := (heap_setCell_other w p g v (fun e => hp e.symm)).trans h
end

theorem box_four (w : World) (v0 v1 v2 v3 : Value) (T : TypeId) : ∃ W, w.alloc (.cells #[v0, v1, v2, v3] T) = W ∧ Blk4 W w.heap.size v0 v1 v2 v3 T ∧ Below w.heap.size w W ∧ W.heap.size = w.heap.size + 1 := by
  refine ⟨_, rfl, ?_, (Below.refl _ _).alloc (Nat.le_refl _) _, ?_⟩
  · show (w.heap.push _)[w.heap.size]? = _
    simp
  · show (w.heap.push _).size = _
    rw [Array.size_push]

set_option maxHeartbeats 1000000 in
theorem szBattle_any (a1 a2 a3 : Option Addr) (n1 c1 n2 c2 n3 c3 : Nat) (q : Int) (z : Int) (w : World) (h1 : n1 ≤ 9223372036854775807) (h2 : n2 ≤ 9223372036854775807) (h3 : n3 ≤ 9223372036854775807) (hz0 : 0 ≤ z) (hz1 : z ≤ 1048576) :
    Calls Try.prog 22 #[.agg #[.slice a1 n1 c1, .int .i64 q, .slice a2 n2 c2, .slice a3 n3 c3], .int .i64 z] w fun e w' => e = .returned (.int .i64 (szI (n1 + n2 + n3) z)) ∧ Below w.heap.size w w' := by
  obtain ⟨W, hW, hB, hbW, _⟩ := box_four w (.slice a1 n1 c1) (.int .i64 q) (.slice a2 n2 c2) (.slice a3 n3 c3) 33
  have hc0 := hB.c0
  have hc2 := hB.c2
  have hc3 := hB.c3
  have HbW := Lib.hid hbW
  have k1 := Lib.hid (szIntS_any a1 n1 c1 z W h1 hz0 hz1)
  clear hbW
  by_cases hA : (n1 : Int) ≤ z
  · have k2 := Lib.hid (szIntS_any a2 n2 c2 (z - n1) W h2 (by omega) (by omega))
    rw [szI_yes hA] at k1
    have hA' : ¬ (z - (n1 : Int) < 0) := by omega
    by_cases hB : (n2 : Int) ≤ z - n1
    · have k3 := Lib.hid (szIntS_any a3 n3 c3 (z - n1 - n2) W h3 (by omega) (by omega))
      rw [szI_yes hB] at k2
      have hB' : ¬ (z - (n1 : Int) - (n2 : Int) < 0) := by omega
      by_cases hC : (n3 : Int) ≤ z - n1 - n2
      · rw [szI_yes (n := n1 + n2 + n3) (by omega)]
        rw [szI_yes hC] at k3
        have hC' : ¬ (z - (n1 : Int) - (n2 : Int) - (n3 : Int) < 0) := by omega
        clear hA hB hC
        go_enter Try.func22, Try.ntmps22
        go_wp2_with fail
        refine (k1.out).mono ?_
        rintro ee wx ⟨rfl, rfl⟩
        go_wp2_with fail
        refine (k2.out).mono ?_
        rintro ee wx ⟨rfl, rfl⟩
        go_wp2_with fail
        refine (k3.out).mono ?_
        rintro ee wx ⟨rfl, rfl⟩
        go_wp2_with fail
        go_ret
        exact ⟨ret_int (by push_cast; omega), HbW.out⟩
      · rw [szI_no (n := n1 + n2 + n3) (by omega)]
        rw [szI_no hC] at k3
        clear hA hB hC
        go_enter Try.func22, Try.ntmps22
        go_wp2_with fail
        refine (k1.out).mono ?_
        rintro ee wx ⟨rfl, rfl⟩
        go_wp2_with fail
        refine (k2.out).mono ?_
        rintro ee wx ⟨rfl, rfl⟩
        go_wp2_with fail
        refine (k3.out).mono ?_
        rintro ee wx ⟨rfl, rfl⟩
        go_wp2_with fail
        go_ret
        exact ⟨rfl, HbW.out⟩
    · rw [szI_no hB] at k2
      rw [szI_no (n := n1 + n2 + n3) (by omega)]
      clear hA hB
      go_enter Try.func22, Try.ntmps22
      go_wp2_with fail
      refine (k1.out).mono ?_
      rintro ee wx ⟨rfl, rfl⟩
      go_wp2_with fail
      refine (k2.out).mono ?_
      rintro ee wx ⟨rfl, rfl⟩
      go_wp2_with fail
      go_ret
      exact ⟨rfl, HbW.out⟩
  · rw [szI_no hA] at k1
    rw [szI_no (n := n1 + n2 + n3) (by omega)]
    clear hA
    go_enter Try.func22, Try.ntmps22
    go_wp2_with fail
    refine (k1.out).mono ?_
    rintro ee wx ⟨rfl, rfl⟩
    go_wp2_with fail
    go_ret
    exact ⟨rfl, HbW.out⟩

/-- A copy of a battle: three rows of the call's own, each one behind the one before. -/
def BtCopy (B : Nat) (w : World) (v : Value) (n1 n2 n3 : Nat) (b : Bt) : Prop :=
  ∃ g1 g2 g3, v = .agg #[.slice (some ⟨g1, 0, none⟩) n1 n1, .int .i64 b.copies, .slice (some ⟨g2, 0, none⟩) n2 n2, .slice (some ⟨g3, 0, none⟩) n3 n3] ∧ g1 < g2 ∧ g2 < g3 ∧
    w.ownsRow B 3 1 (.slice (some ⟨g1, 0, none⟩) n1 n1) n1 (ints b.first) ∧ w.ownsRow B 3 1 (.slice (some ⟨g2, 0, none⟩) n2 n2) n2 (ints b.cuts) ∧ w.ownsRow B 3 1 (.slice (some ⟨g3, 0, none⟩) n3 n3) n3 (ints b.now)
theorem BtCopy.below {B : Nat} {w w' : World} {v : Value} {n1 n2 n3 : Nat} {b : Bt} (h : BtCopy B w v n1 n2 n3 b) (hb : Below w.heap.size w w') : BtCopy B w' v n1 n2 n3 b := by
  obtain ⟨g1, g2, g3, rfl, h0, h00, h1, h2, h3⟩ := h
  exact ⟨g1, g2, g3, rfl, h0, h00, ownsRow_below' h1 hb, ownsRow_below' h2 hb, ownsRow_below' h3 hb⟩
theorem BtCopy.parts {B : Nat} {w : World} {v : Value} {n1 n2 n3 : Nat} {b : Bt} (h : BtCopy B w v n1 n2 n3 b) : ∃ g1 g2 g3, v = .agg #[.slice (some ⟨g1, 0, none⟩) n1 n1, .int .i64 b.copies, .slice (some ⟨g2, 0, none⟩) n2 n2, .slice (some ⟨g3, 0, none⟩) n3 n3] ∧
    Sl w (some ⟨g1, 0, none⟩) n1 n1 b.first ∧ Sl w (some ⟨g2, 0, none⟩) n2 n2 b.cuts ∧ Sl w (some ⟨g3, 0, none⟩) n3 n3 b.now := by
  obtain ⟨g1, g2, g3, rfl, _, _, h1, h2, h3⟩ := h
  exact ⟨g1, g2, g3, rfl, Sl.of_own h1, Sl.of_own h2, Sl.of_own h3⟩

/-- A row of its own begins in its own block. -/
theorem own_at {w : World} {B e n c g : Nat} {xs : List Value} (h : w.ownsRow B e 1 (.slice (some ⟨g, 0, none⟩) n c) n xs) : w.ownsRow g e 1 (.slice (some ⟨g, 0, none⟩) n c) n xs := by
  obtain ⟨h1, h2⟩ := h
  refine ⟨h1, ?_⟩
  rcases h2 with h2 | ⟨g', cap, cur, h3, _, h5⟩
  · exact .inl h2
  · have : g = g' := by simp at h3; exact h3.1
    subst this
    exact .inr ⟨g, cap, cur, h3, Nat.le_refl _, h5⟩

set_option maxHeartbeats 4000000 in
theorem toBattle_any (a1 a2 a3 : Option Addr) (n1 c1 n2 c2 n3 c3 : Nat) (b : Bt) (w : World) (hb1 : n1 ≤ 1000000000000) (hb2 : n2 ≤ 1000000000000) (hb3 : n3 ≤ 1000000000000) (h1 : Sl w a1 n1 c1 b.first) (h2 : Sl w a2 n2 c2 b.cuts) (h3 : Sl w a3 n3 c3 b.now) :
    Calls Try.prog 24 #[.agg #[.slice a1 n1 c1, .int .i64 b.copies, .slice a2 n2 c2, .slice a3 n3 c3]] w fun e w' => ∃ v, e = .returned v ∧ BtCopy w.heap.size w' v n1 n2 n3 b ∧ Below w.heap.size w w' := by
  obtain ⟨q, hq⟩ : ∃ q, q = b.copies := ⟨_, rfl⟩
  rw [← hq]
  have Hq := Lib.hid hq
  clear hq
  obtain ⟨W1, hW1, hB1, hbW1, e1⟩ := box_four w (.slice a1 n1 c1) (.int .i64 q) (.slice a2 n2 c2) (.slice a3 n3 c3) 33
  obtain ⟨W2, hW2, hB2, hbW2, e2⟩ := box_four W1 (.slice none 0 0) (.int .i64 0) (.slice none 0 0) (.slice none 0 0) 36
  obtain ⟨W3, hW3, hB3, hbW3, e3⟩ := box_four W2 (.slice none 0 0) (.int .i64 0) (.slice none 0 0) (.slice none 0 0) 36
  have hA : ((w.alloc (.cells #[.slice a1 n1 c1, .int .i64 q, .slice a2 n2 c2, .slice a3 n3 c3] 33)).alloc (.cells #[.slice none 0 0, .int .i64 0, .slice none 0 0, .slice none 0 0] 36)).alloc (.cells #[.slice none 0 0, .int .i64 0, .slice none 0 0, .slice none 0 0] 36) = W3 := by rw [hW1, hW2, hW3]
  have hb03 : Below w.heap.size w W3 := (hbW1.trans (hbW2.mono hbW1.size)).trans (hbW3.mono (by omega))
  have k1 := Lib.hid (toIntS_any a1 n1 c1 b.first W3 hb1 (h1.below hb03))
  have B1 := (hB1.below hbW2 (by omega)).below hbW3 (by omega)
  have B2 := hB2.below hbW3 (by omega)
  rw [e1] at B2
  rw [e2, e1] at hB3
  obtain ⟨G0, hG0⟩ : ∃ g, g = w.heap.size := ⟨_, rfl⟩
  have HG0 := Lib.hid hG0
  rw [← hG0] at B1 B2 hB3
  have hc0 := B1.c0
  rw [hG0] at hc0
  have HB1 := Lib.hid B1
  have HB2 := Lib.hid B2
  have HB3 := Lib.hid hB3
  have H2 := Lib.hid h2
  have H3 := Lib.hid h3
  have Hb := Lib.hid hb03
  have Hs3 := Lib.hid (show W3.heap.size = G0 + 1 + 1 + 1 by omega)
  clear hb03 hbW1 hbW2 hbW3 hW1 hW2 hW3 h1 h2 h3 e1 e2 e3 hB1 hB2 hB3 B1 B2 hG0
  go_enter Try.func24, Try.ntmps24
  go_wp2_with fail
  refine (k1.out).mono ?_
  rintro ee w1 ⟨rfl, ho1, hb1'⟩
  obtain ⟨G1, hG1⟩ : ∃ g, g = W3.heap.size := ⟨_, rfl⟩
  rw [← hG1] at ho1 hb1' ⊢
  have hG3 := Hs3.out
  rw [← hG1] at hG3
  have hG0 := HG0.out
  have A1 := HB1.out.below hb1' (by omega)
  have A2 := HB2.out.below hb1' (by omega)
  have A3 := HB3.out.below hb1' (by omega)
  have bA : Below w.heap.size w w1 := Hb.out.trans (hb1'.mono (by omega))
  have HR1 := Lib.hid ho1
  have x0 := A3.c0
  have f0 := A3.f 0
  rw [hG0] at x0 f0
  -- First
  obtain ⟨W4, hW4⟩ : ∃ W, w1.setCell ⟨w.heap.size + 1 + 1, 0, none⟩ (.slice (some ⟨G1, 0, none⟩) n1 n1) = W := ⟨_, rfl⟩
  have D1 := A1.other ⟨w.heap.size + 1 + 1, 0, none⟩ (.slice (some ⟨G1, 0, none⟩) n1 n1) (by show w.heap.size + 1 + 1 ≠ _; omega)
  have D2 := A2.other ⟨w.heap.size + 1 + 1, 0, none⟩ (.slice (some ⟨G1, 0, none⟩) n1 n1) (by show w.heap.size + 1 + 1 ≠ _; omega)
  have D3 := A3.s0 (.slice (some ⟨G1, 0, none⟩) n1 n1)
  have r1 := ownsRow_setCell_below ho1 (a := ⟨w.heap.size + 1 + 1, 0, none⟩) (by show w.heap.size + 1 + 1 < G1; omega) (.slice (some ⟨G1, 0, none⟩) n1 n1)
  rw [hG0] at D3
  rw [hW4] at D1 D2 D3 r1
  have bB : Below w.heap.size w W4 := by rw [← hW4]; exact bA.setCell (by show w.heap.size ≤ w.heap.size + 1 + 1; omega) _
  have y1 := D1.c1
  rw [hG0] at y1
  have x1 := D3.c1
  have f1 := D3.f 1
  -- Copies
  obtain ⟨W5, hW5⟩ : ∃ W, W4.setCell ⟨w.heap.size + 1 + 1, 1, none⟩ (.int .i64 q) = W := ⟨_, rfl⟩
  have E1 := D1.other ⟨w.heap.size + 1 + 1, 1, none⟩ (.int .i64 q) (by show w.heap.size + 1 + 1 ≠ _; omega)
  have E2 := D2.other ⟨w.heap.size + 1 + 1, 1, none⟩ (.int .i64 q) (by show w.heap.size + 1 + 1 ≠ _; omega)
  have E3 := D3.s1 (.int .i64 q)
  have r2 := ownsRow_setCell_below r1 (a := ⟨w.heap.size + 1 + 1, 1, none⟩) (by show w.heap.size + 1 + 1 < G1; omega) (.int .i64 q)
  rw [hW5] at E1 E2 E3 r2
  have bC : Below w.heap.size w W5 := by rw [← hW5]; exact bB.setCell (by show w.heap.size ≤ w.heap.size + 1 + 1; omega) _
  have hs5 : W5.heap.size = w1.heap.size := by rw [← hW5, ← hW4]; simp [World.setCell]
  have y2 := E1.c2
  rw [hG0] at y2
  have k2 := Lib.hid (toIntS_any a2 n2 c2 b.cuts W5 hb2 (H2.out.below bC))
  have Hr2 := Lib.hid r2
  have HE1 := Lib.hid E1
  have HE2 := Lib.hid E2
  have HE3 := Lib.hid E3
  have HbC := Lib.hid bC
  have HG1 := Lib.hid hG3
  have h1l := (ho1.lt G1 rfl).2
  have H1l := Lib.hid (show G1 < W5.heap.size by omega)
  clear hG0 hG1 hG3 D1 D2 D3 E1 E2 E3 A1 A2 A3 r1 r2 bA bB bC hb1' ho1 hs5 h1l
  go_wp2_with fail
  refine (k2.out).mono ?_
  rintro ee w2 ⟨rfl, ho2, hb2'⟩
  clear x0 f0 y1 x1 f1 y2
  obtain ⟨G2, hG2⟩ : ∃ g, g = W5.heap.size := ⟨_, rfl⟩
  have r3 := ownsRow_below' Hr2.out hb2'
  rw [← hG2] at ho2 hb2' ⊢
  have hG12 : G1 < G2 := by rw [hG2]; exact H1l.out
  have hG0 := HG0.out
  have hG3 := HG1.out
  have A1 := HE1.out.below hb2' (by omega)
  have A2 := HE2.out.below hb2' (by omega)
  have A3 := HE3.out.below hb2' (by omega)
  have bA : Below w.heap.size w w2 := HbC.out.trans (hb2'.mono (by omega))
  have x0 := A3.c2
  have f0 := A3.f 2
  -- Cuts
  obtain ⟨W6, hW6⟩ : ∃ W, w2.setCell ⟨w.heap.size + 1 + 1, 2, none⟩ (.slice (some ⟨G2, 0, none⟩) n2 n2) = W := ⟨_, rfl⟩
  have D1 := A1.other ⟨w.heap.size + 1 + 1, 2, none⟩ (.slice (some ⟨G2, 0, none⟩) n2 n2) (by show w.heap.size + 1 + 1 ≠ _; omega)
  have D2 := A2.other ⟨w.heap.size + 1 + 1, 2, none⟩ (.slice (some ⟨G2, 0, none⟩) n2 n2) (by show w.heap.size + 1 + 1 ≠ _; omega)
  have D3 := A3.s2 (.slice (some ⟨G2, 0, none⟩) n2 n2)
  have r4 := ownsRow_setCell_below r3 (a := ⟨w.heap.size + 1 + 1, 2, none⟩) (by show w.heap.size + 1 + 1 < G1; omega) (.slice (some ⟨G2, 0, none⟩) n2 n2)
  have s4 := ownsRow_setCell_below ho2 (a := ⟨w.heap.size + 1 + 1, 2, none⟩) (by show w.heap.size + 1 + 1 < G2; omega) (.slice (some ⟨G2, 0, none⟩) n2 n2)
  rw [hW6] at D1 D2 D3 r4 s4
  have bB : Below w.heap.size w W6 := by rw [← hW6]; exact bA.setCell (by show w.heap.size ≤ w.heap.size + 1 + 1; omega) _
  have hs6 : W6.heap.size = w2.heap.size := by rw [← hW6]; simp [World.setCell]
  have y3 := D1.c3
  rw [hG0] at y3
  have k3 := Lib.hid (toIntS_any a3 n3 c3 b.now W6 hb3 (H3.out.below bB))
  have Hr4 := Lib.hid r4
  have Hs4 := Lib.hid s4
  have HD2 := Lib.hid D2
  have HD3 := Lib.hid D3
  have HbB := Lib.hid bB
  have HG2 := Lib.hid (show G1 < G2 ∧ G2 < W6.heap.size from ⟨hG12, by rw [hs6]; exact (ho2.lt G2 rfl).2⟩)
  clear hG0 hG2 hG3 hG12 D1 D2 D3 A1 A2 A3 r3 r4 s4 bA bB hb2' ho2 hs6
  go_wp2_with fail
  refine (k3.out).mono ?_
  rintro ee w3 ⟨rfl, ho3, hb3'⟩
  clear x0 f0 y3
  obtain ⟨G3, hG3⟩ : ∃ g, g = W6.heap.size := ⟨_, rfl⟩
  have r5 := ownsRow_below' Hr4.out hb3'
  have s5 := ownsRow_below' Hs4.out hb3'
  rw [← hG3] at ho3 hb3' ⊢
  have hG12 := HG2.out.1
  have hG23 : G2 < G3 := by rw [hG3]; exact HG2.out.2
  have hG0 := HG0.out
  have hG1 := HG1.out
  have A2 := HD2.out.below hb3' (by omega)
  have A3 := HD3.out.below hb3' (by omega)
  rw [hG0] at A2
  have bA : Below w.heap.size w w3 := HbB.out.trans (hb3'.mono (by omega))
  have x0 := A3.c3
  have f0 := A3.f 3
  -- Now
  obtain ⟨W7, hW7⟩ : ∃ W, w3.setCell ⟨w.heap.size + 1 + 1, 3, none⟩ (.slice (some ⟨G3, 0, none⟩) n3 n3) = W := ⟨_, rfl⟩
  have E2 := A2.other ⟨w.heap.size + 1 + 1, 3, none⟩ (.slice (some ⟨G3, 0, none⟩) n3 n3) (by show w.heap.size + 1 + 1 ≠ _; omega)
  have E3 := A3.s3 (.slice (some ⟨G3, 0, none⟩) n3 n3)
  rw [hW7] at E2 E3
  have z0 := E3.c0
  have z1 := E3.c1
  have z2 := E3.c2
  have z3 := E3.c3
  have p0 := E2.c0
  have p1 := E2.c1
  have p2 := E2.c2
  have p3 := E2.c3
  have q0 := E2.f 0
  have q1 := E2.f 1
  have q2 := E2.f 2
  have q3 := E2.f 3
  obtain ⟨W8, hW8⟩ : ∃ W, W7.setCell ⟨w.heap.size + 1, 0, none⟩ (.slice (some ⟨G1, 0, none⟩) n1 n1) = W := ⟨_, rfl⟩
  have F2 := E2.s0 (.slice (some ⟨G1, 0, none⟩) n1 n1)
  rw [hW8] at F2
  have p1 := F2.c1
  have q1 := F2.f 1
  obtain ⟨W9, hW9⟩ : ∃ W, W8.setCell ⟨w.heap.size + 1, 1, none⟩ (.int .i64 q) = W := ⟨_, rfl⟩
  have F3 := F2.s1 (.int .i64 q)
  rw [hW9] at F3
  have p2 := F3.c2
  have q2 := F3.f 2
  obtain ⟨Wa, hWa⟩ : ∃ W, W9.setCell ⟨w.heap.size + 1, 2, none⟩ (.slice (some ⟨G2, 0, none⟩) n2 n2) = W := ⟨_, rfl⟩
  have F4 := F3.s2 (.slice (some ⟨G2, 0, none⟩) n2 n2)
  rw [hWa] at F4
  have p3 := F4.c3
  have q3 := F4.f 3
  obtain ⟨Wb, hWb⟩ : ∃ W, Wa.setCell ⟨w.heap.size + 1, 3, none⟩ (.slice (some ⟨G3, 0, none⟩) n3 n3) = W := ⟨_, rfl⟩
  have F5 := F4.s3 (.slice (some ⟨G3, 0, none⟩) n3 n3)
  rw [hWb] at F5
  have e0 := F5.c0
  have e1 := F5.c1
  have e2 := F5.c2
  have e3 := F5.c3
  have own : ∀ (G n : Nat) (xs : List Int), G1 ≤ G → w3.ownsRow G 3 1 (.slice (some ⟨G, 0, none⟩) n n) n (ints xs) → Wb.ownsRow w.heap.size 3 1 (.slice (some ⟨G, 0, none⟩) n n) n (ints xs) := by
    intro G n xs hG ho
    have t1 := ownsRow_setCell_below ho (a := ⟨w.heap.size + 1 + 1, 3, none⟩) (by show w.heap.size + 1 + 1 < G; omega) (.slice (some ⟨G3, 0, none⟩) n3 n3)
    rw [hW7] at t1
    have t2 := ownsRow_setCell_below t1 (a := ⟨w.heap.size + 1, 0, none⟩) (by show w.heap.size + 1 < G; omega) (.slice (some ⟨G1, 0, none⟩) n1 n1)
    rw [hW8] at t2
    have t3 := ownsRow_setCell_below t2 (a := ⟨w.heap.size + 1, 1, none⟩) (by show w.heap.size + 1 < G; omega) (.int .i64 q)
    rw [hW9] at t3
    have t4 := ownsRow_setCell_below t3 (a := ⟨w.heap.size + 1, 2, none⟩) (by show w.heap.size + 1 < G; omega) (.slice (some ⟨G2, 0, none⟩) n2 n2)
    rw [hWa] at t4
    have t5 := ownsRow_setCell_below t4 (a := ⟨w.heap.size + 1, 3, none⟩) (by show w.heap.size + 1 < G; omega) (.slice (some ⟨G3, 0, none⟩) n3 n3)
    rw [hWb] at t5
    exact Joins.ownsRow_le t5 (by omega)
  have bD : Below w.heap.size w Wb := by
    rw [← hWb, ← hWa, ← hW9, ← hW8, ← hW7]
    exact ((((bA.setCell (by show w.heap.size ≤ w.heap.size + 1 + 1; omega) _).setCell (by show w.heap.size ≤ w.heap.size + 1; omega) _).setCell (by show w.heap.size ≤ w.heap.size + 1; omega) _).setCell (by show w.heap.size ≤ w.heap.size + 1; omega) _).setCell (by show w.heap.size ≤ w.heap.size + 1; omega) _
  have HF := Lib.hid (show BtCopy w.heap.size Wb (.agg #[.slice (some ⟨G1, 0, none⟩) n1 n1, .int .i64 q, .slice (some ⟨G2, 0, none⟩) n2 n2, .slice (some ⟨G3, 0, none⟩) n3 n3]) n1 n2 n3 b from
    ⟨G1, G2, G3, by rw [Hq.out], hG12, hG23, own G1 n1 _ (Nat.le_refl _) (own_at r5), own G2 n2 _ (by omega) (own_at s5), own G3 n3 _ (by omega) (own_at ho3)⟩)
  have HbD := Lib.hid bD
  clear hG0 hG1 hG3 hG12 hG23 A2 A3 E2 E3 F2 F3 F4 F5 r5 s5 own bA bD hb3' ho3
  go_wp2_with fail
  refine bodyPost_ret (v := .agg #[.slice (some ⟨G1, 0, none⟩) n1 n1, .int .i64 q, .slice (some ⟨G2, 0, none⟩) n2 n2, .slice (some ⟨G3, 0, none⟩) n3 n3]) (by simp [results, Try.f24, go_sem, e0, e1, e2, e3]) rfl ?_
  exact ⟨_, rfl, HF.out, HbD.out⟩

end Go.Proofs.Ytdcgcohfbcdnnaa