/- Marks through battles. -/
import Derived.Test.YtdcgcohfbcdnnaaBtN
namespace Go.Proofs.Ytdcgcohfbcdnnaa
set_option maxRecDepth 100000
open Go.RowKit

/-- The rows of a battle, told one by one. -/
def BtRows (B : Nat) (w : World) (x1 x2 x3 : Option Addr) (n1 y1 n2 y2 n3 y3 : Nat) (l1 l2 l3 : List Int) : Prop :=
  w.ownsRow B 3 1 (.slice x1 n1 y1) n1 (ints l1) ∧ w.ownsRow B 3 1 (.slice x2 n2 y2) n2 (ints l2) ∧ w.ownsRow B 3 1 (.slice x3 n3 y3) n3 (ints l3) ∧
    (∀ k, (Value.slice x1 n1 y1).ownBlock = some k → (Value.slice x2 n2 y2).ownBlock ≠ some k ∧ (Value.slice x3 n3 y3).ownBlock ≠ some k) ∧ (∀ k, (Value.slice x2 n2 y2).ownBlock = some k → (Value.slice x3 n3 y3).ownBlock ≠ some k)

theorem BtRows.below {B : Nat} {w w' : World} {x1 x2 x3 : Option Addr} {n1 y1 n2 y2 n3 y3 : Nat} {l1 l2 l3 : List Int} (h : BtRows B w x1 x2 x3 n1 y1 n2 y2 n3 y3 l1 l2 l3) (hb : Below w.heap.size w w') : BtRows B w' x1 x2 x3 n1 y1 n2 y2 n3 y3 l1 l2 l3 :=
  ⟨ownsRow_below' h.1 hb, ownsRow_below' h.2.1 hb, ownsRow_below' h.2.2.1 hb, h.2.2.2.1, h.2.2.2.2⟩
theorem BtRows.set {B : Nat} {w : World} {x1 x2 x3 : Option Addr} {n1 y1 n2 y2 n3 y3 : Nat} {l1 l2 l3 : List Int} (h : BtRows B w x1 x2 x3 n1 y1 n2 y2 n3 y3 l1 l2 l3) {a : Addr} (ha : a.block < B) (u : Value) : BtRows B (w.setCell a u) x1 x2 x3 n1 y1 n2 y2 n3 y3 l1 l2 l3 :=
  ⟨ownsRow_setCell_below h.1 ha u, ownsRow_setCell_below h.2.1 ha u, ownsRow_setCell_below h.2.2.1 ha u, h.2.2.2.1, h.2.2.2.2⟩
theorem BtOwn.rows {B : Nat} {w : World} {v : Value} {b : Bt} (h : BtOwn B w v b) : ∃ (x1 x2 x3 : Option Addr) (n1 y1 n2 y2 n3 y3 : Nat), v = .agg #[.slice x1 n1 y1, .int .i64 b.copies, .slice x2 n2 y2, .slice x3 n3 y3] ∧ BtRows B w x1 x2 x3 n1 y1 n2 y2 n3 y3 b.first b.cuts b.now := by
  obtain ⟨x1, x2, x3, y1, y2, y3, n1, n2, n3, hv, o1, o2, o3, d1, d2⟩ := h
  exact ⟨x1, x2, x3, n1, y1, n2, y2, n3, y3, hv, o1, o2, o3, d1, d2⟩
theorem BtRows.len {B : Nat} {w : World} {x1 x2 x3 : Option Addr} {n1 y1 n2 y2 n3 y3 : Nat} {l1 l2 l3 : List Int} (h : BtRows B w x1 x2 x3 n1 y1 n2 y2 n3 y3 l1 l2 l3) : l1.length = n1 ∧ l2.length = n2 ∧ l3.length = n3 := by
  have h1 := h.1.1
  have h2 := h.2.1.1
  have h3 := h.2.2.1.1
  simp only [ints_len] at h1 h2 h3
  omega
theorem kept_other {B n c n' c' : Nat} {w w' : World} {a a' : Option Addr} {xs : List Value} (h : w.ownsRow B 3 1 (.slice a n c) n xs) (hg : w.grownBy w' (Value.ownBlock (.slice a' n' c')))
    (hne : ∀ k, (Value.slice a' n' c').ownBlock = some k → (Value.slice a n c).ownBlock ≠ some k) : w'.ownsRow B 3 1 (.slice a n c) n xs := by
  refine h.kept hg ?_
  cases hb : (Value.slice a n c).ownBlock with
  | none => exact .inl rfl
  | some k => exact .inr (fun e => hne k e.symm hb)

/-- A battle is laid in a cell of its own. -/
theorem bt_box (w : World) (s1 q s2 s3 : Value) (T : TypeId) : ∃ Wz W7 W8 W9 Wa : World, w.alloc (.cells #[.slice none 0 0, .int .i64 0, .slice none 0 0, .slice none 0 0] T) = Wz ∧ Wz.setCell ⟨w.heap.size, 0, none⟩ s1 = W7 ∧ W7.setCell ⟨w.heap.size, 1, none⟩ q = W8 ∧
    W8.setCell ⟨w.heap.size, 2, none⟩ s2 = W9 ∧ W9.setCell ⟨w.heap.size, 3, none⟩ s3 = Wa ∧ Wz.cell? ⟨w.heap.size, 0, none⟩ = some (.slice none 0 0) ∧ Wz.frozen? ⟨w.heap.size, 0, none⟩ = false ∧ W7.cell? ⟨w.heap.size, 1, none⟩ = some (.int .i64 0) ∧ W7.frozen? ⟨w.heap.size, 1, none⟩ = false ∧
    W8.cell? ⟨w.heap.size, 2, none⟩ = some (.slice none 0 0) ∧ W8.frozen? ⟨w.heap.size, 2, none⟩ = false ∧ W9.cell? ⟨w.heap.size, 3, none⟩ = some (.slice none 0 0) ∧ W9.frozen? ⟨w.heap.size, 3, none⟩ = false ∧ Blk4 Wa w.heap.size s1 q s2 s3 T ∧ Below w.heap.size w Wa ∧ Wa.heap.size = w.heap.size + 1 := by
  obtain ⟨W, hW, hB, hb, hs⟩ := box_four w (.slice none 0 0) (.int .i64 0) (.slice none 0 0) (.slice none 0 0) T
  have J := hB.s0 s1
  have K := J.s1 q
  have L := K.s2 s2
  exact ⟨W, _, _, _, _, hW, rfl, rfl, rfl, rfl, hB.c0, hB.f 0, J.c1, J.f 1, K.c2, K.f 2, L.c3, L.f 3, L.s3 s3, (((hb.setCell (Nat.le_refl _) _).setCell (Nat.le_refl _) _).setCell (Nat.le_refl _) _).setCell (Nat.le_refl _) _, by simp [World.setCell, hs]⟩

theorem BtRows.parts {B : Nat} {w : World} {x1 x2 x3 : Option Addr} {n1 y1 n2 y2 n3 y3 : Nat} {l1 l2 l3 : List Int} (h : BtRows B w x1 x2 x3 n1 y1 n2 y2 n3 y3 l1 l2 l3) : Sl w x1 n1 y1 l1 ∧ Sl w x2 n2 y2 l2 ∧ Sl w x3 n3 y3 l3 := ⟨Sl.of_own h.1, Sl.of_own h.2.1, Sl.of_own h.2.2.1⟩

/-- Behind the marks in a row that lies ahead of its own. -/
theorem BtRows.kept {B : Nat} {w w' : World} {x1 x2 x3 : Option Addr} {n1 y1 n2 y2 n3 y3 : Nat} {l1 l2 l3 : List Int} {row : Option Nat} (h : BtRows B w x1 x2 x3 n1 y1 n2 y2 n3 y3 l1 l2 l3) (hg : w.grownBy w' row) (hr : ∀ k, row = some k → k < B) : BtRows B w' x1 x2 x3 n1 y1 n2 y2 n3 y3 l1 l2 l3 := by
  have hn : ∀ {v : Value} {n : Nat} {xs : List Value}, w.ownsRow B 3 1 v n xs → v.ownBlock = none ∨ v.ownBlock ≠ row := fun {v} {_} {_} ho => by
    cases hv : v.ownBlock with
    | none => exact .inl rfl
    | some k => exact .inr (fun e => by have h1 := (ho.lt k hv).1; have h2 := hr k e.symm; omega)
  exact ⟨h.1.kept hg (hn h.1), h.2.1.kept hg (hn h.2.1), h.2.2.1.kept hg (hn h.2.2.1), h.2.2.2.1, h.2.2.2.2⟩

set_option maxHeartbeats 2000000 in
theorem markBattle_any (B : Nat) (x1 x2 x3 : Option Addr) (n1 y1 n2 y2 n3 y3 : Nat) (l1 l2 l3 : List Int) (q k : Int) (w : World) (h1 : n1 ≤ 1000000) (h2 : n2 ≤ 1000000) (h3 : n3 ≤ 1000000) (hk0 : 0 ≤ k) (hk1 : k ≤ 1000000) (hB : B ≤ w.heap.size) (h : BtRows B w x1 x2 x3 n1 y1 n2 y2 n3 y3 l1 l2 l3) :
    Calls Try.prog 29 #[.agg #[.slice x1 n1 y1, .int .i64 q, .slice x2 n2 y2, .slice x3 n3 y3], .int .i64 k] w fun e w' => e = .returned (.int .i64 (k + n1 + n2 + n3)) ∧
      BtRows B w' x1 x2 x3 n1 y1 n2 y2 n3 y3 (marks k n1) (marks (k + n1) n2) (marks (k + n1 + n2) n3) ∧ Below B w w' ∧ w.heap.size ≤ w'.heap.size ∧
      (∀ j, j < w.heap.size → (Value.slice x1 n1 y1).ownBlock ≠ some j → (Value.slice x2 n2 y2).ownBlock ≠ some j → (Value.slice x3 n3 y3).ownBlock ≠ some j → w'.heap[j]? = w.heap[j]?) := by
  obtain ⟨W, hW, hBk, hbW, hsW⟩ := box_four w (.slice x1 n1 y1) (.int .i64 q) (.slice x2 n2 y2) (.slice x3 n3 y3) 36
  obtain ⟨o1, o2, o3, d1, d2⟩ := h.below hbW
  have hl1 := fun k hk => (h.1.lt k hk).2
  have hl2 := fun k hk => (h.2.1.lt k hk).2
  have hl3 := fun k hk => (h.2.2.1.lt k hk).2
  have k1 := Lib.hid (markIntS_any B x1 n1 y1 l1 k W (by omega) hk0 (by omega) o1)
  have c0 := hBk.c0
  have HBk := Lib.hid hBk
  have HbW := Lib.hid (hbW.mono hB)
  have HbW' := Lib.hid hbW
  have HsW := Lib.hid hsW
  have D1 := Lib.hid d1
  have D2 := Lib.hid d2
  have O2 := Lib.hid o2
  have O3 := Lib.hid o3
  have L1 := Lib.hid hl1
  have L2 := Lib.hid hl2
  have L3 := Lib.hid hl3
  clear o1 o2 o3 d1 d2 hl1 hl2 hl3 h hBk hbW hsW
  go_enter Try.func29, Try.ntmps29
  go_wp2_with fail
  refine (k1.out).mono ?_
  rintro ee w1 ⟨rfl, p1, b1, g1⟩
  have hs := HsW.out
  have E1 : Blk4 w1 w.heap.size (.slice x1 n1 y1) (.int .i64 q) (.slice x2 n2 y2) (.slice x3 n3 y3) 36 := (g1.block w.heap.size (by omega) (fun e => by have := L1.out _ e.symm; omega)).trans HBk.out
  have o2 := kept_other O2.out g1 (fun k hk => (D1.out k hk).1)
  have o3 := kept_other O3.out g1 (fun k hk => (D1.out k hk).2)
  have k2 := Lib.hid (markIntS_any B x2 n2 y2 l2 (k + n1) w1 (by omega) (by omega) (by omega) o2)
  have c2 := E1.c2
  have P1 := Lib.hid p1
  have Bb1 := Lib.hid (HbW.out.trans b1)
  have S1 := Lib.hid (show w.heap.size < w1.heap.size by have := g1.size; omega)
  have HE1 := Lib.hid E1
  have O3' := Lib.hid o3
  have HG1 := Lib.hid g1
  clear c0 hs E1 o2 o3 p1 b1 g1
  go_wp2_with fail
  refine (k2.out).mono ?_
  rintro ee w2 ⟨rfl, p2, b2, g2⟩
  have hs := S1.out
  have E2 : Blk4 w2 w.heap.size (.slice x1 n1 y1) (.int .i64 q) (.slice x2 n2 y2) (.slice x3 n3 y3) 36 := (g2.block w.heap.size hs (fun e => by have := L2.out _ e.symm; omega)).trans HE1.out
  have p1 := kept_other P1.out g2 (fun k hk h => (D1.out k h).1 hk)
  have o3 := kept_other O3'.out g2 (fun k hk => D2.out k hk)
  have k3 := Lib.hid (markIntS_any B x3 n3 y3 l3 (k + n1 + n2) w2 (by omega) (by omega) (by omega) o3)
  have c3 := E2.c3
  have P1' := Lib.hid p1
  have P2 := Lib.hid p2
  have Bb2 := Lib.hid (Bb1.out.trans b2)
  have S2 := Lib.hid (show w.heap.size < w2.heap.size by have := g2.size; omega)
  have HG2 := Lib.hid g2
  clear c2 hs E2 o3 p1 p2 b2 g2
  go_wp2_with fail
  refine (k3.out).mono ?_
  rintro ee w3 ⟨rfl, p3, b3, g3⟩
  have HF := Lib.hid (show BtRows B w3 x1 x2 x3 n1 y1 n2 y2 n3 y3 (marks k n1) (marks (k + n1) n2) (marks (k + n1 + n2) n3) ∧ Below B w w3 ∧ w.heap.size ≤ w3.heap.size ∧
      (∀ j, j < w.heap.size → (Value.slice x1 n1 y1).ownBlock ≠ some j → (Value.slice x2 n2 y2).ownBlock ≠ some j → (Value.slice x3 n3 y3).ownBlock ≠ some j → w3.heap[j]? = w.heap[j]?) from
    ⟨⟨kept_other P1'.out g3 (fun k hk h => (D1.out k h).2 hk), kept_other P2.out g3 (fun k hk h => D2.out k h hk), p3, D1.out, D2.out⟩, Bb2.out.trans b3, by have := S2.out; have := g3.size; omega, fun j hj e1 e2 e3 =>
      (g3.block j (by have := S2.out; omega) (fun e => e3 e.symm)).trans ((HG2.out.block j (by have := S1.out; omega) (fun e => e2 e.symm)).trans ((HG1.out.block j (by have := HsW.out; omega) (fun e => e1 e.symm)).trans (HbW'.out.block j hj)))⟩)
  clear c3 p3 b3 g3
  go_wp2_with fail
  go_ret
  exact ⟨rfl, HF.out⟩

set_option maxHeartbeats 2000000 in
theorem heldBattle_any (B : Nat) (x1 x2 x3 : Option Addr) (n1 y1 n2 y2 n3 y3 : Nat) (q k : Int) (w : World) (h1 : n1 ≤ 1000000) (h2 : n2 ≤ 1000000) (h3 : n3 ≤ 1000000) (hk0 : 0 ≤ k) (hk1 : k ≤ 1000000) (h : BtRows B w x1 x2 x3 n1 y1 n2 y2 n3 y3 (marks k n1) (marks (k + n1) n2) (marks (k + n1 + n2) n3)) :
    Calls Try.prog 30 #[.agg #[.slice x1 n1 y1, .int .i64 q, .slice x2 n2 y2, .slice x3 n3 y3], .int .i64 k] w fun e w' => e = .returned (.int .i64 (k + n1 + n2 + n3)) ∧ Below w.heap.size w w' := by
  obtain ⟨W, hW, hBk, hbW, hsW⟩ := box_four w (.slice x1 n1 y1) (.int .i64 q) (.slice x2 n2 y2) (.slice x3 n3 y3) 36
  have k1 := Lib.hid (heldIntS_any x1 n1 y1 k W (by omega) hk0 (by omega) (Sl.of_own (h.below hbW).1))
  have c0 := hBk.c0
  have HBk := Lib.hid hBk
  have HbW := Lib.hid hbW
  have HsW := Lib.hid hsW
  have HR := Lib.hid h
  have q1 : ¬ (k + (n1 : Int) < 0) := by omega
  have q2 : ¬ (k + (n1 : Int) + (n2 : Int) < 0) := by omega
  have q3 : ¬ (k + (n1 : Int) + (n2 : Int) + (n3 : Int) < 0) := by omega
  clear h hBk hbW hsW
  go_enter Try.func30, Try.ntmps30
  go_wp2_with fail
  refine (k1.out).mono ?_
  rintro ee w1 ⟨rfl, b1⟩
  have E1 := HBk.out.below b1 HBk.out.lt
  have hb1 := HbW.out.trans (b1.mono HbW.out.size)
  have k2 := Lib.hid (heldIntS_any x2 n2 y2 (k + n1) w1 (by omega) (by omega) (by omega) (Sl.of_own (HR.out.below hb1).2.1))
  have c2 := E1.c2
  have HE1 := Lib.hid E1
  have Hb1 := Lib.hid hb1
  clear c0 E1 b1 hb1
  go_wp2_with fail
  refine (k2.out).mono ?_
  rintro ee w2 ⟨rfl, b2⟩
  have E2 := HE1.out.below b2 HE1.out.lt
  have hb2 := Hb1.out.trans (b2.mono Hb1.out.size)
  have k3 := Lib.hid (heldIntS_any x3 n3 y3 (k + n1 + n2) w2 (by omega) (by omega) (by omega) (Sl.of_own (HR.out.below hb2).2.2.1))
  have c3 := E2.c3
  have Hb2 := Lib.hid hb2
  clear c2 E2 b2 hb2
  go_wp2_with fail
  refine (k3.out).mono ?_
  rintro ee w3 ⟨rfl, b3⟩
  have Hb3 := Lib.hid (Hb2.out.trans (b3.mono Hb2.out.size))
  clear c3 b3
  go_wp2_with fail
  go_ret
  exact ⟨rfl, Hb3.out⟩

theorem newB_len (xs : List Int) (n : Int) : (newB xs n).first.length ≤ 60 ∧ (newB xs n).cuts.length ≤ 60 ∧ (newB xs n).now.length ≤ 60 := by
  unfold newB
  split
  · rename_i h; have := (H.hv_len h.1).2; exact ⟨this, by simp, this⟩
  · exact ⟨by simp, by simp, by simp⟩

end Go.Proofs.Ytdcgcohfbcdnnaa
