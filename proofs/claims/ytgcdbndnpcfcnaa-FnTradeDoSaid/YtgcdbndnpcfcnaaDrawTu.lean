/- The draws of chapter 8. -/
import Derived.Test.YtgcdbndnpcfcnaaDrawTs
namespace Go.Proofs.Ytgcdbndnpcfcnaa
set_option maxRecDepth 100000
open Go.RowKit

theorem By.belw {w w' : World} {a : Option Addr} {len cap : Nat} (h : By w a len cap) (hb : Below w.heap.size w w') : By w' a len cap := by
  obtain ⟨h1, h2, h3⟩ := h
  refine ⟨h1, h2, fun hp => ?_⟩
  obtain ⟨b, off, e, hl, hat⟩ := h3 hp
  refine ⟨b, off, e, Nat.lt_of_lt_of_le hl hb.size, fun j hj => ?_⟩
  obtain ⟨v, h4, h5⟩ := hat j hj
  exact ⟨v, h4, (hb.cell (p := ⟨b, off + j, none⟩) hl).trans h5⟩

def HpDraw (w : World) (e : Ending) (w' : World) : Prop :=
  ∃ (xs : List Int) (g n c : Nat), n = xs.length ∧ e = .returned (.slice (some ⟨g, 0, none⟩) n c) ∧ w'.ownsRow w.heap.size 3 1 (.slice (some ⟨g, 0, none⟩) n c) n (ints xs) ∧ n ≤ 3 ∧ Below w.heap.size w w'
def TsDraw (w : World) (e : Ending) (w' : World) : Prop :=
  ∃ (ts : List Tr) (v : Value) (n : Nat), e = .returned v ∧ TsD w.heap.size w' v n ts ∧ T3 ts ∧ 1 ≤ n ∧ n ≤ 5 ∧ Below w.heap.size w w'
/-- A rule that was drawn. -/
def TrDraw (w : World) (e : Ending) (w' : World) : Prop :=
  ∃ (t : Tr) (a1 a2 : Option Addr) (n1 n2 c1 c2 : Nat), e = .returned (.agg #[.slice a1 n1 c1, .slice a2 n2 c2]) ∧ Sl w' a1 n1 c1 t.take ∧ Sl w' a2 n2 c2 t.give ∧ n1 ≤ 3 ∧ n2 ≤ 3 ∧ Below w.heap.size w w'

set_option maxHeartbeats 2000000 in
theorem drawHeapsValid_any (a : Option Addr) (len cap : Nat) (w : World) (h : By w a len cap) : Calls Try.prog 20 #[.slice a len cap] w (HpDraw w) := by
  have k0 := Lib.hid (open_any a len cap w h)
  obtain ⟨g, hg⟩ : ∃ g, g = w.heap.size := ⟨_, rfl⟩
  rw [← hg] at k0
  have Hg := Lib.hid hg
  clear hg h
  go_enter Try.func20, Try.ntmps20
  go_wp2_with fail
  refine (k0.out).mono ?_
  rintro ee w1 ⟨rfl, hr1, hb1⟩
  have k1 := Lib.hid (l20Heaps_any g 0 2 w1 (by decide) (by decide) (by decide) hr1)
  have Hb1 := Lib.hid hb1
  clear hr1 hb1
  go_wp2_with fail
  refine (k1.out).mono ?_
  rintro ee w2 ⟨xs, g', n, c, hn, rfl, ho, hl, _, hg2⟩
  have HF := Lib.hid (show HpDraw w (.returned (.slice (some ⟨g', 0, none⟩) n c)) w2 from ⟨xs, g', n, c, hn, rfl, Joins.ownsRow_le ho (by have := Hb1.out.size; omega), hl, by rw [Hg.out] at Hb1 hg2; exact Hb1.out.grown hg2 Hb1.out.size (fun k e => by cases e; exact Nat.le_refl _)⟩)
  clear hn ho hl hg2
  go_wp2_with fail
  go_ret
  exact HF.out

set_option maxHeartbeats 2000000 in
theorem drawTradesValid_any (a : Option Addr) (len cap : Nat) (w : World) (h : By w a len cap) : Calls Try.prog 17 #[.slice a len cap] w (TsDraw w) := by
  have k0 := Lib.hid (open_any a len cap w h)
  obtain ⟨g, hg⟩ : ∃ g, g = w.heap.size := ⟨_, rfl⟩
  rw [← hg] at k0
  have Hg := Lib.hid hg
  clear hg h
  go_enter Try.func17, Try.ntmps17
  go_wp2_with fail
  refine (k0.out).mono ?_
  rintro ee w1 ⟨rfl, hr1, hb1⟩
  have k1 := Lib.hid (l20Trades_any g 0 3 w1 (by decide) (by decide) (by decide) hr1)
  have Hb1 := Lib.hid hb1
  clear hr1 hb1
  go_wp2_with fail
  refine (k1.out).mono ?_
  rintro ee w2 ⟨ts, v, n, rfl, hT, h3, hn1, hn5, _, hg2⟩
  have HF := Lib.hid (show TsDraw w (.returned v) w2 from ⟨ts, v, n, rfl, hT.mono (by have := Hb1.out.size; omega), h3, hn1, hn5, by rw [Hg.out] at Hb1 hg2; exact Hb1.out.grown hg2 Hb1.out.size (fun k e => by cases e; exact Nat.le_refl _)⟩)
  clear hT h3 hn1 hn5 hg2
  go_wp2_with fail
  go_ret
  exact HF.out

set_option maxHeartbeats 2000000 in
theorem drawTradeValid_any (a : Option Addr) (len cap : Nat) (w : World) (h : By w a len cap) : Calls Try.prog 13 #[.slice a len cap] w (TrDraw w) := by
  obtain ⟨W, hW, hB, hbW, hsW⟩ := box_two w (.slice none 0 0) (.slice none 0 0) 25
  have k0 := Lib.hid (open_any a len cap W (By.belw h hbW))
  have Hs := Lib.hid hsW
  have HB := Lib.hid hB
  have HbW := Lib.hid hbW
  obtain ⟨g, hg⟩ : ∃ g, g = W.heap.size := ⟨_, rfl⟩
  rw [← hg] at k0
  have Hg := Lib.hid hg
  clear hg h hB hbW hsW
  go_enter Try.func13, Try.ntmps13
  go_wp2_with fail
  refine (k0.out).mono ?_
  rintro ee w1 ⟨rfl, hr1, hb1⟩
  have hgW := Hs.out
  have hgg := Hg.out
  have HB1 := Lib.hid (HB.out.below hb1 (by omega))
  have k1 := Lib.hid (l20Trades_any g 0 2 w1 (by decide) (by decide) (by decide) hr1)
  have hsz1 := hb1.size
  have Hb1 := Lib.hid hb1
  have Hs1 := Lib.hid (show w.heap.size < w1.heap.size ∧ g < w1.heap.size by obtain ⟨_, _, _, _, h9, _⟩ := hr1; have := (Array.getElem?_eq_some_iff.1 h9).1; omega)
  clear hr1 hb1 hgW hgg hsz1
  go_wp2_with fail
  refine (k1.out).mono ?_
  rintro ee w2 ⟨ts, v, n, rfl, hT, h3, hn1, hn5, _, hg2⟩
  obtain ⟨g2, c2, e2, _⟩ := hT.slT
  subst e2
  obtain ⟨t, tl, a1, a2, d1, d2, rfl, y0, y1, o1, o2⟩ := hT.head hn1
  have h3t := h3 t (List.mem_cons_self ..)
  have hB2 : Blk w2 w.heap.size _ _ _ := (hg2.block w.heap.size Hs1.out.1 (fun e => by have h1 := Hg.out; have h2 := Hs.out; have h4 := Option.some.inj e; omega)).trans HB1.out
  have z0 := hB2.c0
  have f0 := hB2.f 0
  obtain ⟨W3, hW3⟩ : ∃ W, w2.setCell ⟨w.heap.size, 0, none⟩ (.slice a1 t.take.length d1) = W := ⟨_, rfl⟩
  have hB3 := hB2.s0 (.slice a1 t.take.length d1)
  rw [hW3] at hB3
  have z1 := hB3.c1
  have f1 := hB3.f 1
  obtain ⟨W4, hW4⟩ : ∃ W, W3.setCell ⟨w.heap.size, 1, none⟩ (.slice a2 t.give.length d2) = W := ⟨_, rfl⟩
  have hB4 := hB3.s1 (.slice a2 t.give.length d2)
  rw [hW4] at hB4
  have u0 := hB4.c0
  have u1 := hB4.c1
  have hlt : w.heap.size < w1.heap.size := Hs1.out.1
  have p1 := ownsRow_setCell_below (ownsRow_setCell_below o1 (a := ⟨w.heap.size, 0, none⟩) hlt (.slice a1 t.take.length d1)) (a := ⟨w.heap.size, 1, none⟩) hlt (.slice a2 t.give.length d2)
  have p2 := ownsRow_setCell_below (ownsRow_setCell_below o2 (a := ⟨w.heap.size, 0, none⟩) hlt (.slice a1 t.take.length d1)) (a := ⟨w.heap.size, 1, none⟩) hlt (.slice a2 t.give.length d2)
  have hb : Below w.heap.size w W4 := by
    have q1 : Below w.heap.size w w1 := HbW.out.trans (Hb1.out.mono (by rw [Hg.out]; exact HbW.out.size))
    have q2 : Below w.heap.size w w2 := q1.grown hg2 q1.size (fun k e => by cases e; have h1 := Hg.out; have h2 := Hs.out; omega)
    rw [← hW4, ← hW3]
    exact (q2.setCell (p := ⟨w.heap.size, 0, none⟩) (Nat.le_refl _) _).setCell (p := ⟨w.heap.size, 1, none⟩) (Nat.le_refl _) _
  rw [hW3, hW4] at p1 p2
  have HF := Lib.hid (show TrDraw w (.returned (.agg #[.slice a1 t.take.length d1, .slice a2 t.give.length d2])) W4 from ⟨t, a1, a2, _, _, d1, d2, rfl, Sl.of_own p1, Sl.of_own p2, h3t.1, h3t.2, hb⟩)
  clear hT h3 hn5 hg2 o1 o2 h3t hB2 hB3 hB4 hlt p1 p2 hb
  go_wp2_with fail
  refine bodyPost_ret (v := .agg #[.slice a1 t.take.length d1, .slice a2 t.give.length d2]) (by simp [results, Try.f13, go_sem, u0, u1]) rfl ?_
  exact HF.out

end Go.Proofs.Ytgcdbndnpcfcnaa
