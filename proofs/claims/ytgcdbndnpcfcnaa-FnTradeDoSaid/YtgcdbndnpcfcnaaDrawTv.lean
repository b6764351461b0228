/- The draw of TradeDo. -/
import Derived.Test.YtgcdbndnpcfcnaaDrawTu
namespace Go.Proofs.Ytgcdbndnpcfcnaa
set_option maxRecDepth 100000
open Go.RowKit

/-- Heaps and a rule that were drawn. -/
def TdDraw (w : World) (e : Ending) (w' : World) : Prop :=
  ∃ (xs : List Int) (g n c : Nat) (t : Tr) (a1 a2 : Option Addr) (n1 n2 c1 c2 : Nat), n = xs.length ∧ e = .returned (.tuple #[.slice (some ⟨g, 0, none⟩) n c, .agg #[.slice a1 n1 c1, .slice a2 n2 c2]]) ∧ Sl w' (some ⟨g, 0, none⟩) n c xs ∧ n ≤ 3 ∧ Sl w' a1 n1 c1 t.take ∧ Sl w' a2 n2 c2 t.give ∧ n1 ≤ 3 ∧ n2 ≤ 3 ∧ Below w.heap.size w w'

set_option maxHeartbeats 4000000 in
theorem drawTradeDo_any (a : Option Addr) (len cap : Nat) (w : World) (h : By w a len cap) : Calls Try.prog 23 #[.slice a len cap] w (TdDraw w) := by
  obtain ⟨W, hW, hB, hbW, hsW⟩ := box_two w (.slice none 0 0) (.slice none 0 0) 25
  have k0 := Lib.hid (open_any a len cap W (By.belw h hbW))
  have Hs := Lib.hid hsW
  have HB := Lib.hid hB
  have HbW := Lib.hid hbW
  obtain ⟨g, hg⟩ : ∃ g, g = W.heap.size := ⟨_, rfl⟩
  rw [← hg] at k0
  have Hg := Lib.hid hg
  clear hg h hB hbW hsW
  go_enter Try.func23, Try.ntmps23
  go_wp2_with fail
  refine (k0.out).mono ?_
  rintro ee w1 ⟨rfl, hr1, hb1⟩
  have hgW := Hs.out
  have hgg := Hg.out
  have HB1 := Lib.hid (HB.out.below hb1 (by omega))
  have k1 := Lib.hid (l20Heaps_any g 0 12 w1.drew (by decide) (by decide) (by decide) (hr1.kept (grownBy_drew w1 none 1) (fun k e => by cases e)))
  have hsz1 := hb1.size
  have Hb1 := Lib.hid hb1
  have Hs1 := Lib.hid (show w.heap.size < w1.heap.size ∧ g < w1.heap.size by obtain ⟨_, _, _, _, h9, _⟩ := hr1; have := (Array.getElem?_eq_some_iff.1 h9).1; omega)
  clear hr1 hb1 hgW hgg hsz1
  go_upto_region 2 with fail
  -- REGION
  refine wp_region_any (by kernel_rfl) ?_
  try (change wpAny _ _ _ _ _ _ _ (World.drew _))
  refine wpAny_take (oi := ⟨some 7, _, _, _, _, _⟩) (i := 0) (v := .pointer (some ⟨g, 0, none⟩)) rfl (by kernel_rfl) (by kernel_rfl) (by kernel_rfl) (fun _ _ _ h => h) (Or.inl ⟨by kernel_rfl, fun w => by go_simp⟩) ?_
  simp only [Act.put, List.setIfInBounds_toArray, List.set_cons_zero, List.set_cons_succ]
  refine wpAny_take (oi := ⟨some 9, _, _, _, _, _⟩) (i := 2) (v := .pointer (some ⟨g, 0, none⟩)) rfl (by kernel_rfl) (by kernel_rfl) (by kernel_rfl) (fun _ _ _ h => h) (Or.inl ⟨by kernel_rfl, fun w => by go_simp⟩) ?_
  simp only [Act.put, List.setIfInBounds_toArray, List.set_cons_zero, List.set_cons_succ]
  refine wpAny_ready (rs := [1]) (by kernel_rfl) (by simp) (AllReady.cons rfl (fun K hK => ?_) AllReady.nil)
  go_simp
  go_wp2_with (first
    | (go_at_call 55; (refine (k1.out).mono ?_); rintro ee w2 ⟨xs, gh, n, c, hn, rfl, ho, hl, hr2, hg2⟩; have Hn := Lib.hid hn; clear hn)
    | fail)
  have k2 := Lib.hid (l20Trades_any g (0 + 10) 14 w2 (by decide) (by decide) (by decide) hr2)
  have Ho := Lib.hid ho
  have Hl := Lib.hid hl
  have hg12 := g_drew hg2
  have HB2 := Lib.hid (show Blk w2 w.heap.size _ _ _ from (hg12.block w.heap.size Hs1.out.1 (fun e => by have h1 := Hg.out; have h2 := Hs.out; have h4 := Option.some.inj e; omega)).trans HB1.out)
  have Hg12 := Lib.hid hg12
  clear ho hl hr2 hg2 hg12
  refine wpAny_ready (rs := [3]) (by kernel_rfl) (by simp) (AllReady.cons rfl (fun K hK => ?_) AllReady.nil)
  go_simp
  go_wp2_with (first
    | (go_at_call 50; (refine (k2.out).mono ?_); rintro ee w3 ⟨ts, v, nn, rfl, hT, h3, hn1, hn5, _, hg3⟩)
    | fail)
  obtain ⟨g2, c2, e2, _⟩ := hT.slT
  subst e2
  obtain ⟨t, tl, a1, a2, d1, d2, rfl, y0, y1, o1, o2⟩ := hT.head hn1
  have h3t := h3 t (List.mem_cons_self ..)
  have hs12 : w1.heap.size ≤ w2.heap.size := Hg12.out.size
  have hB3 : Blk w3 w.heap.size _ _ _ := (hg3.block w.heap.size (Nat.lt_of_lt_of_le Hs1.out.1 hs12) (fun e => by have h1 := Hg.out; have h2 := Hs.out; have h4 := Option.some.inj e; omega)).trans HB2.out
  have oh := own_rd Ho.out hg3 (show g < w1.heap.size from Hs1.out.2)
  have z0 := hB3.c0
  have f0 := hB3.f 0
  obtain ⟨W3, hW3⟩ : ∃ W, w3.setCell ⟨w.heap.size, 0, none⟩ (.slice a1 t.take.length d1) = W := ⟨_, rfl⟩
  have hB4 := hB3.s0 (.slice a1 t.take.length d1)
  rw [hW3] at hB4
  have z1 := hB4.c1
  have f1 := hB4.f 1
  obtain ⟨W4, hW4⟩ : ∃ W, W3.setCell ⟨w.heap.size, 1, none⟩ (.slice a2 t.give.length d2) = W := ⟨_, rfl⟩
  have hB5 := hB4.s1 (.slice a2 t.give.length d2)
  rw [hW4] at hB5
  have u0 := hB5.c0
  have u1 := hB5.c1
  have hlt : w.heap.size < w1.heap.size := Hs1.out.1
  have hlt2 : w.heap.size < w2.heap.size := Nat.lt_of_lt_of_le hlt hs12
  have p1 := ownsRow_setCell_below (ownsRow_setCell_below o1 (a := ⟨w.heap.size, 0, none⟩) hlt2 (.slice a1 t.take.length d1)) (a := ⟨w.heap.size, 1, none⟩) hlt2 (.slice a2 t.give.length d2)
  have p2 := ownsRow_setCell_below (ownsRow_setCell_below o2 (a := ⟨w.heap.size, 0, none⟩) hlt2 (.slice a1 t.take.length d1)) (a := ⟨w.heap.size, 1, none⟩) hlt2 (.slice a2 t.give.length d2)
  have p3 := ownsRow_setCell_below (ownsRow_setCell_below oh (a := ⟨w.heap.size, 0, none⟩) hlt (.slice a1 t.take.length d1)) (a := ⟨w.heap.size, 1, none⟩) hlt (.slice a2 t.give.length d2)
  have hb : Below w.heap.size w W4 := by
    have q1 : Below w.heap.size w w1 := HbW.out.trans (Hb1.out.mono (by rw [Hg.out]; exact HbW.out.size))
    have q2 : Below w.heap.size w w2 := q1.grown Hg12.out q1.size (fun k e => by cases e; have h1 := Hg.out; have h2 := Hs.out; omega)
    have q3 : Below w.heap.size w w3 := q2.grown hg3 q2.size (fun k e => by cases e; have h1 := Hg.out; have h2 := Hs.out; omega)
    rw [← hW4, ← hW3]
    exact (q3.setCell (p := ⟨w.heap.size, 0, none⟩) (Nat.le_refl _) _).setCell (p := ⟨w.heap.size, 1, none⟩) (Nat.le_refl _) _
  rw [hW3, hW4] at p1 p2 p3
  have HF := Lib.hid (show TdDraw w (.returned (.tuple #[.slice (some ⟨gh, 0, none⟩) n c, .agg #[.slice a1 t.take.length d1, .slice a2 t.give.length d2]])) W4 from ⟨xs, gh, n, c, t, a1, a2, _, _, d1, d2, Hn.out, rfl, Sl.of_own p3, Hl.out, Sl.of_own p1, Sl.of_own p2, h3t.1, h3t.2, hb⟩)
  clear hT h3 hn5 hg3 o1 o2 h3t hB3 hB4 hB5 hlt hlt2 p1 p2 p3 hb oh hs12
  refine wpAny_take (oi := ⟨some 11, _, _, _, _, _⟩) (i := 4) (v := .pointer (some ⟨g2, 0, none⟩)) rfl (by kernel_rfl) (by kernel_rfl) (by kernel_rfl) (fun _ _ _ h => h) (Or.inl ⟨by kernel_rfl, fun w => by (go_simp; try (intro h0; omega))⟩) ?_
  simp only [Act.put, List.setIfInBounds_toArray, List.set_cons_zero, List.set_cons_succ]
  refine wpAny_take (oi := ⟨some 2, _, _, _, _, _⟩) (i := 6) (v := .slice (some ⟨gh, 0, none⟩) n c) rfl (by kernel_rfl) (by kernel_rfl) (by kernel_rfl) (fun _ _ _ h => h) (Or.inl ⟨by kernel_rfl, fun w => by go_simp⟩) ?_
  simp only [Act.put, List.setIfInBounds_toArray, List.set_cons_zero, List.set_cons_succ]
  refine wpAny_ready (rs := [5]) (by kernel_rfl) (by simp) (AllReady.cons rfl (fun K hK => ?_) AllReady.nil)
  go_simp
  refine hK _ _ ?_
  clear hK K
  refine wpAny_ready (rs := [7]) (by kernel_rfl) (by simp) (AllReady.cons rfl (fun K hK => ?_) AllReady.nil)
  go_simp
  refine hK _ _ ?_
  clear hK K
  refine wpAny_done (by kernel_rfl) ?_ _
  go_wp2_with fail
  refine bodyPost_ret (v := .tuple #[.slice (some ⟨gh, 0, none⟩) n c, .agg #[.slice a1 t.take.length d1, .slice a2 t.give.length d2]]) (by simp [results, Try.f23, go_sem, u0, u1]) rfl ?_
  exact HF.out
  -- END REGION

end Go.Proofs.Ytgcdbndnpcfcnaa
