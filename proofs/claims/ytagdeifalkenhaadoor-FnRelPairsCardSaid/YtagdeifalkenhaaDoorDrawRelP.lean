/- The draw of two relations. -/
import Derived.Test.YtagdeifalkenhaaDoorDrawRel
namespace Go.Proofs.YtagdeifalkenhaaDoor
set_option maxRecDepth 100000
open Go.RowKit

def DrawTwoRel (w : World) (e : Ending) (w' : World) : Prop :=
  ∃ (xs ys : List Int) (g n c g2 n2 c2 : Nat), n = xs.length ∧ n2 = ys.length ∧ e = .returned (.tuple #[.slice (some ⟨g, 0, none⟩) n c, .slice (some ⟨g2, 0, none⟩) n2 c2]) ∧
    w'.ownsRow w.heap.size 3 1 (.slice (some ⟨g, 0, none⟩) n c) n (ints xs) ∧ w'.ownsRow w.heap.size 3 1 (.slice (some ⟨g2, 0, none⟩) n2 c2) n2 (ints ys) ∧ n ≤ 13 ∧ n2 ≤ 13 ∧ Below w.heap.size w w'

set_option maxHeartbeats 2000000 in
theorem drawRelPairs_any (a : Option Addr) (len cap : Nat) (w : World) (h : By w a len cap) : Calls Tryd.prog 18 #[.slice a len cap] w (DrawTwoRel w) := by
  have k0 := Lib.hid (open_any a len cap w h)
  obtain ⟨g, hg⟩ : ∃ g, g = w.heap.size := ⟨_, rfl⟩
  rw [← hg] at k0
  have Hg := Lib.hid hg
  clear hg h
  go_enter Tryd.func18, Tryd.ntmps18
  go_wp2_with fail
  refine (k0.out).mono ?_
  rintro ee w1 ⟨rfl, hr1, hb1⟩
  have Hb1 := Lib.hid (show Below w.heap.size w w1 by rw [← Hg.out]; exact hb1)
  have hgl : g < w1.heap.size := by obtain ⟨_, _, _, _, h1, _⟩ := hr1; exact (Array.getElem?_eq_some_iff.1 h1).1
  have k3 := Lib.hid (l20Rel_any g 0 4 14 w1 (by decide) (by decide) (by decide) (by decide) (by decide) hr1)
  clear hr1 hb1
  go_wp2_with fail
  refine (k3.out).mono ?_
  rintro ee w3 ⟨xs, g1, n, c, hn, rfl, ho, hl, hrd, hgr⟩
  have HO := Lib.hid ho
  have HN := Lib.hid hn
  have HG := Lib.hid hgr
  have hgl3 : g < w3.heap.size := Nat.lt_of_lt_of_le hgl hgr.size
  have k4 := Lib.hid (l20Rel_any g (0 + 60) 3 14 w3 (by decide) (by decide) (by decide) (by decide) (by decide) hrd)
  clear ho hn hrd hgr
  go_wp2_with fail
  refine (k4.out).mono ?_
  rintro ee w4 ⟨ys, g2, n2, c2, hn2, rfl, ho2, hl2, _, hgr2⟩
  have HO1 := Lib.hid (Joins.ownsRow_le (own_rd HO.out hgr2 hgl) Hb1.out.size)
  have HO2 := Lib.hid (Joins.ownsRow_le (base' := w.heap.size) ho2 (Nat.le_trans Hb1.out.size HG.out.size))
  have HN2 := Lib.hid hn2
  have HB := Lib.hid (Hb1.out.grown (grownBy_trans HG.out hgr2) Hb1.out.size (fun k e => by cases e; rw [Hg.out]; exact Nat.le_refl _))
  clear ho2 hn2 hgr2
  go_wp2_with fail
  go_ret2
  exact ⟨xs, ys, g1, n, c, g2, n2, c2, HN.out, HN2.out, rfl, HO1.out, HO2.out, hl, hl2, HB.out⟩
end Go.Proofs.YtagdeifalkenhaaDoor
