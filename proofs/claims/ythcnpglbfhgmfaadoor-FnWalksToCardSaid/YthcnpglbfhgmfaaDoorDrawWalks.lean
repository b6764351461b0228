/- What FnWalksTo draws. -/
import Derived.Test.YthcnpglbfhgmfaaDoorDrawRel
namespace Go.Proofs.YthcnpglbfhgmfaaDoor
set_option maxRecDepth 100000
open Go.RowKit

theorem div_one {m : Nat} {x : Int} (h0 : 0 ≤ x) (h1 : x ≤ m) (hm : 0 < m) : ∃ d : Nat, d ≤ 1 ∧ x.tdiv (m : Int) = (d : Int) ∧ x / (m : Int) = (d : Int) := by
  obtain ⟨u, rfl⟩ := Int.eq_ofNat_of_zero_le h0
  have h2 : u ≤ m := by omega
  refine ⟨u / m, ?_, ?_, rfl⟩
  · have := Nat.div_le_div_right (c := m) h2
    rwa [Nat.div_self hm] at this
  · rw [Int.tdiv_eq_ediv_of_nonneg (by omega)]
    rfl

set_option maxHeartbeats 4000000 in
theorem drawWalksTo_any (a : Option Addr) (len cap : Nat) (w : World) (h : By w a len cap) : Calls Tryd.prog 18 #[.slice a len cap] w (fun e w' =>
    ∃ (xs : List Int) (p t : Int) (g n c : Nat), n = xs.length ∧ e = .returned (.tuple #[.slice (some ⟨g, 0, none⟩) n c, .int .i64 p, .int .i64 t]) ∧ w'.ownsRow w.heap.size 3 1 (.slice (some ⟨g, 0, none⟩) n c) n (ints xs) ∧ n ≤ 13 ∧ (-1 ≤ p ∧ p ≤ 20 ∧ -20 ≤ t ∧ t ≤ 200) ∧ Below w.heap.size w w') := by
  have k0 := Lib.hid (open_any a len cap w h)
  obtain ⟨g, hg⟩ : ∃ g, g = w.heap.size := ⟨_, rfl⟩
  rw [← hg] at k0
  have Hg := Lib.hid hg
  clear hg h
  go_enter Tryd.func18, Tryd.ntmps18
  go_wp2_with fail
  refine (k0.out).mono ?_
  rintro ee w1 ⟨rfl, hr1, hb1⟩
  have Hb1 := Lib.hid (show Below w.heap.size w w1 by rw [← Hg.out]; exact hb1)
  have hgl : g < w1.heap.size := by obtain ⟨_, _, _, _, h1, _⟩ := hr1; exact (Array.getElem?_eq_some_iff.1 h1).1
  have k3 := Lib.hid (l20Rel_any g 0 7 12 w1 (by decide) (by decide) (by decide) (by decide) (by decide) hr1)
  clear hr1 hb1
  go_wp2_with fail
  refine (k3.out).mono ?_
  rintro ee w2 ⟨xs, g1, n, c, hn, rfl, ho, hl, hr, hgr⟩
  have Hn := Lib.hid hn
  have Ho2 := Lib.hid ho
  have Hg2 := Lib.hid hgr
  have k4 := Lib.hid (pick_any g (0 + 60) ((n : Int) + 1) w2 (by omega) (by omega) (by omega) hr)
  clear hn ho hr hgr
  go_wp2_with fail
  refine (k4.out).mono ?_
  rintro ee w3 ⟨x1, rfl, hx1, hr, hg⟩
  have a0 := hx1.1
  have a1 := hx1.2.1 (by omega)
  have Ho3 := Lib.hid (own_rd Ho2.out hg hgl)
  have Hg3 := Lib.hid (grownBy_trans Hg2.out hg)
  have k5 := Lib.hid (pick_any g (0 + 60 + 1) 20 w3 (by omega) (by decide) (by decide) hr)
  clear hx1 hr hg
  go_wp2_with fail
  refine (k5.out).mono ?_
  rintro ee w4 ⟨x2, rfl, hx, hr, hg⟩
  obtain ⟨d1, e1, e2, e3⟩ := div_one (m := 19) hx.1 (by have := hx.2.1 (by decide); omega) (by decide)
  have Ho4 := Lib.hid (own_rd Ho3.out hg hgl)
  have Hg4 := Lib.hid (grownBy_trans Hg3.out hg)
  have k6 := Lib.hid (pick_any g (0 + 60 + 1 + 1) 9 w4 (by omega) (by decide) (by decide) hr)
  clear hx hr hg
  go_wp2_with fail
  refine (k6.out).mono ?_
  rintro ee w5 ⟨x3, rfl, hx, hr, hg⟩
  have b0 := hx.1
  have b1 := hx.2.1 (by decide)
  have Ho5 := Lib.hid (own_rd Ho4.out hg hgl)
  have Hg5 := Lib.hid (grownBy_trans Hg4.out hg)
  have k7 := Lib.hid (pick_any g (0 + 60 + 1 + 1 + 1) 30 w5 (by omega) (by decide) (by decide) hr)
  clear hx hr hg
  go_wp2_with fail
  refine (k7.out).mono ?_
  rintro ee w6 ⟨x4, rfl, hx, hr, hg⟩
  obtain ⟨d2, f1, f2, f3⟩ := div_one (m := 29) hx.1 (by have := hx.2.1 (by decide); omega) (by decide)
  have Ho6 := Lib.hid (own_rd Ho5.out hg hgl)
  have Hg6 := Lib.hid (grownBy_trans Hg5.out hg)
  have k8 := Lib.hid (pick_any g (0 + 60 + 1 + 1 + 1 + 1) 30 w6 (by omega) (by decide) (by decide) hr)
  clear hx hr hg
  go_wp2_with fail
  refine (k8.out).mono ?_
  rintro ee w7 ⟨x5, rfl, hx, hr, hg⟩
  obtain ⟨d3, h1, h2, h3⟩ := div_one (m := 29) hx.1 (by have := hx.2.1 (by decide); omega) (by decide)
  have Ho7 := Lib.hid (Joins.ownsRow_le (own_rd Ho6.out hg hgl) Hb1.out.size)
  have HB := Lib.hid (Hb1.out.grown (grownBy_trans Hg6.out hg) Hb1.out.size (fun k e => by cases e; rw [Hg.out]; exact Nat.le_refl _))
  clear hx hr hg
  go_wp2_with fail
  go_ret3
  exact ⟨xs, x1 - x2 / 19, x3 + x4 / 29 * 99 - x5 / 29 * 9, g1, n, c, Hn.out, rfl, Ho7.out, hl, ⟨by omega, by omega, by omega, by omega⟩, HB.out⟩

end Go.Proofs.YthcnpglbfhgmfaaDoor
