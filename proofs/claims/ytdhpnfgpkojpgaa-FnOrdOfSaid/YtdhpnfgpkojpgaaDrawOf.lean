/- What FnOrdOf draws. -/
import Derived.Test.YtdhpnfgpkojpgaaDraw0
namespace Go.Proofs.Ytdhpnfgpkojpgaa
open Go.RowKit

theorem mul_bnd {x y : Int} (h1 : 0 ≤ x) (h2 : x < 100) (h3 : 0 ≤ y) (h4 : y < 100) : 0 ≤ x * (1 + y) ∧ x * (1 + y) ≤ 9900 := by
  refine ⟨Int.mul_nonneg h1 (by omega), ?_⟩
  have := Int.mul_le_mul (show x ≤ 99 by omega) (show 1 + y ≤ 100 by omega) (by omega) (by decide)
  omega

set_option maxHeartbeats 2000000 in
theorem drawOf_any (a : Option Addr) (len cap : Nat) (w : World) (h : By w a len cap) :
    Calls Try.prog 14 #[.slice a len cap] w fun e w' => ∃ r : Int, e = .returned (.int .i64 r) ∧ -200 ≤ r ∧ r ≤ 20000 ∧ Below w.heap.size w w' := by
  have k0 := Lib.hid (open_any a len cap w h)
  obtain ⟨g, hg⟩ : ∃ g, g = w.heap.size := ⟨_, rfl⟩
  rw [← hg] at k0
  have Hg := Lib.hid hg
  clear hg h
  go_enter Try.func14, Try.ntmps14
  go_wp2_with fail
  refine (k0.out).mono ?_
  rintro ee w1 ⟨rfl, hr1, hb1⟩
  have Hb1 := Lib.hid hb1
  have k1 := Lib.hid (pick_any g 0 100 w1 (by decide) (by decide) (by decide) hr1)
  clear hb1 hr1
  go_wp2_with fail
  refine (k1.out).mono ?_
  rintro ee w2 ⟨x1, rfl, hx1, hr2, hg2⟩
  have hx10 := hx1.1
  have hx11 := hx1.2.1 (by decide)
  have Hg2 := Lib.hid hg2
  have k2 := Lib.hid (pick_any g 1 100 w2 (by decide) (by decide) (by decide) hr2)
  clear hx1 hr2 hg2
  go_wp2_with fail
  refine (k2.out).mono ?_
  rintro ee w3 ⟨x2, rfl, hx2, hr3, hg3⟩
  have hx20 := hx2.1
  have hx21 := hx2.2.1 (by decide)
  have Hg3 := Lib.hid (grownBy_trans Hg2.out hg3)
  have k3 := Lib.hid (pick_any g 2 20 w3 (by decide) (by decide) (by decide) hr3)
  have hm := mul_bnd hx10 hx11 hx20 hx21
  clear hx2 hr3 hg3
  have q1 : IntKind.i64.wrap (1 + x2) = 1 + x2 := IntWalk.i64_in _ (by omega)
  obtain ⟨y, hy⟩ : ∃ y, y = x1 * (1 + x2) := ⟨_, rfl⟩
  rw [← hy] at hm
  have hy0 := hm.1
  have hy1 := hm.2
  have q2 : IntKind.i64.wrap (x1 * (1 + x2)) = y := by rw [← hy]; exact IntWalk.i64_in _ (by omega)
  have HY := Lib.hid hy
  clear hy hm
  go_wp2_with fail
  refine (k3.out).mono ?_
  rintro ee w4 ⟨x3, rfl, hx3, hr4, hg4⟩
  have hx30 := hx3.1
  have hx31 := hx3.2.1 (by decide)
  have Hg4 := Lib.hid (grownBy_trans Hg3.out hg4)
  have k4 := Lib.hid (pick_any g 3 20 w4 (by decide) (by decide) (by decide) hr4)
  have hd0 : 0 ≤ x3 / 19 := by omega
  have hd1 : x3 / 19 ≤ 1 := by omega
  have q3 : x3.tdiv 19 = x3 / 19 := Int.tdiv_eq_ediv_of_nonneg hx30
  clear hx3 hr4 hg4
  go_wp2_with fail
  refine (k4.out).mono ?_
  rintro ee w5 ⟨x4, rfl, hx4, hr5, hg5⟩
  have hx40 := hx4.1
  have hx41 := hx4.2.1 (by decide)
  have Hg5 := Lib.hid (grownBy_trans Hg4.out hg5)
  have hd2 : 0 ≤ x4 / 19 := by omega
  have hd3 : x4 / 19 ≤ 1 := by omega
  have q4 : x4.tdiv 19 = x4 / 19 := Int.tdiv_eq_ediv_of_nonneg hx40
  clear hx4 hr5 hg5
  go_wp2_with fail
  go_ret
  have hs1 : g ≤ w1.heap.size := by have h1 := Hb1.out.size; have h2 := Hg.out; omega
  refine ⟨_, rfl, ?_, ?_, by rw [← Hg.out]; exact Hb1.out.grown Hg5.out hs1 (fun k e => by cases e; exact Nat.le_refl _)⟩
  · omega
  · omega

end Go.Proofs.Ytdhpnfgpkojpgaa
