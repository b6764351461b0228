/- What the laws of chapter 4 draw. -/
import Derived.Test.YtaealfmgmonndaaDraw0
namespace Go.Proofs.Ytaealfmgmonndaa
set_option maxRecDepth 100000
open Go.RowKit

def CountPost (w : World) (g P : Nat) (e : Ending) (w' : World) : Prop :=
  ∃ v : Int, e = .returned (.int .i64 v) ∧ 0 ≤ v ∧ v ≤ 1000000000 ∧ RdOk w' g (P + 6) ∧ w.grownBy w' (some g)
def RootPost (w : World) (g P : Nat) (e : Ending) (w' : World) : Prop :=
  ∃ v : Int, e = .returned (.int .i64 v) ∧ -1 ≤ v ∧ v ≤ 99 ∧ RdOk w' g (P + 4) ∧ w.grownBy w' (some g)
theorem mul255 {x y : Int} (h1 : 0 ≤ x) (h2 : x < 256) (h3 : 0 ≤ y) (h4 : y < 256) : 0 ≤ x * y ∧ x * y ≤ 65025 := by
  refine ⟨Int.mul_nonneg h1 h3, ?_⟩
  have := Int.mul_le_mul (show x ≤ 255 by omega) (show y ≤ 255 by omega) h3 (by decide)
  omega
theorem mul255b {x y : Int} (h1 : 0 ≤ x) (h2 : x ≤ 65025) (h3 : 0 ≤ y) (h4 : y < 256) : 0 ≤ x * y ∧ x * y ≤ 16581375 := by
  refine ⟨Int.mul_nonneg h1 h3, ?_⟩
  have := Int.mul_le_mul (show x ≤ 65025 by omega) (show y ≤ 255 by omega) h3 (by decide)
  omega

set_option maxHeartbeats 4000000 in
theorem l20Count_any (g P : Nat) (w : World) (hP : P ≤ 80000000) (hrd : RdOk w g P) :
    Calls Try.prog 51 #[.pointer (some ⟨g, 0, none⟩)] w (CountPost w g P) := by
  have k1 := Lib.hid (pick_any g P 4 w (by omega) (by decide) (by decide) hrd)
  clear hrd
  go_enter Try.func51, Try.ntmps51
  go_wp2_with fail
  refine (k1.out).mono ?_
  rintro ee w1 ⟨x, rfl, hx, hr1, hg1⟩
  have hx0 := hx.1
  have hx1 := hx.2.1 (by decide)
  have hcs : x = 0 ∨ x = 1 ∨ x = 2 ∨ x = 3 := by omega
  have Hg1 := Lib.hid hg1
  have Hr1 := Lib.hid hr1
  clear hx hx0 hx1 hr1 hg1
  rcases hcs with rfl | rfl | rfl | rfl
  · have k2 := Lib.hid (pick_any g (P + 1) 20 w1 (by omega) (by decide) (by decide) Hr1.out)
    go_wp2_with fail
    refine (k2.out).mono ?_
    rintro ee w2 ⟨y, rfl, hy, hr2, hg2⟩
    have hy0 := hy.1
    have hy1 := hy.2.1 (by decide)
    have Hg2 := Lib.hid (grownBy_trans Hg1.out hg2)
    have Hr2 := Lib.hid hr2
    clear hy hr2 hg2
    go_wp2_with fail
    go_ret
    exact ⟨_, rfl, hy0, by omega, Hr2.out.mono (by omega), Hg2.out⟩
  · have k2 := Lib.hid (pick_any g (P + 1) 256 w1 (by omega) (by decide) (by decide) Hr1.out)
    go_wp2_with fail
    refine (k2.out).mono ?_
    rintro ee w2 ⟨y, rfl, hy, hr2, hg2⟩
    have hy0 := hy.1
    have hy1 := hy.2.1 (by decide)
    have Hg2 := Lib.hid (grownBy_trans Hg1.out hg2)
    have k3 := Lib.hid (pick_any g (P + 1 + 1) 256 w2 (by omega) (by decide) (by decide) hr2)
    clear hy hr2 hg2
    go_wp2_with fail
    refine (k3.out).mono ?_
    rintro ee w3 ⟨z, rfl, hz, hr3, hg3⟩
    have hz0 := hz.1
    have hz1 := hz.2.1 (by decide)
    have hm := mul255 hy0 hy1 hz0 hz1
    obtain ⟨m, hmm⟩ : ∃ m, m = y * z := ⟨_, rfl⟩
    rw [← hmm] at hm
    have hm0 := hm.1
    have hm1 := hm.2
    have q2 : IntKind.i64.wrap (y * z) = m := by rw [← hmm]; exact IntWalk.i64_in _ (by omega)
    have Hg3 := Lib.hid (grownBy_trans Hg2.out hg3)
    have Hr3 := Lib.hid hr3
    have HM := Lib.hid hmm
    clear hz hr3 hg3 hm hmm
    go_wp2_with fail
    go_ret
    exact ⟨_, rfl, by first | exact hm0 | (rw [← HM.out]; exact hm0), by first | omega | (rw [← HM.out]; omega), Hr3.out.mono (by omega), Hg3.out⟩
  · have k2 := Lib.hid (pick_any g (P + 1) 256 w1 (by omega) (by decide) (by decide) Hr1.out)
    go_wp2_with fail
    refine (k2.out).mono ?_
    rintro ee w2 ⟨y, rfl, hy, hr2, hg2⟩
    have hy0 := hy.1
    have hy1 := hy.2.1 (by decide)
    have Hg2 := Lib.hid (grownBy_trans Hg1.out hg2)
    have k3 := Lib.hid (pick_any g (P + 1 + 1) 256 w2 (by omega) (by decide) (by decide) hr2)
    clear hy hr2 hg2
    go_wp2_with fail
    refine (k3.out).mono ?_
    rintro ee w3 ⟨z, rfl, hz, hr3, hg3⟩
    have hz0 := hz.1
    have hz1 := hz.2.1 (by decide)
    have hm := mul255 hy0 hy1 hz0 hz1
    obtain ⟨m, hmm⟩ : ∃ m, m = y * z := ⟨_, rfl⟩
    rw [← hmm] at hm
    have hm0 := hm.1
    have hm1 := hm.2
    have q2 : IntKind.i64.wrap (y * z) = m := by rw [← hmm]; exact IntWalk.i64_in _ (by omega)
    have Hg3 := Lib.hid (grownBy_trans Hg2.out hg3)
    have k4 := Lib.hid (pick_any g (P + 1 + 1 + 1) 256 w3 (by omega) (by decide) (by decide) hr3)
    have HM := Lib.hid hmm
    clear hz hr3 hg3 hm hmm
    go_wp2_with fail
    refine (k4.out).mono ?_
    rintro ee w4 ⟨v, rfl, hv, hr4, hg4⟩
    have hv0 := hv.1
    have hv1 := hv.2.1 (by decide)
    have hn := mul255b hm0 hm1 hv0 hv1
    obtain ⟨n, hnn⟩ : ∃ n, n = m * v := ⟨_, rfl⟩
    rw [← hnn] at hn
    have hn0 := hn.1
    have hn1 := hn.2
    have q3 : IntKind.i64.wrap (m * v) = n := by rw [← hnn]; exact IntWalk.i64_in _ (by omega)
    have q3' : m * v = n := hnn.symm
    have Hg4 := Lib.hid (grownBy_trans Hg3.out hg4)
    have k5 := Lib.hid (pick_any g (P + 1 + 1 + 1 + 1) 256 w4 (by omega) (by decide) (by decide) hr4)
    clear hv hr4 hg4 hn hnn
    go_wp2_with fail
    refine (k5.out).mono ?_
    rintro ee w5 ⟨u, rfl, hu, hr5, hg5⟩
    have hu0 := hu.1
    have hu1 := hu.2.1 (by decide)
    have Hg5 := Lib.hid (grownBy_trans Hg4.out hg5)
    have Hr5 := Lib.hid hr5
    clear hu hr5 hg5
    go_wp2_with fail
    go_ret
    exact ⟨_, rfl, by omega, by omega, Hr5.out.mono (by omega), Hg5.out⟩
  · have k2 := Lib.hid (pick_any g (P + 1) 256 w1 (by omega) (by decide) (by decide) Hr1.out)
    go_wp2_with fail
    refine (k2.out).mono ?_
    rintro ee w2 ⟨y, rfl, hy, hr2, hg2⟩
    have hy0 := hy.1
    have hy1 := hy.2.1 (by decide)
    have Hg2 := Lib.hid (grownBy_trans Hg1.out hg2)
    have Hr2 := Lib.hid hr2
    clear hy hr2 hg2
    go_wp2_with fail
    go_ret
    exact ⟨_, rfl, hy0, by omega, Hr2.out.mono (by omega), Hg2.out⟩

set_option maxHeartbeats 4000000 in
theorem l20Root_any (g P : Nat) (w : World) (hP : P ≤ 80000000) (hrd : RdOk w g P) :
    Calls Try.prog 40 #[.pointer (some ⟨g, 0, none⟩)] w (RootPost w g P) := by
  have k1 := Lib.hid (pick_any g P 9 w (by omega) (by decide) (by decide) hrd)
  clear hrd
  go_enter Try.func40, Try.ntmps40
  go_wp2_with fail
  refine (k1.out).mono ?_
  rintro ee w1 ⟨x, rfl, hx, hr1, hg1⟩
  have hx0 := hx.1
  have hx1 := hx.2.1 (by decide)
  have Hg1 := Lib.hid hg1
  have k2 := Lib.hid (pick_any g (P + 1) 12 w1 (by omega) (by decide) (by decide) hr1)
  clear hx hr1 hg1
  go_wp2_with fail
  refine (k2.out).mono ?_
  rintro ee w2 ⟨y, rfl, hy, hr2, hg2⟩
  have hy0 := hy.1
  have hy1 := hy.2.1 (by decide)
  obtain ⟨d, hd⟩ : ∃ d, d = y / 11 := ⟨_, rfl⟩
  have q2 : y.tdiv 11 = d := by rw [hd]; exact Int.tdiv_eq_ediv_of_nonneg hy0
  have hds : d = 0 ∨ d = 1 := by omega
  have Hg2 := Lib.hid (grownBy_trans Hg1.out hg2)
  have k3 := Lib.hid (pick_any g (P + 1 + 1) 90 w2 (by omega) (by decide) (by decide) hr2)
  clear hy hr2 hg2 hd
  rcases hds with rfl | rfl
  · go_wp2_with fail
    refine (k3.out).mono ?_
    rintro ee w3 ⟨z, rfl, hz, hr3, hg3⟩
    have hz0 := hz.1
    have hz1 := hz.2.1 (by decide)
    have Hg3 := Lib.hid (grownBy_trans Hg2.out hg3)
    have k4 := Lib.hid (pick_any g (P + 1 + 1 + 1) 40 w3 (by omega) (by decide) (by decide) hr3)
    clear hz hr3 hg3
    go_wp2_with fail
    refine (k4.out).mono ?_
    rintro ee w4 ⟨v, rfl, hv, hr4, hg4⟩
    have hv0 := hv.1
    have hv1 := hv.2.1 (by decide)
    have Hg4 := Lib.hid (grownBy_trans Hg3.out hg4)
    have Hr4 := Lib.hid hr4
    have hd2 : 0 ≤ v / 39 := by omega
    have hd3 : v / 39 ≤ 1 := by omega
    have q4 : v.tdiv 39 = v / 39 := Int.tdiv_eq_ediv_of_nonneg hv0
    clear hv hr4 hg4
    go_wp2_with fail
    go_ret
    refine ⟨_, rfl, ?_, ?_, Hr4.out.mono (by omega), Hg4.out⟩
    · omega
    · omega
  · go_wp2_with fail
    refine (k3.out).mono ?_
    rintro ee w3 ⟨z, rfl, hz, hr3, hg3⟩
    have hz0 := hz.1
    have hz1 := hz.2.1 (by decide)
    have Hg3 := Lib.hid (grownBy_trans Hg2.out hg3)
    have k4 := Lib.hid (pick_any g (P + 1 + 1 + 1) 40 w3 (by omega) (by decide) (by decide) hr3)
    clear hz hr3 hg3
    go_wp2_with fail
    refine (k4.out).mono ?_
    rintro ee w4 ⟨v, rfl, hv, hr4, hg4⟩
    have hv0 := hv.1
    have hv1 := hv.2.1 (by decide)
    have Hg4 := Lib.hid (grownBy_trans Hg3.out hg4)
    have Hr4 := Lib.hid hr4
    have hd2 : 0 ≤ v / 39 := by omega
    have hd3 : v / 39 ≤ 1 := by omega
    have q4 : v.tdiv 39 = v / 39 := Int.tdiv_eq_ediv_of_nonneg hv0
    clear hv hr4 hg4
    go_wp2_with fail
    go_ret
    refine ⟨_, rfl, ?_, ?_, Hr4.out.mono (by omega), Hg4.out⟩
    · omega
    · omega

set_option maxHeartbeats 2000000 in
theorem drawGoodsteinNext_any (a : Option Addr) (len cap : Nat) (w : World) (h : By w a len cap) : Calls Try.prog 20 #[.slice a len cap] w fun e w' => ∃ x y : Int, e = .returned (.tuple #[.int .i64 x, .int .i64 y]) ∧ 0 ≤ x ∧ x ≤ 1000000000 ∧ -1 ≤ y ∧ y ≤ 99 ∧ Below w.heap.size w w' := by
  have k0 := Lib.hid (open_any a len cap w h)
  obtain ⟨g, hg⟩ : ∃ g, g = w.heap.size := ⟨_, rfl⟩
  rw [← hg] at k0
  have Hg := Lib.hid hg
  clear hg h
  go_enter Try.func20, Try.ntmps20
  go_wp2_with fail
  refine (k0.out).mono ?_
  rintro ee w1 ⟨rfl, hr1, hb1⟩
  have Hb1 := Lib.hid hb1
  clear hb1
  have k1 := Lib.hid (l20Count_any g (0) w1 (by decide) hr1)
  clear hr1
  go_wp2_with fail
  refine (k1.out).mono ?_
  rintro ee w2 ⟨x, rfl, hx0, hx1, hr2, hg2⟩
  have Hg2 := Lib.hid hg2
  clear hg2
  have k2 := Lib.hid (l20Root_any g (0 + 6) w2 (by decide) hr2)
  clear hr2
  go_wp2_with fail
  refine (k2.out).mono ?_
  rintro ee w3 ⟨y, rfl, hy0, hy1, hr3, hg3⟩
  have Hg3 := Lib.hid (grownBy_trans Hg2.out hg3)
  clear hg3
  go_wp2_with fail
  go_ret2
  have hs1 : g ≤ w1.heap.size := by have h1 := Hb1.out.size; have h2 := Hg.out; omega
  exact ⟨x, y, rfl, hx0, hx1, hy0, hy1, by rw [← Hg.out]; exact Hb1.out.grown Hg3.out hs1 (fun k e => by cases e; exact Nat.le_refl _)⟩
set_option maxHeartbeats 2000000 in
theorem drawPlainNext_any (a : Option Addr) (len cap : Nat) (w : World) (h : By w a len cap) : Calls Try.prog 24 #[.slice a len cap] w fun e w' => ∃ x y : Int, e = .returned (.tuple #[.int .i64 x, .int .i64 y]) ∧ 0 ≤ x ∧ x ≤ 1000000000 ∧ -1 ≤ y ∧ y ≤ 99 ∧ Below w.heap.size w w' := by
  have k0 := Lib.hid (open_any a len cap w h)
  obtain ⟨g, hg⟩ : ∃ g, g = w.heap.size := ⟨_, rfl⟩
  rw [← hg] at k0
  have Hg := Lib.hid hg
  clear hg h
  go_enter Try.func24, Try.ntmps24
  go_wp2_with fail
  refine (k0.out).mono ?_
  rintro ee w1 ⟨rfl, hr1, hb1⟩
  have Hb1 := Lib.hid hb1
  clear hb1
  have k1 := Lib.hid (l20Count_any g (0) w1 (by decide) hr1)
  clear hr1
  go_wp2_with fail
  refine (k1.out).mono ?_
  rintro ee w2 ⟨x, rfl, hx0, hx1, hr2, hg2⟩
  have Hg2 := Lib.hid hg2
  clear hg2
  have k2 := Lib.hid (l20Root_any g (0 + 6) w2 (by decide) hr2)
  clear hr2
  go_wp2_with fail
  refine (k2.out).mono ?_
  rintro ee w3 ⟨y, rfl, hy0, hy1, hr3, hg3⟩
  have Hg3 := Lib.hid (grownBy_trans Hg2.out hg3)
  clear hg3
  go_wp2_with fail
  go_ret2
  have hs1 : g ≤ w1.heap.size := by have h1 := Hb1.out.size; have h2 := Hg.out; omega
  exact ⟨x, y, rfl, hx0, hx1, hy0, hy1, by rw [← Hg.out]; exact Hb1.out.grown Hg3.out hs1 (fun k e => by cases e; exact Nat.le_refl _)⟩
set_option maxHeartbeats 2000000 in
theorem drawChangeBase_any (a : Option Addr) (len cap : Nat) (w : World) (h : By w a len cap) : Calls Try.prog 17 #[.slice a len cap] w fun e w' => ∃ x y z : Int, e = .returned (.tuple #[.int .i64 x, .int .i64 y, .int .i64 z]) ∧ 0 ≤ x ∧ x ≤ 1000000000 ∧ -1 ≤ y ∧ y ≤ 99 ∧ -1 ≤ z ∧ z ≤ 99 ∧ Below w.heap.size w w' := by
  have k0 := Lib.hid (open_any a len cap w h)
  obtain ⟨g, hg⟩ : ∃ g, g = w.heap.size := ⟨_, rfl⟩
  rw [← hg] at k0
  have Hg := Lib.hid hg
  clear hg h
  go_enter Try.func17, Try.ntmps17
  go_wp2_with fail
  refine (k0.out).mono ?_
  rintro ee w1 ⟨rfl, hr1, hb1⟩
  have Hb1 := Lib.hid hb1
  clear hb1
  have k1 := Lib.hid (l20Count_any g (0) w1 (by decide) hr1)
  clear hr1
  go_wp2_with fail
  refine (k1.out).mono ?_
  rintro ee w2 ⟨x, rfl, hx0, hx1, hr2, hg2⟩
  have Hg2 := Lib.hid hg2
  clear hg2
  have k2 := Lib.hid (l20Root_any g (0 + 6) w2 (by decide) hr2)
  clear hr2
  go_wp2_with fail
  refine (k2.out).mono ?_
  rintro ee w3 ⟨y, rfl, hy0, hy1, hr3, hg3⟩
  have Hg3 := Lib.hid (grownBy_trans Hg2.out hg3)
  clear hg3
  have k3 := Lib.hid (l20Root_any g (0 + 6 + 4) w3 (by decide) hr3)
  clear hr3
  go_wp2_with fail
  refine (k3.out).mono ?_
  rintro ee w4 ⟨z, rfl, hz0, hz1, hr4, hg4⟩
  have Hg4 := Lib.hid (grownBy_trans Hg3.out hg4)
  clear hg4
  go_wp2_with fail
  go_ret3
  have hs1 : g ≤ w1.heap.size := by have h1 := Hb1.out.size; have h2 := Hg.out; omega
  exact ⟨x, y, z, rfl, hx0, hx1, hy0, hy1, hz0, hz1, by rw [← Hg.out]; exact Hb1.out.grown Hg4.out hs1 (fun k e => by cases e; exact Nat.le_refl _)⟩



end Go.Proofs.Ytaealfmgmonndaa
