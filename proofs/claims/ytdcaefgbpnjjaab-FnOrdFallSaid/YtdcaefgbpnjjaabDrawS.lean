/- What the laws of chapter 3 draw. -/
import Derived.Test.YtdcaefgbpnjjaabDraw2
import Derived.Test.YtdcaefgbpnjjaabDrawL
namespace Go.Proofs.Ytdcaefgbpnjjaab
open Go.RowKit

set_option maxHeartbeats 1000000 in
theorem drawOrdMost_any (a : Option Addr) (len cap : Nat) (w : World) (h : By w a len cap) : Calls Try.prog 33 #[.slice a len cap] w (DrawPost w) := by
  have k0 := Lib.hid (open_any a len cap w h)
  obtain ⟨g, hg⟩ : ∃ g, g = w.heap.size := ⟨_, rfl⟩
  rw [← hg] at k0
  have Hg := Lib.hid hg
  clear hg h
  go_enter Try.func33, Try.ntmps33
  go_wp2_with fail
  refine (k0.out).mono ?_
  rintro ee w1 ⟨rfl, hr1, hb1⟩
  have Hb1 := Lib.hid hb1
  have k1 := Lib.hid (l20Ord_any g 0 9 w1 (by decide) (by decide) (by decide) hr1)
  clear hb1 hr1
  go_wp2_with fail
  refine (k1.out).mono ?_
  intro ee w2 hpost
  obtain ⟨v, he⟩ : ∃ v, ee = .returned v := by obtain ⟨_, g', n, c, _, h, _⟩ := hpost; exact ⟨_, h⟩
  subst he
  have Hp := Lib.hid hpost
  clear hpost
  go_wp2_with fail
  go_ret
  rw [Hg.out] at Hp
  exact Hp.out.draw (by rw [← Hg.out]; exact Hb1.out)
def NumPost (w : World) (g P : Nat) (e : Ending) (w' : World) : Prop :=
  ∃ v : Int, e = .returned (.int .i64 v) ∧ -7 ≤ v ∧ v ≤ 105 ∧ RdOk w' g (P + 3) ∧ w.grownBy w' (some g)

set_option maxHeartbeats 2000000 in
theorem l20Number_any (g P : Nat) (w : World) (hP : P ≤ 80000000) (hrd : RdOk w g P) :
    Calls Try.prog 45 #[.pointer (some ⟨g, 0, none⟩)] w (NumPost w g P) := by
  have hgl : g < w.heap.size := by obtain ⟨_, _, _, _, h1, _⟩ := hrd; exact (Array.getElem?_eq_some_iff.1 h1).1
  have k2 := Lib.hid (pick_any g P 6 w (by omega) (by decide) (by decide) hrd)
  clear hrd
  go_enter Try.func45, Try.ntmps45
  go_wp2_with fail
  refine (k2.out).mono ?_
  rintro ee w3 ⟨x2, rfl, hx2, hr3, hg3⟩
  have hx20 := hx2.1
  have hx21 := hx2.2.1 (by decide)
  have Hg3 := Lib.hid hg3
  have k3 := Lib.hid (pick_any g (P + 1) 30 w3 (by omega) (by decide) (by decide) hr3)
  clear hx2 hr3 hg3
  go_wp2_with fail
  refine (k3.out).mono ?_
  rintro ee w4 ⟨x3, rfl, hx3, hr4, hg4⟩
  have hx30 := hx3.1
  have hx31 := hx3.2.1 (by decide)
  have Hg4 := Lib.hid (grownBy_trans Hg3.out hg4)
  have k4 := Lib.hid (pick_any g (P + 1 + 1) 30 w4 (by omega) (by decide) (by decide) hr4)
  have hd0 : 0 ≤ x3 / 29 := by omega
  have hd1 : x3 / 29 ≤ 1 := by omega
  have q3 : x3.tdiv 29 = x3 / 29 := Int.tdiv_eq_ediv_of_nonneg hx30
  clear hx3 hr4 hg4
  go_wp2_with fail
  refine (k4.out).mono ?_
  rintro ee w5 ⟨x4, rfl, hx4, hr5, hg5⟩
  have hx40 := hx4.1
  have hx41 := hx4.2.1 (by decide)
  have Hg5 := Lib.hid (grownBy_trans Hg4.out hg5)
  have Hr5 := Lib.hid hr5
  have hd2 : 0 ≤ x4 / 29 := by omega
  have hd3 : x4 / 29 ≤ 1 := by omega
  have q4 : x4.tdiv 29 = x4 / 29 := Int.tdiv_eq_ediv_of_nonneg hx40
  clear hx4 hr5 hg5
  go_wp2_with fail
  go_ret
  refine ⟨_, rfl, ?_, ?_, Hr5.out.mono (by omega), Hg5.out⟩
  · omega
  · omega

def DrawNum (w : World) (e : Ending) (w' : World) : Prop :=
  ∃ (xs : List Int) (v : Int) (g n c : Nat), n = xs.length ∧ -7 ≤ v ∧ v ≤ 105 ∧ e = .returned (.tuple #[.slice (some ⟨g, 0, none⟩) n c, .int .i64 v]) ∧
    w'.ownsRow w.heap.size 3 1 (.slice (some ⟨g, 0, none⟩) n c) n (ints xs) ∧ n ≤ 200 ∧ Below w.heap.size w w'
set_option maxHeartbeats 2000000 in
theorem drawOrdStep_any (a : Option Addr) (len cap : Nat) (w : World) (h : By w a len cap) : Calls Try.prog 11 #[.slice a len cap] w (DrawNum w) := by
  have k0 := Lib.hid (open_any a len cap w h)
  obtain ⟨g, hg⟩ : ∃ g, g = w.heap.size := ⟨_, rfl⟩
  rw [← hg] at k0
  have Hg := Lib.hid hg
  clear hg h
  go_enter Try.func11, Try.ntmps11
  go_wp2_with fail
  refine (k0.out).mono ?_
  rintro ee w1 ⟨rfl, hr1, hb1⟩
  have Hb1 := Lib.hid hb1
  have hgl : g < w1.heap.size := by obtain ⟨_, _, _, _, h1, _⟩ := hr1; exact (Array.getElem?_eq_some_iff.1 h1).1
  have k1 := Lib.hid (l20Ord_any g 0 9 w1 (by decide) (by decide) (by decide) hr1)
  clear hb1 hr1
  go_wp2_with fail
  refine (k1.out).mono ?_
  rintro ee w2 ⟨xs, g1, n, c, hn, rfl, ho, hl, hr2, hg2⟩
  have Hn := Lib.hid hn
  have Ho2 := Lib.hid ho
  have Hg2 := Lib.hid hg2
  have k2 := Lib.hid (l20Number_any g (0 + 2000) w2 (by decide) hr2)
  clear hn ho hr2 hg2
  go_wp2_with fail
  refine (k2.out).mono ?_
  rintro ee w5 ⟨v, rfl, hv0, hv1, hr5, hg5⟩
  have Hg5 := Lib.hid (grownBy_trans Hg2.out hg5)
  have Ho5 := Lib.hid (own_rd Ho2.out hg5 hgl)
  clear hr5 hg5
  go_wp2_with fail
  go_ret2
  have hs1 : g ≤ w1.heap.size := by omega
  have hs2 : w.heap.size ≤ w1.heap.size := Hb1.out.size
  exact ⟨xs, v, g1, n, c, Hn.out, hv0, hv1, rfl, Joins.ownsRow_le Ho5.out hs2, hl, by rw [← Hg.out]; exact Hb1.out.grown Hg5.out hs1 (fun k e => by cases e; exact Nat.le_refl _)⟩
set_option maxHeartbeats 2000000 in
theorem drawSlowValue_any (a : Option Addr) (len cap : Nat) (w : World) (h : By w a len cap) : Calls Try.prog 31 #[.slice a len cap] w (DrawNum w) := by
  have k0 := Lib.hid (open_any a len cap w h)
  obtain ⟨g, hg⟩ : ∃ g, g = w.heap.size := ⟨_, rfl⟩
  rw [← hg] at k0
  have Hg := Lib.hid hg
  clear hg h
  go_enter Try.func31, Try.ntmps31
  go_wp2_with fail
  refine (k0.out).mono ?_
  rintro ee w1 ⟨rfl, hr1, hb1⟩
  have Hb1 := Lib.hid hb1
  have hgl : g < w1.heap.size := by obtain ⟨_, _, _, _, h1, _⟩ := hr1; exact (Array.getElem?_eq_some_iff.1 h1).1
  have k1 := Lib.hid (l20Ord_any g 0 9 w1 (by decide) (by decide) (by decide) hr1)
  clear hb1 hr1
  go_wp2_with fail
  refine (k1.out).mono ?_
  rintro ee w2 ⟨xs, g1, n, c, hn, rfl, ho, hl, hr2, hg2⟩
  have Hn := Lib.hid hn
  have Ho2 := Lib.hid ho
  have Hg2 := Lib.hid hg2
  have k2 := Lib.hid (l20Number_any g (0 + 2000) w2 (by decide) hr2)
  clear hn ho hr2 hg2
  go_wp2_with fail
  refine (k2.out).mono ?_
  rintro ee w5 ⟨v, rfl, hv0, hv1, hr5, hg5⟩
  have Hg5 := Lib.hid (grownBy_trans Hg2.out hg5)
  have Ho5 := Lib.hid (own_rd Ho2.out hg5 hgl)
  clear hr5 hg5
  go_wp2_with fail
  go_ret2
  have hs1 : g ≤ w1.heap.size := by omega
  have hs2 : w.heap.size ≤ w1.heap.size := Hb1.out.size
  exact ⟨xs, v, g1, n, c, Hn.out, hv0, hv1, rfl, Joins.ownsRow_le Ho5.out hs2, hl, by rw [← Hg.out]; exact Hb1.out.grown Hg5.out hs1 (fun k e => by cases e; exact Nat.le_refl _)⟩
set_option maxHeartbeats 2000000 in
theorem drawStepsDown_any (a : Option Addr) (len cap : Nat) (w : World) (h : By w a len cap) : Calls Try.prog 25 #[.slice a len cap] w (DrawNum w) := by
  have k0 := Lib.hid (open_any a len cap w h)
  obtain ⟨g, hg⟩ : ∃ g, g = w.heap.size := ⟨_, rfl⟩
  rw [← hg] at k0
  have Hg := Lib.hid hg
  clear hg h
  go_enter Try.func25, Try.ntmps25
  go_wp2_with fail
  refine (k0.out).mono ?_
  rintro ee w1 ⟨rfl, hr1, hb1⟩
  have Hb1 := Lib.hid hb1
  have hgl : g < w1.heap.size := by obtain ⟨_, _, _, _, h1, _⟩ := hr1; exact (Array.getElem?_eq_some_iff.1 h1).1
  have k1 := Lib.hid (l20Little_any g 0 9 w1 (by decide) (by decide) (by decide) hr1)
  clear hb1 hr1
  go_wp2_with fail
  refine (k1.out).mono ?_
  rintro ee w2 ⟨xs, g1, n, c, hn, rfl, ho, hl, hr2, hg2⟩
  have Hn := Lib.hid hn
  have Ho2 := Lib.hid ho
  have Hg2 := Lib.hid hg2
  have k2 := Lib.hid (l20Number_any g (0 + 2100) w2 (by decide) hr2)
  clear hn ho hr2 hg2
  go_wp2_with fail
  refine (k2.out).mono ?_
  rintro ee w5 ⟨v, rfl, hv0, hv1, hr5, hg5⟩
  have Hg5 := Lib.hid (grownBy_trans Hg2.out hg5)
  have Ho5 := Lib.hid (own_rd Ho2.out hg5 hgl)
  clear hr5 hg5
  go_wp2_with fail
  go_ret2
  have hs1 : g ≤ w1.heap.size := by omega
  have hs2 : w.heap.size ≤ w1.heap.size := Hb1.out.size
  exact ⟨xs, v, g1, n, c, Hn.out, hv0, hv1, rfl, Joins.ownsRow_le Ho5.out hs2, hl, by rw [← Hg.out]; exact Hb1.out.grown Hg5.out hs1 (fun k e => by cases e; exact Nat.le_refl _)⟩
end Go.Proofs.Ytdcaefgbpnjjaab
