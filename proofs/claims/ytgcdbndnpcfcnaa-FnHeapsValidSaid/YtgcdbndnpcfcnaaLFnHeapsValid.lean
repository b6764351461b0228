/- FnHeapsValid: the walk of the law. -/
import Derived.Test.YtgcdbndnpcfcnaaDrawTu
namespace Go.Proofs.Ytgcdbndnpcfcnaa
set_option maxRecDepth 100000
open Go.RowKit

set_option maxHeartbeats 4000000 in
theorem fnHeapsValid_walk (a : Option Addr) (len cap : Nat) (w : World) (h : By w a len cap) :
    Calls Try.prog 5 #[.slice a len cap] w fun e w' => e = .returned (.bool true) ∧ Below w.heap.size w w' := by
  have hlm : len ≤ 9223372036854775807 := by have := h.1; have := h.2.1; unfold maxLen at this; omega
  by_cases hbig : 1048576 < len
  · clear h
    go_enter Try.func5, Try.ntmps5
    go_wp2_with fail
    go_ret
    exact ⟨rfl, Below.refl _ _⟩
  have k0 := Lib.hid (drawHeapsValid_any a len cap w h)
  clear h
  obtain ⟨i0, hi, hz0, hz1, hz2⟩ := info_parts info_int
  go_enter Try.func5, Try.ntmps5
  go_wp2_with fail
  refine (k0.out).mono ?_
  rintro ee w1 ⟨xs, g, n, c, hn, rfl, ho, hl, hb0⟩
  have k1 := Lib.hid (impl_HeapsValid (some ⟨g, 0, none⟩) n c xs w1 (by omega) (Sl.of_own ho))
  have k2 := Lib.hid (spec_HeapsValid (some ⟨g, 0, none⟩) n c xs w1 (Sl.of_own ho))
  obtain ⟨v, hv⟩ : ∃ v, v = listB 40 xs := ⟨_, rfl⟩
  rw [← hv] at k1 k2
  have Hv := Lib.hid hv
  have Hn := Lib.hid hn
  have Hb0 := Lib.hid hb0
  have hne : (v != v) = false := by simp
  have h33 : v = true → n = 3 := fun h => by rw [hn]; rw [hv] at h; exact (listB_true.1 h).1
  have H33 := Lib.hid h33
  clear hv hn ho hb0 h33
  go_wp2_with fail
  refine (k1.out).mono ?_
  rintro ee wx ⟨rfl, rfl⟩
  go_wp2_with fail
  refine (k2.out).mono ?_
  rintro ee wx ⟨rfl, rfl⟩
  go_wp2_with (first
    | (at_make; refine wpList_make_full _ rfl (.const (.int .i64 3)) (.const (.int .i64 3)) 23 rfl w1.heap.size 3 i0 _ 1 Try.underlying23 hi hz0 hz1 .i64 .i64 _ _ 3 rfl rfl rfl rfl (by rw [hz2]; omega) (by unfold maxLen; omega) (Nat.le_refl _) ?_; intro wm hown hgm))
  have hbm := (Below.refl w1.heap.size w1).grown hgm (Nat.le_refl _) (fun k hk => by cases hk)
  have hom : wm.ownsRow w1.heap.size 3 1 (.slice (some ⟨w1.heap.size, 0, none⟩) 3 3) 3 (ints [0, 0, 0]) := by
    rw [show 3 * 1 = 3 from rfl, show (Value.int .i64 0).cells = #[Value.int .i64 0] from rfl, toList_madeCells_one] at hown
    exact hown
  have Hbm := Lib.hid (Hb0.out.trans (hbm.mono Hb0.out.size))
  have k3 := Lib.hid (impl_HeapsValid (some ⟨w1.heap.size, 0, none⟩) 3 3 [0, 0, 0] wm (by omega) (Sl.of_own hom))
  rw [show listB 40 [0, 0, 0] = true by decide] at k3
  have k4 := Lib.hid (alive_any wm)
  clear hown hgm hbm hom
  cases v with
  | true =>
    obtain rfl : n = 3 := H33.out rfl
    go_wp2_with fail
    refine (k3.out).mono ?_
    rintro ee wx ⟨rfl, rfl⟩
    go_wp2_with fail
    refine (k4.out).mono ?_
    rintro ee w4 ⟨rfl, hb4⟩
    have Hb4 := Lib.hid (Hbm.out.trans (hb4.mono Hbm.out.size))
    clear hb4
    go_wp2_with fail
    go_ret
    exact ⟨rfl, Hb4.out⟩
  | false =>
    go_wp2_with fail
    refine (k3.out).mono ?_
    rintro ee wx ⟨rfl, rfl⟩
    go_wp2_with fail
    refine (k4.out).mono ?_
    rintro ee w4 ⟨rfl, hb4⟩
    have Hb4 := Lib.hid (Hbm.out.trans (hb4.mono Hbm.out.size))
    clear hb4
    go_wp2_with fail
    go_ret
    exact ⟨rfl, Hb4.out⟩

end Go.Proofs.Ytgcdbndnpcfcnaa
