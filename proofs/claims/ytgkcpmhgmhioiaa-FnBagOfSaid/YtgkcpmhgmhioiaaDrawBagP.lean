/- What FnBagOf draws. -/
import Derived.Test.YtgkcpmhgmhioiaaBagO
import Derived.Test.YtgkcpmhgmhioiaaRawKit
import Derived.Test.YtgkcpmhgmhioiaaDrawBagK
import Derived.Test.YtgkcpmhgmhioiaaDraw0
import Derived.Deep.CutBlock
import Derived.Deep.DeepCutAuto
import Derived.Deep.LoopGhost
namespace Go.Proofs.Ytgkcpmhgmhioiaa
set_option maxRecDepth 100000
open Go.RowKit

def BoDraw (w : World) (g : Nat) (v4 v5 : Value) (wr : World) : Prop :=
  ∃ (j k : Nat) (xs : List Int) (g1 c1 : Nat), v5 = .int .i64 j ∧ j + k ≤ 21 ∧ xs.length = k ∧ v4 = .slice (some ⟨g1, 0, none⟩) k c1 ∧ wr.ownsRow w.heap.size 3 1 v4 k (ints xs) ∧ RdOk wr g (2 + 2 * k) ∧ w.grownBy wr (some g)

set_option maxHeartbeats 4000000 in
theorem drawBagOf_any (a : Option Addr) (len cap : Nat) (w : World) (h : By w a len cap) : Calls Try.prog 23 #[.slice a len cap] w (fun e w' =>
    ∃ (xs : List Int) (g n c : Nat), n = xs.length ∧ e = .returned (.slice (some ⟨g, 0, none⟩) n c) ∧ w'.ownsRow w.heap.size 3 1 (.slice (some ⟨g, 0, none⟩) n c) n (ints xs) ∧ n ≤ 200 ∧ Below w.heap.size w w') := by
  obtain ⟨i0, hi, hz0, hz1, hz2⟩ := info_parts info_int
  have k0 := Lib.hid (open_any a len cap w h)
  obtain ⟨g, hg⟩ : ∃ g, g = w.heap.size := ⟨_, rfl⟩
  rw [← hg] at k0
  have Hg0 := Lib.hid hg
  clear hg h
  go_enter Try.func23, Try.ntmps23
  go_wp2_with fail
  refine (k0.out).mono ?_
  rintro ee w1 ⟨rfl, hr1, hb1⟩
  have Hb1 := Lib.hid (show Below w.heap.size w w1 by rw [← Hg0.out]; exact hb1)
  have hgl : g < w1.heap.size := by obtain ⟨_, _, _, _, h1, _⟩ := hr1; exact (Array.getElem?_eq_some_iff.1 h1).1
  obtain ⟨W, hW⟩ : ∃ W, W = w1.alloc (.cells #[] 3) := ⟨_, rfl⟩
  have hgW : w1.grownBy W (some g) := by rw [hW]; exact World.grownBy_alloc w1 _ _
  have hoW : W.ownsRow w1.heap.size 3 1 (.slice (some ⟨w1.heap.size, 0, none⟩) 0 0) 0 (ints []) := by rw [hW]; exact World.ownsRow_lit w1 #[] 0 (Nat.le_refl _) (by simp [maxLen]) rfl
  have hrW : RdOk W g 0 := by rw [hW]; exact hr1.kept (World.grownBy_alloc w1 _ none) (fun k hk => by cases hk)
  have kp := Lib.hid (pick_any g 0 10 W (by omega) (by decide) (by decide) hrW)
  have HgW := Lib.hid hgW
  have HoW := Lib.hid hoW
  have HWe := Lib.hid hW.symm
  clear hr1 hb1 hW hgW hoW hrW
  go_wp2_with fail
  rw [HWe.out]
  refine (kp.out).mono ?_
  rintro ee w2 ⟨r, rfl, hr, hr2, hg2⟩
  obtain ⟨j0, rfl⟩ := Int.eq_ofNat_of_zero_le hr.1
  have hj0 : j0 ≤ 9 := by have := hr.2.1 (by decide); omega
  have kq := Lib.hid (pick_any g (0 + 1) 20 w2 (by omega) (by decide) (by decide) hr2)
  have Hg2 := Lib.hid (grownBy_trans HgW.out hg2)
  have Ho2 := Lib.hid (own_rd HoW.out hg2 hgl)
  clear hr hr2 hg2
  go_wp2_with fail
  refine (kq.out).mono ?_
  rintro ee w3 ⟨x2, rfl, hx2, hr3, hg3⟩
  have x20 := hx2.1
  have x21 := hx2.2.1 (by decide)
  obtain ⟨un, rfl⟩ := Int.eq_ofNat_of_zero_le x20
  have hdd : ∃ d : Nat, d ≤ 1 ∧ ((un : Int)).tdiv 19 = (d : Int) ∧ (un : Int) / 19 = (d : Int) := by
    refine ⟨un / 19, by omega, ?_, rfl⟩
    rw [Int.tdiv_eq_ediv_of_nonneg (by omega)]
    rfl
  obtain ⟨d, hd01, hdq, hdq2⟩ := hdd
  have Hst := Lib.hid (show BoDraw w1 g (.slice (some ⟨w1.heap.size, 0, none⟩) 0 0) (.int .i64 ((j0 : Int) + (d : Int) * 12)) w3 from ⟨j0 + d * 12, 0, [], _, 0, rfl, by omega, rfl, rfl, own_rd Ho2.out hg3 hgl, hr3.mono (by omega), grownBy_trans Hg2.out hg3⟩)
  clear hx2 hr3 hg3
  go_wp2_with fail
  go_loopw [4, 5] (fun v4 v5 wr => BoDraw w1 g v4 v5 wr) (fun _ v5 _ => (intOf v5).toNat)
  case atStart => exact Hst.out
  case round =>
    obtain ⟨j, k, xs, g1, c1, rfl, hjk, hxl, rfl, ho, hr, hg⟩ := hrel
    obtain ⟨wA, rfl⟩ : ∃ wA : World, wA = wr := ⟨_, rfl⟩
    have Hxl := Lib.hid hxl
    have Ho := Lib.hid ho
    have Hg := Lib.hid hg
    have hws : w1.heap.size ≤ wA.heap.size := hg.size
    by_cases hj : 0 < j
    · obtain ⟨j1, rfl⟩ : ∃ j1, j = j1 + 1 := ⟨j - 1, by omega⟩
      have k1 := Lib.hid (pick_any g (2 + 2 * k) 10 wA (by omega) (by decide) (by decide) hr)
      clear hxl ho hr hg
      go_wp2_with fail
      refine (k1.out).mono ?_
      rintro ee w5 ⟨x1, rfl, hx1, hr5, hg5⟩
      have x10 := hx1.1
      have x11 := hx1.2.1 (by decide)
      have k2 := Lib.hid (pick_any g (2 + 2 * k + 1) 90 w5 (by omega) (by decide) (by decide) hr5)
      have Ho5 := Lib.hid (own_rd Ho.out hg5 hgl)
      have Hg5 := Lib.hid (grownBy_trans Hg.out hg5)
      clear hx1 hr5 hg5
      go_wp2_with fail
      refine (k2.out).mono ?_
      rintro ee w4 ⟨x3, rfl, hx3, hr4, hg4⟩
      have x30 := hx3.1
      have x31 := hx3.2.1 (by decide)
      obtain ⟨ub, rfl⟩ := Int.eq_ofNat_of_zero_le x30
      have Ho4 := Lib.hid (own_rd Ho5.out hg4 hgl)
      have Hg4 := Lib.hid (grownBy_trans Hg5.out hg4)
      have Hr4 := Lib.hid hr4
      have hw4 : w1.heap.size ≤ w4.heap.size := Hg4.out.size
      have hee : ∃ f : Nat, (f = 0 ∨ f = 1) ∧ ((ub : Int)).tdiv 89 = (f : Int) ∧ (ub : Int) / 89 = (f : Int) := by
        refine ⟨ub / 89, by omega, ?_, rfl⟩
        rw [Int.tdiv_eq_ediv_of_nonneg (by omega)]
        rfl
      obtain ⟨f, hf01, hfq, hfq2⟩ := hee
      clear hx3 hr4 hg4
      rcases hf01 with rfl | rfl
      · go_wp2_with (first
          | (at_builtin; go_loud (refine wpList_append_own _ rfl (.tmp 20) (.tmp 27) 23 rfl w1.heap.size 3 i0 (.int .i64 0) 1 8 Try.underlying23 hi hz0 hz1 hz2 rfl (by decide) _ k (ints xs) (by rfl) (Ho4.out.alloc _) ⟨w4.heap.size, 0, none⟩ 1 1 [.int .i64 _] (by rfl) (by rfl) (cell_one_new _ _ _) (ints_oneCell _ [_]) (by unfold maxLen; omega) (by omega) (by simp; omega) ?_; intro v2' w5 ho5 hg5 _; obtain ⟨g6, c6, rfl⟩ := Joins.ownsRow_form ho5 (by omega))))
        have hfin : BoDraw w1 g (.slice (some ⟨g6, 0, none⟩) (k + 1) c6) (.int .i64 (j1 : Int)) w5 := by
          have hrw : ∀ k', Value.ownBlock (.slice (some ⟨g1, 0, none⟩) k c1) = some k' → w1.heap.size ≤ k' := fun k' hk => (Ho4.out.lt k' hk).1
          refine ⟨j1, k + 1, xs ++ [x1], g6, c6, rfl, by omega, by rw [List.length_append, Hxl.out]; rfl, rfl, by simpa [ints] using ho5, ?_, grownBy_step (grownBy_step Hg4.out (World.grownBy_alloc w4 _ none) (fun k hk => by cases hk)) hg5 (fun k hk => .inr (hrw k hk))⟩
          exact ((Hr4.out.kept (World.grownBy_alloc w4 _ none) (fun k hk => by cases hk)).kept hg5 (fun k hk => by have := hrw k hk; omega)).mono (by omega)
        have Hfin := Lib.hid hfin
        clear hfin ho5 hg5
        go_wp2_with fail
        go_roundw
        case rel => have h9 := Hfin.out; simpa using h9
        case measure => simp [intOf] <;> omega
      · go_wp2_with (first
          | (at_builtin; go_loud (refine wpList_append_own _ rfl (.tmp 20) (.tmp 27) 23 rfl w1.heap.size 3 i0 (.int .i64 0) 1 8 Try.underlying23 hi hz0 hz1 hz2 rfl (by decide) _ k (ints xs) (by rfl) (Ho4.out.alloc _) ⟨w4.heap.size, 0, none⟩ 1 1 [.int .i64 _] (by rfl) (by rfl) (cell_one_new _ _ _) (ints_oneCell _ [_]) (by unfold maxLen; omega) (by omega) (by simp; omega) ?_; intro v2' w5 ho5 hg5 _; obtain ⟨g6, c6, rfl⟩ := Joins.ownsRow_form ho5 (by omega))))
        have hfin : BoDraw w1 g (.slice (some ⟨g6, 0, none⟩) (k + 1) c6) (.int .i64 (j1 : Int)) w5 := by
          have hrw : ∀ k', Value.ownBlock (.slice (some ⟨g1, 0, none⟩) k c1) = some k' → w1.heap.size ≤ k' := fun k' hk => (Ho4.out.lt k' hk).1
          refine ⟨j1, k + 1, xs ++ [x1 + 1], g6, c6, rfl, by omega, by rw [List.length_append, Hxl.out]; rfl, rfl, by simpa [ints] using ho5, ?_, grownBy_step (grownBy_step Hg4.out (World.grownBy_alloc w4 _ none) (fun k hk => by cases hk)) hg5 (fun k hk => .inr (hrw k hk))⟩
          exact ((Hr4.out.kept (World.grownBy_alloc w4 _ none) (fun k hk => by cases hk)).kept hg5 (fun k hk => by have := hrw k hk; omega)).mono (by omega)
        have Hfin := Lib.hid hfin
        clear hfin ho5 hg5
        go_wp2_with fail
        go_roundw
        case rel => have h9 := Hfin.out; simpa using h9
        case measure => simp [intOf] <;> omega
    · obtain rfl : j = 0 := by omega
      have HN := Lib.hid hxl.symm
      have HO := Lib.hid (Joins.ownsRow_le ho Hb1.out.size)
      have HB := Lib.hid (Hb1.out.grown hg Hb1.out.size (fun k e => by cases e; rw [Hg0.out]; exact Nat.le_refl _))
      clear hxl ho hr hg
      go_wp2_with fail
      go_ret
      exact ⟨xs, g1, k, c1, HN.out, rfl, HO.out, by omega, HB.out⟩

end Go.Proofs.Ytgkcpmhgmhioiaa
