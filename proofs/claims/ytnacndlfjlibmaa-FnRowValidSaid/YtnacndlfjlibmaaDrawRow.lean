/- What the laws of chapter 6 draw: lists. -/
import Derived.Test.YtnacndlfjlibmaaRawKit
import Derived.Test.YtnacndlfjlibmaaDraw0
import Derived.Deep.CutBlock
import Derived.Deep.DeepCutAuto
import Derived.Deep.LoopGhost
namespace Go.Proofs.Ytnacndlfjlibmaa
set_option maxRecDepth 100000
open Go.RowKit

/-- A list that was drawn. -/
def RowDrw (w : World) (g P : Nat) (e : Ending) (w' : World) : Prop :=
  ∃ (xs : List Int) (g' n c : Nat), n = xs.length ∧ e = .returned (.slice (some ⟨g', 0, none⟩) n c) ∧ w'.ownsRow w.heap.size 3 1 (.slice (some ⟨g', 0, none⟩) n c) n (ints xs) ∧
    n ≤ 6 ∧ RdOk w' g (P + 20) ∧ w.grownBy w' (some g)

def RwRel (w : World) (g P L k : Nat) (v7 v8 : Value) (wr : World) : Prop :=
  ∃ (i : Nat) (xs : List Int) (g1 c1 : Nat), v8 = .int .i64 i ∧ k + i = L ∧ xs.length = i ∧ v7 = .slice (some ⟨g1, 0, none⟩) i c1 ∧ wr.ownsRow w.heap.size 3 1 v7 i (ints xs) ∧ RdOk wr g (P + i) ∧ w.grownBy wr (some g)

theorem rw_fin {w w7 w8 : World} {g P n g' c : Nat} {xs : List Int} (h0 : w.grownBy w7 (some g)) (hg : w7.grownBy w8 none) (hr : RdOk w7 g (P + 20)) (hn : n = xs.length) (hl : n ≤ 6)
    (ho : w8.ownsRow w7.heap.size 3 1 (.slice (some ⟨g', 0, none⟩) n c) n (ints xs)) : RowDrw w g P (.returned (.slice (some ⟨g', 0, none⟩) n c)) w8 :=
  ⟨xs, g', n, c, hn, rfl, Joins.ownsRow_le ho h0.size, hl, hr.kept hg (fun k hk => by cases hk), grownBy_step h0 hg (fun k hk => by cases hk)⟩

set_option maxHeartbeats 4000000 in
theorem l20Row_any (g P L : Nat) (n : Int) (w : World) (hP : P ≤ 90000000) (hL1 : 1 ≤ L) (hL : L ≤ 6) (hn0 : 0 ≤ n) (hn1 : n ≤ 1000000) (hrd : RdOk w g P) :
    Calls Try.prog 58 #[.pointer (some ⟨g, 0, none⟩), .int .i64 L, .int .i64 n] w (RowDrw w g P) := by
  obtain ⟨i0, hi, hz0, hz1, hz2⟩ := info_parts info_int
  have hgl : g < w.heap.size := by obtain ⟨_, _, _, _, h1, _⟩ := hrd; exact (Array.getElem?_eq_some_iff.1 h1).1
  have hst : RwRel w g P L L (.slice (some ⟨w.heap.size, 0, none⟩) 0 0) (.int .i64 (0 : Nat)) (w.alloc (.cells #[] 3)) :=
    ⟨0, [], w.heap.size, 0, rfl, rfl, rfl, rfl, World.ownsRow_lit w #[] 0 (Nat.le_refl _) (by simp [maxLen]) rfl, hrd.kept (World.grownBy_alloc w _ none) (fun k hk => by cases hk), World.grownBy_alloc w _ _⟩
  have Hst := Lib.hid hst
  clear hrd hst
  go_enter Try.func58, Try.ntmps58
  go_wp2_with fail
  go_loopg [7, 8] L (fun k v7 v8 wr => RwRel w g P L k v7 v8 wr)
  case atStart => exact Hst.out
  case round =>
    obtain ⟨i, xs, g1, c1, rfl, hk, hxl, rfl, ho, hr, hg⟩ := hrel
    have Hk := Lib.hid hk
    have Hxl := Lib.hid hxl
    have Ho := Lib.hid ho
    have Hg := Lib.hid hg
    have hil : i ≤ L := by omega
    have hws : w.heap.size ≤ wr.heap.size := hg.size
    by_cases hlt : i < L
    · have kp := Lib.hid (pick_any g (P + i) 4 wr (by omega) (by decide) (by decide) hr)
      clear hk hxl ho hr hg
      go_wp2_with fail
      refine (kp.out).mono ?_
      rintro ee w2 ⟨x, rfl, hx, hrd2, hg2⟩
      have HoA := Lib.hid (own_rd Ho.out hg2 hgl)
      have HgA := Lib.hid (grownBy_trans Hg.out hg2)
      have Hrd2 := Lib.hid hrd2
      have hw2 : w.heap.size ≤ w2.heap.size := HgA.out.size
      clear hx hrd2 hg2
      go_wp2_with (first
        | (at_builtin; refine wpList_append_own _ rfl (.tmp 15) (.tmp 18) 23 rfl w.heap.size 3 i0 (.int .i64 0) 1 8 Try.underlying23 hi hz0 hz1 hz2 rfl (by decide) _ i (ints xs) rfl (HoA.out.alloc _) ⟨w2.heap.size, 0, none⟩ 1 1 [.int .i64 x] rfl rfl (cell_one_new _ _ _) (ints_oneCell _ [x]) (by unfold maxLen; omega) (by omega) (by simp; omega) ?_; intro v2' w3 ho3 hg3 _))
      obtain ⟨g6, c6, rfl⟩ := Joins.ownsRow_form ho3 (by omega)
      have hfin : RwRel w g P L (gk - 1) (.slice (some ⟨g6, 0, none⟩) (i + 1) c6) (.int .i64 ((i : Int) + 1)) w3 := by
        have hgB : w2.grownBy (w2.alloc (.cells #[.int .i64 x] 3)) none := World.grownBy_alloc w2 _ none
        have hrw : ∀ k, Value.ownBlock (.slice (some ⟨g1, 0, none⟩) i c1) = some k → w.heap.size ≤ k := fun k hk => (HoA.out.lt k hk).1
        refine ⟨i + 1, xs ++ [x], g6, c6, by go_num, by have := Hk.out; omega, by rw [List.length_append, Hxl.out]; rfl, rfl, by simpa [ints] using ho3, ?_, grownBy_step (grownBy_step HgA.out hgB (fun k hk => by cases hk)) hg3 (fun k hk => .inr (hrw k hk))⟩
        exact ((Hrd2.out.kept hgB (fun k hk => by cases hk)).kept hg3 (fun k hk => by have := hrw k hk; omega)).mono (by omega)
      have Hfin := Lib.hid hfin
      clear hfin ho3 hg3
      go_wp2_with fail
      go_roundg (gk - 1)
      case measure => have := Hk.out; omega
      case rel => exact Hfin.out
    · obtain rfl : i = L := by omega
      have ko := Lib.hid (odd_any g (P + i) n wr (by omega) (by omega) (by omega) hr)
      clear hk hxl ho hr hg
      go_wp2_with fail
      refine (ko.out).mono ?_
      rintro ee w6 ⟨b, rfl, hr6, hg6⟩
      have Hg6 := Lib.hid (grownBy_trans Hg.out hg6)
      have Ho6 := Lib.hid (own_rd Ho.out hg6 hgl)
      have Hr6 := Lib.hid hr6
      clear hr6 hg6
      cases b with
      | false =>
        go_wp2_with fail
        go_ret
        exact ⟨xs, g1, i, c1, Hxl.out.symm, rfl, Ho6.out, by omega, Hr6.out.mono (by omega), Hg6.out⟩
      | true =>
        have kp := Lib.hid (pick_any g (P + i + 1) 3 w6 (by omega) (by decide) (by decide) Hr6.out)
        go_wp2_with fail
        refine (kp.out).mono ?_
        rintro ee w7 ⟨r, rfl, hr7, hrd7, hg7⟩
        have hr70 := hr7.1
        have hr71 := hr7.2.1 (by decide)
        have Hg7 := Lib.hid (grownBy_trans Hg6.out hg7)
        have Ho7 := Lib.hid (own_rd Ho6.out hg7 hgl)
        have Hr7 := Lib.hid hrd7
        clear hr7 hrd7 hg7
        have hcase : r = 0 ∨ r = 1 ∨ r = 2 := by omega
        rcases hcase with rfl | rfl | rfl
        · go_wp2_with fail
          go_ret
          exact rw_fin (xs := []) Hg7.out (World.grownBy_alloc w7 _ none) (Hr7.out.mono (by omega)) rfl (by decide) (World.ownsRow_lit w7 #[] 0 (Nat.le_refl _) (by simp [maxLen]) rfl)
        · go_wp2_with (first
            | (at_make; refine wpList_make_full _ rfl (.const (.int .i64 6)) (.const (.int .i64 6)) 23 rfl w7.heap.size 3 i0 _ 1 Try.underlying23 hi hz0 hz1 .i64 .i64 _ _ 6 rfl rfl rfl rfl (by rw [hz2]; omega) (by unfold maxLen; omega) (Nat.le_refl _) ?_; intro w8 hown hg8))
          have ho8 : w8.ownsRow w7.heap.size 3 1 (.slice (some ⟨w7.heap.size, 0, none⟩) 6 6) 6 (ints [0, 0, 0, 0, 0, 0]) := by
            rw [show 6 * 1 = 6 from rfl, show (Value.int .i64 0).cells = #[Value.int .i64 0] from rfl, toList_madeCells_one] at hown
            exact hown
          have hfin := rw_fin (xs := [0, 0, 0, 0, 0, 0]) Hg7.out hg8 (Hr7.out.mono (show P + i + 1 + 1 ≤ P + 20 by omega)) rfl (by decide) ho8
          have Hfin := Lib.hid hfin
          clear hown hg8 ho8 hfin
          go_wp2_with fail
          go_ret
          exact Hfin.out
        · obtain ⟨W, hW⟩ : ∃ W, W = w7.alloc (.cells #[.int .i64 (-1), .int .i64 10000] 3) := ⟨_, rfl⟩
          have hgW : w7.grownBy W none := by rw [hW]; exact World.grownBy_alloc w7 _ none
          have hc0 : W.cell? ⟨w7.heap.size, 0, none⟩ = some (.int .i64 (-1)) := by rw [hW]; exact Joins.cell_alloc_mark_at _ _ _ _ _ _ rfl
          have hc1 : W.cell? ⟨w7.heap.size, 1, none⟩ = some (.int .i64 10000) := by rw [hW]; exact Joins.cell_alloc_mark_at _ _ _ _ _ _ rfl
          have hlW : w7.heap.size ≠ g := by have := Hg7.out.size; omega
          have HgW := Lib.hid (grownBy_step Hg7.out hgW (fun k hk => by cases hk))
          have HoW := Lib.hid (show W.ownsRow w.heap.size 3 1 (.slice (some ⟨g1, 0, none⟩) i c1) i (ints xs) by rw [hW]; exact Ho7.out.alloc _)
          have kp2 := Lib.hid (pick_any g (P + i + 1 + 1) 2 W (by omega) (by decide) (by decide) (Hr7.out.kept hgW (fun k hk => by cases hk)))
          have HW := Lib.hid hW.symm
          clear hW hgW
          have hi1 : 1 ≤ i := by omega
          go_wp2_with fail
          rw [HW.out]
          refine (kp2.out).mono ?_
          rintro ee w8 ⟨s, rfl, hs8, hrd8, hg8⟩
          have hs0 := hs8.1
          have hs1 := hs8.2.1 (by decide)
          have Hg8 := Lib.hid (grownBy_trans HgW.out hg8)
          have Ho8 := Lib.hid (own_rd HoW.out hg8 hgl)
          have Hr8 := Lib.hid hrd8
          have d0 := hg8.cell (a := ⟨w7.heap.size, 0, none⟩) hc0 (by simpa using hlW)
          have d1 := hg8.cell (a := ⟨w7.heap.size, 1, none⟩) hc1 (by simpa using hlW)
          clear hs8 hrd8 hg8 hc0 hc1
          have hf := Ho8.out.frozenAt 0
          have hcur : ∃ v, w8.cell? ⟨g1, 0, none⟩ = some v := by
            have h9 := Ho8.out.cellAt 0 (by omega)
            rw [ints_get xs 0 (by rw [Hxl.out]; omega)] at h9
            exact ⟨_, h9⟩
          obtain ⟨v0, hv0⟩ := hcur
          have hfin : ∀ z : Int, RowDrw w g P (.returned (.slice (some ⟨g1, 0, none⟩) i c1)) (w8.setCell ⟨g1, 0, none⟩ (.int .i64 z)) := by
            intro z
            have h7 := (Ho8.out.stored 0 (.int .i64 z)).1
            have hgg : w.heap.size ≤ g1 := (Ho8.out.lt g1 rfl).1
            have hset : w8.grownBy (w8.setCell ⟨g1, 0, none⟩ (.int .i64 z)) (some g1) :=
              ⟨rfl, rfl, rfl, by simp [World.setCell], fun k _ hk => heap_setCell_other w8 ⟨g1, 0, none⟩ k _ (fun e => hk (by simp [e]))⟩
            refine ⟨xs.set 0 z, g1, i, c1, by rw [List.length_set, Hxl.out], rfl, ?_, by omega, (Hr8.out.kept hset (fun k hk => by cases hk; omega)).mono (by omega), grownBy_step Hg8.out hset (fun k hk => by cases hk; exact .inr hgg)⟩
            have e9 : (ints xs).set 0 (.int .i64 z) = ints (xs.set 0 z) := by simp [ints, List.map_set]
            rw [← e9]
            exact h7
          have Hfin := Lib.hid hfin
          clear hfin
          have hcase2 : s = 0 ∨ s = 1 := by omega
          rcases hcase2 with rfl | rfl
          · go_wp2_with fail
            go_ret
            exact Hfin.out (-1)
          · go_wp2_with fail
            go_ret
            exact Hfin.out 10000

def RowDraw (w : World) (e : Ending) (w' : World) : Prop :=
  ∃ (xs : List Int) (g n c : Nat), n = xs.length ∧ e = .returned (.slice (some ⟨g, 0, none⟩) n c) ∧ w'.ownsRow w.heap.size 3 1 (.slice (some ⟨g, 0, none⟩) n c) n (ints xs) ∧ n ≤ 6 ∧ Below w.heap.size w w'

theorem row_draw {w w1 w2 : World} {xs : List Int} {g' n c : Nat} (hb : Below w.heap.size w w1) (hg : w1.grownBy w2 (some w.heap.size)) (hn : n = xs.length) (hl : n ≤ 6)
    (ho : w2.ownsRow w1.heap.size 3 1 (.slice (some ⟨g', 0, none⟩) n c) n (ints xs)) : RowDraw w (.returned (.slice (some ⟨g', 0, none⟩) n c)) w2 :=
  ⟨xs, g', n, c, hn, rfl, Joins.ownsRow_le ho hb.size, hl, hb.grown hg hb.size (fun k e => by cases e; exact Nat.le_refl _)⟩

set_option maxHeartbeats 2000000 in
theorem drawRowValid_any (a : Option Addr) (len cap : Nat) (w : World) (h : By w a len cap) : Calls Try.prog 14 #[.slice a len cap] w (RowDraw w) := by
  have k0 := Lib.hid (open_any a len cap w h)
  obtain ⟨g, hg⟩ : ∃ g, g = w.heap.size := ⟨_, rfl⟩
  rw [← hg] at k0
  have Hg := Lib.hid hg
  clear hg h
  go_enter Try.func14, Try.ntmps14
  go_wp2_with fail
  refine (k0.out).mono ?_
  rintro ee w1 ⟨rfl, hr1, hb1⟩
  have Hb1 := Lib.hid hb1
  have hws : w.heap.size ≤ w1.heap.size := hb1.size
  have hb1' := hb1
  clear hb1
  have k2 := Lib.hid (pick_any g 0 5 w1 (by decide) (by decide) (by decide) hr1)
  clear hr1
  go_wp2_with fail
  refine (k2.out).mono ?_
  rintro ee w2 ⟨r, rfl, hq2, hr2, hg2⟩
  have r0 := hq2.1
  have r1 := hq2.2.1 (by decide)
  obtain ⟨q, rfl⟩ := Int.eq_ofNat_of_zero_le r0
  have Hg2 := Lib.hid hg2
  have k3 := Lib.hid (l20Row_any g (0 + 1) (1 + q) 3 w2 (by decide) (by omega) (by omega) (by decide) (by decide) hr2)
  have eL : ((1 + q : Nat) : Int) = 1 + (q : Int) := by omega
  rw [eL] at k3
  clear hr2 hq2 hg2 eL hb1'
  go_wp2_with fail
  refine (k3.out).mono ?_
  rintro ee w3 ⟨xs, g', n, c, hn, rfl, ho, hl, hrd, hgr⟩
  have hp : RowDraw w (.returned (.slice (some ⟨g', 0, none⟩) n c)) w3 := row_draw (show Below w.heap.size w w1 by rw [← Hg.out]; exact Hb1.out) (by rw [← Hg.out]; exact grownBy_trans Hg2.out hgr) hn hl (Joins.ownsRow_le ho Hg2.out.size)
  have Hp := Lib.hid hp
  clear hp ho hrd hgr hn
  go_wp2_with fail
  go_ret
  exact Hp.out

set_option maxHeartbeats 2000000 in
theorem drawRowOrd_any (a : Option Addr) (len cap : Nat) (w : World) (h : By w a len cap) : Calls Try.prog 23 #[.slice a len cap] w (RowDraw w) := by
  have k0 := Lib.hid (open_any a len cap w h)
  obtain ⟨g, hg⟩ : ∃ g, g = w.heap.size := ⟨_, rfl⟩
  rw [← hg] at k0
  have Hg := Lib.hid hg
  clear hg h
  go_enter Try.func23, Try.ntmps23
  go_wp2_with fail
  refine (k0.out).mono ?_
  rintro ee w1 ⟨rfl, hr1, hb1⟩
  have Hb1 := Lib.hid hb1
  have hws : w.heap.size ≤ w1.heap.size := hb1.size
  have hb1' := hb1
  clear hb1
  have k2 := Lib.hid (pick_any g 0 5 w1 (by decide) (by decide) (by decide) hr1)
  clear hr1
  go_wp2_with fail
  refine (k2.out).mono ?_
  rintro ee w2 ⟨r, rfl, hq2, hr2, hg2⟩
  have r0 := hq2.1
  have r1 := hq2.2.1 (by decide)
  obtain ⟨q, rfl⟩ := Int.eq_ofNat_of_zero_le r0
  have Hg2 := Lib.hid hg2
  have k3 := Lib.hid (l20Row_any g (0 + 1) (1 + q) 9 w2 (by decide) (by omega) (by omega) (by decide) (by decide) hr2)
  have eL : ((1 + q : Nat) : Int) = 1 + (q : Int) := by omega
  rw [eL] at k3
  clear hr2 hq2 hg2 eL hb1'
  go_wp2_with fail
  refine (k3.out).mono ?_
  rintro ee w3 ⟨xs, g', n, c, hn, rfl, ho, hl, hrd, hgr⟩
  have hp : RowDraw w (.returned (.slice (some ⟨g', 0, none⟩) n c)) w3 := row_draw (show Below w.heap.size w w1 by rw [← Hg.out]; exact Hb1.out) (by rw [← Hg.out]; exact grownBy_trans Hg2.out hgr) hn hl (Joins.ownsRow_le ho Hg2.out.size)
  have Hp := Lib.hid hp
  clear hp ho hrd hgr hn
  go_wp2_with fail
  go_ret
  exact Hp.out


set_option maxHeartbeats 2000000 in
theorem drawRowCompare_any (a : Option Addr) (len cap : Nat) (w : World) (h : By w a len cap) : Calls Try.prog 18 #[.slice a len cap] w (fun e w' =>
    ∃ (xs ys : List Int) (g n c g2 n2 c2 : Nat), n = xs.length ∧ n2 = ys.length ∧ e = .returned (.tuple #[.slice (some ⟨g, 0, none⟩) n c, .slice (some ⟨g2, 0, none⟩) n2 c2]) ∧ w'.ownsRow w.heap.size 3 1 (.slice (some ⟨g, 0, none⟩) n c) n (ints xs) ∧
      w'.ownsRow w.heap.size 3 1 (.slice (some ⟨g2, 0, none⟩) n2 c2) n2 (ints ys) ∧ n ≤ 6 ∧ n2 ≤ 6 ∧ Below w.heap.size w w') := by
  have k0 := Lib.hid (open_any a len cap w h)
  obtain ⟨g, hg⟩ : ∃ g, g = w.heap.size := ⟨_, rfl⟩
  rw [← hg] at k0
  have Hg := Lib.hid hg
  clear hg h
  go_enter Try.func18, Try.ntmps18
  go_wp2_with fail
  refine (k0.out).mono ?_
  rintro ee w1 ⟨rfl, hr1, hb1⟩
  have Hb1 := Lib.hid (show Below w.heap.size w w1 by rw [← Hg.out]; exact hb1)
  have hgw1 : g < w1.heap.size := by obtain ⟨_, _, _, _, h1, _⟩ := hr1; exact (Array.getElem?_eq_some_iff.1 h1).1
  have k2 := Lib.hid (pick_any g 0 4 w1 (by decide) (by decide) (by decide) hr1)
  clear hr1 hb1
  go_wp2_with fail
  refine (k2.out).mono ?_
  rintro ee w2 ⟨r, rfl, hq, hr2, hg2⟩
  have r0 := hq.1
  have r1 := hq.2.1 (by decide)
  obtain ⟨q, rfl⟩ := Int.eq_ofNat_of_zero_le r0
  have Hg2 := Lib.hid hg2
  have k3 := Lib.hid (l20Row_any g (0 + 1) (1 + q) 12 w2 (by decide) (by omega) (by omega) (by decide) (by decide) hr2)
  have eL : ((1 + q : Nat) : Int) = 1 + (q : Int) := by omega
  rw [eL] at k3
  have hs2 : w1.heap.size ≤ w2.heap.size := hg2.size
  clear hr2 hq hg2 eL
  go_wp2_with fail
  refine (k3.out).mono ?_
  rintro ee w3 ⟨xs, g1, n, c, hn, rfl, ho, hl, hrd, hgr⟩
  have HO := Lib.hid ho
  have HN := Lib.hid hn
  have Hg3 := Lib.hid (grownBy_trans Hg2.out hgr)
  have k4 := Lib.hid (pick_any g (0 + 1 + 20) 12 w3 (by decide) (by decide) (by decide) hrd)
  clear ho hn hrd hgr
  go_wp2_with fail
  refine (k4.out).mono ?_
  rintro ee w4 ⟨s, rfl, hq4, hr4, hg4⟩
  have s0 := hq4.1
  have s1 := hq4.2.1 (by decide)
  obtain ⟨sn, rfl⟩ := Int.eq_ofNat_of_zero_le s0
  obtain ⟨d, hd⟩ : ∃ d, d = sn / 11 := ⟨_, rfl⟩
  have hd1 : d ≤ 1 := by omega
  have hdq : ((sn : Int)).tdiv 11 = (d : Int) := by rw [Int.tdiv_eq_ediv_of_nonneg (by omega), hd]; rfl
  have hdq2 : (sn : Int) / 11 = (d : Int) := by rw [hd]; rfl
  have HO4 := Lib.hid (own_rd HO.out hg4 (by omega))
  have Hg4 := Lib.hid (grownBy_trans Hg3.out hg4)
  have k5 := Lib.hid (l20Row_any g (0 + 1 + 20 + 1) (1 + q + d) 12 w4 (by decide) (by omega) (by omega) (by decide) (by decide) hr4)
  have eL : ((1 + q + d : Nat) : Int) = 1 + (q : Int) + (d : Int) := by omega
  rw [eL] at k5
  have hs4 : w2.heap.size ≤ w4.heap.size := by have := hg4.size; have := HO.out; have h1 := Hg3.out.size; have h2 := (HO.out.lt g1 rfl); omega
  clear hr4 hq4 hg4 eL hd
  go_wp2_with fail
  refine (k5.out).mono ?_
  rintro ee w5 ⟨ys, g2, n2, c2, hn2, rfl, ho2, hl2, hrd5, hgr5⟩
  have HO5 := Lib.hid (own_rd HO4.out hgr5 (by omega))
  have Hg5 := Lib.hid (grownBy_trans Hg4.out hgr5)
  have HO2 := Lib.hid (Joins.ownsRow_le ho2 (Nat.le_trans Hb1.out.size (Nat.le_trans hs2 hs4)))
  have HN2 := Lib.hid hn2
  have HB := Lib.hid (Hb1.out.grown Hg5.out Hb1.out.size (fun k e => by cases e; rw [Hg.out]; exact Nat.le_refl _))
  have HO6 := Lib.hid (Joins.ownsRow_le HO5.out (Nat.le_trans Hb1.out.size hs2))
  clear ho2 hrd5 hgr5 hn2
  go_wp2_with fail
  go_ret2
  exact ⟨xs, ys, g1, n, c, g2, n2, c2, HN.out, HN2.out, rfl, HO6.out, HO2.out, hl, hl2, HB.out⟩

end Go.Proofs.Ytnacndlfjlibmaa
