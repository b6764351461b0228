/- What the laws of chapter 6 draw: multisets. -/
import Derived.Test.YtobiaglmfdfepaaBagO
import Derived.Test.YtobiaglmfdfepaaRawKit
import Derived.Test.YtobiaglmfdfepaaDraw0
import Derived.Deep.CutBlock
import Derived.Deep.DeepCutAuto
import Derived.Deep.LoopGhost
namespace Go.Proofs.Ytobiaglmfdfepaa
set_option maxRecDepth 100000
open Go.RowKit

def BagDrw (w : World) (g P : Nat) (e : Ending) (w' : World) : Prop :=
  ∃ (xs : List Int) (g' n c : Nat), n = xs.length ∧ e = .returned (.slice (some ⟨g', 0, none⟩) n c) ∧ w'.ownsRow w.heap.size 3 1 (.slice (some ⟨g', 0, none⟩) n c) n (ints xs) ∧
    n ≤ 200 ∧ RdOk w' g (P + 60) ∧ w.grownBy w' (some g)

def BgDraw (w : World) (g P : Nat) (v5 v6 : Value) (wr : World) : Prop :=
  ∃ (j k : Nat) (xs : List Int) (g1 c1 : Nat), v6 = .int .i64 j ∧ j + k ≤ 6 ∧ xs.length = k ∧ v5 = .slice (some ⟨g1, 0, none⟩) k c1 ∧ wr.ownsRow w.heap.size 3 1 v5 k (ints xs) ∧ RdOk wr g (P + 1 + 3 * k) ∧ w.grownBy wr (some g)

theorem bg_news {w : World} {B e n b c : Nat} {xs : List Value} {o : Obj} (ho : w.ownsRow B e 1 (.slice (some ⟨b, 0, none⟩) n c) n xs) :
    ∀ j x, xs[j]? = some x → (w.alloc o).cell? ((⟨b, 0, none⟩ : Addr).add j) = some x := by
  intro j x hx
  have hj : j < xs.length := (List.getElem?_eq_some_iff.1 hx).1
  have hl := ho.1
  rw [Addr.add_lit, Nat.zero_add, World.cell?_alloc_past _ _ _ (ho.lt b rfl).2, ho.cellAt j (by omega)]
  exact hx
theorem bg_one (xs : List Int) (z : Int) : ∀ u ∈ ints xs ++ [.int .i64 z], u.oneCell' = true := by
  intro u hu
  rcases List.mem_append.1 hu with h9 | h9
  · exact ints_one xs u h9
  · simp at h9
    subst h9
    rfl
theorem bg_news0 {w : World} {B e n b c : Nat} {xs : List Value} (ho : w.ownsRow B e 1 (.slice (some ⟨b, 0, none⟩) n c) n xs) :
    ∀ j x, xs[j]? = some x → w.cell? ((⟨b, 0, none⟩ : Addr).add j) = some x := by
  intro j x hx
  have hj : j < xs.length := (List.getElem?_eq_some_iff.1 hx).1
  have hl := ho.1
  rw [Addr.add_lit, Nat.zero_add, ho.cellAt j (by omega)]
  exact hx

set_option maxHeartbeats 4000000 in
theorem l20Bag_any (g P : Nat) (n : Int) (w : World) (hP : P ≤ 90000000) (hn0 : 0 ≤ n) (hn1 : n ≤ 1000000) (hrd : RdOk w g P) :
    Calls Try.prog 49 #[.pointer (some ⟨g, 0, none⟩), .int .i64 n] w (BagDrw w g P) := by
  obtain ⟨i0, hi, hz0, hz1, hz2⟩ := info_parts info_int
  have hgl : g < w.heap.size := by obtain ⟨_, _, _, _, h1, _⟩ := hrd; exact (Array.getElem?_eq_some_iff.1 h1).1
  obtain ⟨W, hW⟩ : ∃ W, W = w.alloc (.cells #[] 3) := ⟨_, rfl⟩
  have hgW : w.grownBy W (some g) := by rw [hW]; exact World.grownBy_alloc w _ _
  have hoW : W.ownsRow w.heap.size 3 1 (.slice (some ⟨w.heap.size, 0, none⟩) 0 0) 0 (ints []) := by rw [hW]; exact World.ownsRow_lit w #[] 0 (Nat.le_refl _) (by simp [maxLen]) rfl
  have hrW : RdOk W g P := by rw [hW]; exact hrd.kept (World.grownBy_alloc w _ none) (fun k hk => by cases hk)
  have kp := Lib.hid (pick_any g P 7 W (by omega) (by decide) (by decide) hrW)
  have HgW := Lib.hid hgW
  have HoW := Lib.hid hoW
  have HWe := Lib.hid hW.symm
  clear hrd hW hgW hoW hrW
  go_enter Try.func49, Try.ntmps49
  go_wp2_with fail
  rw [HWe.out]
  refine (kp.out).mono ?_
  rintro ee w1 ⟨r, rfl, hr, hr1, hg1⟩
  obtain ⟨j0, rfl⟩ := Int.eq_ofNat_of_zero_le hr.1
  have hj0 : j0 ≤ 6 := by have := hr.2.1 (by decide); omega
  have Hst := Lib.hid (show BgDraw w g P (.slice (some ⟨w.heap.size, 0, none⟩) 0 0) (.int .i64 (j0 : Int)) w1 from ⟨j0, 0, [], _, 0, rfl, by omega, rfl, rfl, own_rd HoW.out hg1 hgl, hr1.mono (by omega), grownBy_trans HgW.out hg1⟩)
  clear hr hr1 hg1
  go_wp2_with fail
  go_loopw [5, 6] (fun v5 v6 wr => BgDraw w g P v5 v6 wr) (fun _ v6 _ => (intOf v6).toNat)
  case atStart => exact Hst.out
  case round =>
    obtain ⟨j, k, xs, g1, c1, rfl, hjk, hxl, rfl, ho, hr, hg⟩ := hrel
    obtain ⟨wA, rfl⟩ : ∃ wA : World, wA = wr := ⟨_, rfl⟩
    have Hxl := Lib.hid hxl
    have Ho := Lib.hid ho
    have Hg := Lib.hid hg
    have hws : w.heap.size ≤ wA.heap.size := hg.size
    by_cases hj : 0 < j
    · obtain ⟨j1, rfl⟩ : ∃ j1, j = j1 + 1 := ⟨j - 1, by omega⟩
      have k1 := Lib.hid (pick_any g (P + 1 + 3 * k) 6 wA (by omega) (by decide) (by decide) hr)
      clear hxl ho hr hg
      go_wp2_with fail
      refine (k1.out).mono ?_
      rintro ee w2 ⟨x1, rfl, hx1, hr2, hg2⟩
      have x10 := hx1.1
      have x11 := hx1.2.1 (by decide)
      have k2 := Lib.hid (pick_any g (P + 1 + 3 * k + 1) 9 w2 (by omega) (by decide) (by decide) hr2)
      have Ho2 := Lib.hid (own_rd Ho.out hg2 hgl)
      have Hg2 := Lib.hid (grownBy_trans Hg.out hg2)
      clear hx1 hr2 hg2
      go_wp2_with fail
      refine (k2.out).mono ?_
      rintro ee w3 ⟨x2, rfl, hx2, hr3, hg3⟩
      have x20 := hx2.1
      have x21 := hx2.2.1 (by decide)
      obtain ⟨un, rfl⟩ := Int.eq_ofNat_of_zero_le x20
      have k3 := Lib.hid (pick_any g (P + 1 + 3 * k + 1 + 1) 4 w3 (by omega) (by decide) (by decide) hr3)
      have Ho3 := Lib.hid (own_rd Ho2.out hg3 hgl)
      have Hg3 := Lib.hid (grownBy_trans Hg2.out hg3)
      have hdd : ∃ d : Nat, (d = 0 ∨ d = 1) ∧ ((un : Int)).tdiv 8 = (d : Int) ∧ (un : Int) / 8 = (d : Int) := by
        refine ⟨un / 8, by omega, ?_, rfl⟩
        rw [Int.tdiv_eq_ediv_of_nonneg (by omega)]
        rfl
      obtain ⟨d, hd01, hdq, hdq2⟩ := hdd
      clear hx2 hr3 hg3
      rcases hd01 with rfl | rfl
      all_goals
        go_wp2_with fail
        refine (k3.out).mono ?_
        rintro ee w4 ⟨x3, rfl, hx3, hr4, hg4⟩
        have x30 := hx3.1
        have x31 := hx3.2.1 (by decide)
        have Ho4 := Lib.hid (own_rd Ho3.out hg4 hgl)
        have Hg4 := Lib.hid (grownBy_trans Hg3.out hg4)
        have Hr4 := Lib.hid hr4
        have hw4 : w.heap.size ≤ w4.heap.size := Hg4.out.size
        clear hx3 hr4 hg4
      · go_wp2_with (first
          | (at_builtin; refine wpList_append_own _ rfl (.tmp 15) (.tmp 25) 23 rfl w.heap.size 3 i0 (.int .i64 0) 1 8 Try.underlying23 hi hz0 hz1 hz2 rfl (by decide) _ k (ints xs) (by rfl) (Ho4.out.alloc _) ⟨w4.heap.size, 0, none⟩ 1 1 [.int .i64 _] (by rfl) (by rfl) (cell_one_new _ _ _) (ints_oneCell _ [_]) (by unfold maxLen; omega) (by omega) (by simp; omega) ?_; intro v2' w5 ho5 hg5 _; obtain ⟨g6, c6, rfl⟩ := Joins.ownsRow_form ho5 (by omega)))
        have hfin : BgDraw w g P (.slice (some ⟨g6, 0, none⟩) (k + 1) c6) (.int .i64 (j1 : Int)) w5 := by
          have hgB := World.grownBy_alloc w4 (.cells #[.int .i64 x1] 3) none
          have hrw : ∀ k', Value.ownBlock (.slice (some ⟨g1, 0, none⟩) k c1) = some k' → w.heap.size ≤ k' := fun k' hk => (Ho4.out.lt k' hk).1
          refine ⟨j1, k + 1, xs ++ [x1], g6, c6, rfl, by omega, by rw [List.length_append, Hxl.out]; rfl, rfl, by simpa [ints] using ho5, ?_, grownBy_step (grownBy_step Hg4.out (World.grownBy_alloc w4 _ none) (fun k hk => by cases hk)) hg5 (fun k hk => .inr (hrw k hk))⟩
          exact ((Hr4.out.kept (World.grownBy_alloc w4 _ none) (fun k hk => by cases hk)).kept hg5 (fun k hk => by have := hrw k hk; omega)).mono (by omega)
        have Hfin := Lib.hid hfin
        clear hfin ho5 hg5
        go_wp2_with fail
        go_roundw
        case rel => have h9 := Hfin.out; simpa using h9
        case measure => simp [intOf] <;> omega
      · go_wp2_with (first
          | (at_builtin; refine wpList_append_own _ rfl (.tmp 15) (.tmp 25) 23 rfl w.heap.size 3 i0 (.int .i64 0) 1 8 Try.underlying23 hi hz0 hz1 hz2 rfl (by decide) _ k (ints xs) (by rfl) (Ho4.out.alloc _) ⟨w4.heap.size, 0, none⟩ 1 1 [.int .i64 (x1 + x3)] (by rfl) (by rfl) (cell_one_new _ _ _) (ints_oneCell _ [_]) (by unfold maxLen; omega) (by omega) (by simp; omega) ?_; intro v2' w5 ho5 hg5 _; obtain ⟨g6, c6, rfl⟩ := Joins.ownsRow_form ho5 (by omega)))
        have hfin : BgDraw w g P (.slice (some ⟨g6, 0, none⟩) (k + 1) c6) (.int .i64 (j1 : Int)) w5 := by
          have hrw : ∀ k', Value.ownBlock (.slice (some ⟨g1, 0, none⟩) k c1) = some k' → w.heap.size ≤ k' := fun k' hk => (Ho4.out.lt k' hk).1
          refine ⟨j1, k + 1, xs ++ [x1 + x3], g6, c6, rfl, by omega, by rw [List.length_append, Hxl.out]; rfl, rfl, by simpa [ints] using ho5, ?_, grownBy_step (grownBy_step Hg4.out (World.grownBy_alloc w4 _ none) (fun k hk => by cases hk)) hg5 (fun k hk => .inr (hrw k hk))⟩
          exact ((Hr4.out.kept (World.grownBy_alloc w4 _ none) (fun k hk => by cases hk)).kept hg5 (fun k hk => by have := hrw k hk; omega)).mono (by omega)
        have Hfin := Lib.hid hfin
        clear hfin ho5 hg5
        go_wp2_with fail
        go_roundw
        case rel => have h9 := Hfin.out; simpa using h9
        case measure => simp [intOf] <;> omega
    · obtain rfl : j = 0 := by omega
      have kb := Lib.hid (spec_BagOf _ k c1 xs wA (Sl.of_own ho))
      have Hr := Lib.hid hr
      have hbl := bagOf_len xs
      obtain ⟨bg, hbg⟩ : ∃ bg, bg = bagOf xs := ⟨_, rfl⟩
      rw [← hbg] at kb hbl
      obtain ⟨nb, hnb⟩ : ∃ nb, nb = bg.length := ⟨_, rfl⟩
      unfold BagPost at kb
      rw [← hnb] at kb hbl
      have Hnb := Lib.hid hnb
      clear hxl ho hr hg hbg hnb
      go_wp2_with fail
      refine (kb.out).mono ?_
      rintro ee w5 ⟨gb, cb, rfl, hob, hb5⟩
      have hg5 := below_grown hb5 (some g)
      have Hg5 := Lib.hid (grownBy_step Hg.out (below_grown hb5 none) (fun k hk => by cases hk))
      have Hr5 := Lib.hid (Hr.out.kept (below_grown hb5 none) (fun k hk => by cases hk))
      have Hob := Lib.hid (Joins.ownsRow_le hob hws)
      have ko := Lib.hid (odd_any g (P + 1 + 3 * k) n w5 (by omega) (by omega) (by omega) Hr5.out)
      clear hob hb5 hg5
      go_wp2_with fail
      refine (ko.out).mono ?_
      rintro ee w6 ⟨b, rfl, hr6, hg6⟩
      have Hg6 := Lib.hid (grownBy_trans Hg5.out hg6)
      have Ho6 := Lib.hid (own_rd Hob.out hg6 hgl)
      have Hr6 := Lib.hid hr6
      clear hr6 hg6
      cases b with
      | false =>
        go_wp2_with fail
        go_ret
        exact ⟨bg, gb, nb, cb, Hnb.out, rfl, Ho6.out, by omega, Hr6.out.mono (by omega), Hg6.out⟩
      | true =>
        have kp := Lib.hid (pick_any g (P + 1 + 3 * k + 1) 3 w6 (by omega) (by decide) (by decide) Hr6.out)
        go_wp2_with fail
        refine (kp.out).mono ?_
        rintro ee w7 ⟨s, rfl, hs, hr7, hg7⟩
        have s0 := hs.1
        have s1 := hs.2.1 (by decide)
        have Hg7 := Lib.hid (grownBy_trans Hg6.out hg7)
        have Ho7 := Lib.hid (own_rd Ho6.out hg7 hgl)
        have Hr7 := Lib.hid hr7
        have hw7 : w.heap.size ≤ w7.heap.size := Hg7.out.size
        have hgb : w.heap.size ≤ gb := (Ho7.out.lt gb rfl).1
        have hgb7 : gb < w7.heap.size := (Ho7.out.lt gb rfl).2
        clear hs hr7 hg7
        have hcase : s = 0 ∨ s = 1 ∨ s = 2 := by omega
        rcases hcase with rfl | rfl | rfl
        · go_wp2_with (first
            | (at_builtin; refine wpList_append_own _ rfl (.tmp 38) (.tmp 39) 23 rfl w.heap.size 3 i0 (.int .i64 0) 1 8 Try.underlying23 hi hz0 hz1 hz2 rfl (by decide) _ nb (ints bg) (by rfl) ((Ho7.out.alloc (.cells #[.int .i64 0] 3)).alloc _) ⟨w7.heap.size + 1, 0, none⟩ 1 1 [.int .i64 1] (by rfl) (by rfl) (cell_one_at (w7.alloc (.cells #[.int .i64 0] 3)) (.int .i64 1) 3 (w7.heap.size + 1) (World.size_alloc _ _).symm) (ints_oneCell _ [_]) (by unfold maxLen; omega) (by omega) (by simp; omega) ?_; intro v1 w8 ho8 hg8 _; obtain ⟨g8, c8, rfl⟩ := Joins.ownsRow_form ho8 (by omega); have hL0 := (((World.ownsRow_lit (base := w7.heap.size) (e := 3) (size := 1) w7 #[.int .i64 0] 1 (Nat.le_refl _) (by simp [maxLen]) rfl)).alloc (.cells #[.int .i64 1] 3)).kept hg8 (.inr (fun he => by have h9 := (Ho7.out.lt w7.heap.size he.symm).2; omega)); have HL0 := Lib.hid hL0; have Ho8 := Lib.hid ho8; have hs8 : w7.heap.size + 1 + 1 ≤ w8.heap.size := by { have h9 := hg8.size; simpa using h9 })
            | (at_builtin; refine wpList_append_own _ rfl (.tmp 37) (.tmp 40) 23 rfl w7.heap.size 3 i0 (.int .i64 0) 1 8 Try.underlying23 hi hz0 hz1 hz2 rfl (by decide) _ 1 _ (by rfl) HL0.out ⟨g8, 0, none⟩ (nb + 1) c8 (ints bg ++ [.int .i64 1]) (by rfl) (by have h9 := Ho8.out.1; simpa using h9) (bg_news0 Ho8.out) (bg_one bg 1) (by unfold maxLen; omega) (by omega) (by omega) ?_; intro v2 w9 ho9 hg9 _; obtain ⟨g9, c9, rfl⟩ := Joins.ownsRow_form ho9 (by omega)))
          have hfin : BagDrw w g P (.returned (.slice (some ⟨g9, 0, none⟩) (1 + (nb + 1)) c9)) w9 := by
            have g1 := World.grownBy_alloc w7 (.cells #[.int .i64 0] 3) none
            have g2 := World.grownBy_alloc (w7.alloc (.cells #[.int .i64 0] 3)) (.cells #[.int .i64 1] 3) none
            have G2 := grownBy_step (grownBy_step Hg7.out g1 (fun k hk => by cases hk)) g2 (fun k hk => by cases hk)
            have G3 := grownBy_step G2 hg8 (fun k hk => by cases hk; exact .inr hgb)
            have G4 := grownBy_step G3 hg9 (fun k hk => by cases hk; exact .inr hw7)
            have R2 := (Hr7.out.kept g1 (fun k hk => by cases hk)).kept g2 (fun k hk => by cases hk)
            have R4 := (R2.kept hg8 (fun k hk => by cases hk; (try dsimp only); omega)).kept hg9 (fun k hk => by cases hk; (try dsimp only); omega)
            refine ⟨0 :: (bg ++ [1]), g9, 1 + (nb + 1), c9, by simp; have := Hnb.out; omega, rfl, Joins.ownsRow_le (by simpa [ints] using ho9) hw7, by omega, R4.mono (by omega), G4⟩
          have Hfin := Lib.hid hfin
          clear hfin ho8 hg8 ho9 hg9 hL0
          go_wp2_with fail
          go_ret
          exact Hfin.out
        · go_wp2_with (first
            | (at_builtin; refine wpList_append_own _ rfl (.tmp 44) (.tmp 45) 23 rfl w7.heap.size 3 i0 (.int .i64 0) 1 8 Try.underlying23 hi hz0 hz1 hz2 rfl (by decide) _ 1 _ (by rfl) (World.ownsRow_lit w7 #[.int .i64 10] 1 (Nat.le_refl _) (by simp [maxLen]) rfl) ⟨gb, 0, none⟩ nb cb (ints bg) (by rfl) (by rw [ints_len]; have := Hnb.out; omega) (bg_news Ho7.out) (ints_one bg) (by unfold maxLen; omega) (by omega) (by simp) ?_; intro v2 w9 ho9 hg9 _; obtain ⟨g9, c9, rfl⟩ := Joins.ownsRow_form ho9 (by omega)))
          have hfin : BagDrw w g P (.returned (.slice (some ⟨g9, 0, none⟩) (1 + nb) c9)) w9 := by
            have g1 := World.grownBy_alloc w7 (.cells #[.int .i64 10] 3) none
            have G2 := grownBy_step Hg7.out g1 (fun k hk => by cases hk)
            have G4 := grownBy_step G2 hg9 (fun k hk => by cases hk; exact .inr hw7)
            have R4 := (Hr7.out.kept g1 (fun k hk => by cases hk)).kept hg9 (fun k hk => by cases hk; (try dsimp only); omega)
            refine ⟨10 :: bg, g9, 1 + nb, c9, by simp; have := Hnb.out; omega, rfl, Joins.ownsRow_le (by simpa [ints] using ho9) hw7, by omega, R4.mono (by omega), G4⟩
          have Hfin := Lib.hid hfin
          clear hfin ho9 hg9
          go_wp2_with fail
          go_ret
          exact Hfin.out
        · go_wp2_with (first
            | (at_make; refine wpList_make_full _ rfl (.const (.int .i64 17)) (.const (.int .i64 17)) 23 rfl w7.heap.size 3 i0 _ 1 Try.underlying23 hi hz0 hz1 .i64 .i64 _ _ 17 rfl rfl rfl rfl (by rw [hz2]; omega) (by unfold maxLen; omega) (Nat.le_refl _) ?_; intro w8 hown hg8))
          have ho8 : w8.ownsRow w7.heap.size 3 1 (.slice (some ⟨w7.heap.size, 0, none⟩) 17 17) 17 (ints (List.replicate 17 0)) := by
            rw [show 17 * 1 = 17 from rfl, show (Value.int .i64 0).cells = #[Value.int .i64 0] from rfl, toList_madeCells_one] at hown
            exact hown
          have hfin : BagDrw w g P (.returned (.slice (some ⟨w7.heap.size, 0, none⟩) 17 17)) w8 :=
            ⟨List.replicate 17 0, _, 17, 17, rfl, rfl, Joins.ownsRow_le ho8 hw7, by omega, (Hr7.out.kept hg8 (fun k hk => by cases hk)).mono (by omega), grownBy_step Hg7.out hg8 (fun k hk => by cases hk)⟩
          have Hfin := Lib.hid hfin
          clear hown hg8 ho8 hfin
          go_wp2_with fail
          go_ret
          exact Hfin.out

set_option maxHeartbeats 2000000 in
theorem drawBagValid_any (a : Option Addr) (len cap : Nat) (w : World) (h : By w a len cap) : Calls Try.prog 13 #[.slice a len cap] w (fun e w' =>
    ∃ (xs : List Int) (g n c : Nat), n = xs.length ∧ e = .returned (.slice (some ⟨g, 0, none⟩) n c) ∧ w'.ownsRow w.heap.size 3 1 (.slice (some ⟨g, 0, none⟩) n c) n (ints xs) ∧ n ≤ 200 ∧ Below w.heap.size w w') := by
  have k0 := Lib.hid (open_any a len cap w h)
  obtain ⟨g, hg⟩ : ∃ g, g = w.heap.size := ⟨_, rfl⟩
  rw [← hg] at k0
  have Hg := Lib.hid hg
  clear hg h
  go_enter Try.func13, Try.ntmps13
  go_wp2_with fail
  refine (k0.out).mono ?_
  rintro ee w1 ⟨rfl, hr1, hb1⟩
  have Hb1 := Lib.hid (show Below w.heap.size w w1 by rw [← Hg.out]; exact hb1)
  have k3 := Lib.hid (l20Bag_any g 0 2 w1 (by decide) (by decide) (by decide) hr1)
  clear hr1 hb1
  go_wp2_with fail
  refine (k3.out).mono ?_
  rintro ee w3 ⟨xs, g1, n, c, hn, rfl, ho, hl, hrd, hgr⟩
  have HO := Lib.hid (Joins.ownsRow_le ho Hb1.out.size)
  have HN := Lib.hid hn
  have HB := Lib.hid (Hb1.out.grown hgr Hb1.out.size (fun k e => by cases e; rw [Hg.out]; exact Nat.le_refl _))
  clear ho hn hrd hgr
  go_wp2_with fail
  go_ret
  exact ⟨xs, g1, n, c, HN.out, rfl, HO.out, hl, HB.out⟩

end Go.Proofs.Ytobiaglmfdfepaa
