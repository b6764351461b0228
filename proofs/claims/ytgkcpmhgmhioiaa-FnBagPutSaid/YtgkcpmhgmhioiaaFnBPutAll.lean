/- FnBPutAll: one text out of BagQ, BagV, DrawBagU, DrawBagW, BagC, BagRm, BagPO, BagD, BagE, BagF, BagW, CatB, Idx, BagR, BagS, AddI, BagI, BagJ, BagPM, BagK, LFnBagPut. -/
import Derived.Test.YtgkcpmhgmhioiaaSortS
import Derived.Test.YtgkcpmhgmhioiaaBagO
import Derived.Test.YtgkcpmhgmhioiaaGdKit
import Derived.Test.YtgkcpmhgmhioiaaRawKit
import Derived.Test.YtgkcpmhgmhioiaaDrawBagK
import Derived.Test.YtgkcpmhgmhioiaaDraw0
import Derived.Deep.CutBlock
import Derived.Deep.DeepCutAuto
import Derived.Deep.LoopGhost
import Derived.Test.YtgkcpmhgmhioiaaBagB
import Derived.Test.YtgkcpmhgmhioiaaBagP
import Derived.Test.YtgkcpmhgmhioiaaSem
import Derived.Test.YtgkcpmhgmhioiaaPower
import Derived.Test.YtgkcpmhgmhioiaaLawKit
import Derived.Test.YtgkcpmhgmhioiaaMake
import Derived.Lib.AppendZeros
import Derived.Laws.AppendOwnNone
import Derived.Test.YtgkcpmhgmhioiaaLeaf
import Derived.Test.YtgkcpmhgmhioiaaPost
import Derived.Test.YtgkcpmhgmhioiaaAdd
import Derived.Test.YtgkcpmhgmhioiaaConcat
import Derived.Test.YtgkcpmhgmhioiaaBefore
import Derived.Test.YtgkcpmhgmhioiaaOld
import Derived.StillTailTactics
/- BagQ -/
/- Multisets: the numbers by descending value, by the program. -/
namespace Go.Proofs.Ytgkcpmhgmhioiaa
set_option maxRecDepth 100000
open Go.RowKit

theorem flat_cong {xs ys : List Int} : ∀ k, (∀ j : Nat, j < k → xs.count (j : Int) = ys.count (j : Int)) → flat xs k = flat ys k
  | 0, _ => rfl
  | k + 1, h => by rw [flat, flat, h k (by omega), flat_cong k (fun j hj => h j (by omega))]
theorem flat_desc : ∀ (k : Nat) (xs : List Int), xs.Pairwise (fun a b => b ≤ a) → (∀ x ∈ xs, 0 ≤ x ∧ x < k) → flat xs k = xs
  | 0, xs, _, h => by
    cases xs with
    | nil => rfl
    | cons x t => have := h x List.mem_cons_self; omega
  | k + 1, xs, hp, hb => by
    obtain ⟨t, h1, h2, h3⟩ := desc_split k xs hp (fun x hx => by have := hb x hx; omega)
    have hc : flat xs k = flat t k := flat_cong k (fun j hj => by
      have h9 := congrArg (List.count (j : Int)) h1
      rw [List.count_append, List.count_replicate, if_neg (by simp; omega), Nat.zero_add] at h9
      exact h9)
    rw [flat, hc, flat_desc k t h2 h3]
    exact h1.symm
theorem sortD_flat {xs : List Int} (h : upTo 9 xs = true) : sortD xs = flat xs 10 := by
  have hp : (sortD xs).Perm xs := List.mergeSort_perm xs _
  have hs : (sortD xs).Pairwise (fun a b => b ≤ a) := by
    have h1 := List.pairwise_mergeSort (le := fun x y : Int => decide (y ≤ x)) (fun a b c h1 h2 => by simp at *; omega) (fun a b => by simp; omega) xs
    exact h1.imp (fun h => by simpa using h)
  rw [← flat_cong (xs := sortD xs) 10 (fun j _ => hp.count_eq _)]
  exact (flat_desc 10 _ hs (fun x hx => by have := upTo_true.1 h x (hp.mem_iff.1 hx); omega)).symm
theorem nums_of : ∀ xs : List Int, (∀ x ∈ xs, 0 ≤ x ∧ x ≤ 9) → ∃ ns, nums ns = xs
  | [], _ => ⟨[], rfl⟩
  | x :: t, h => by
    obtain ⟨ns, hns⟩ := nums_of t (fun y hy => h y (List.mem_cons_of_mem _ hy))
    have hx := h x List.mem_cons_self
    exact ⟨⟨x, by omega⟩ :: ns, by simp [nums] at hns ⊢; exact hns⟩

theorem multisetOf_any (ao : Option Addr) (n c : Nat) (xs : List Int) (w : World) (h : Sl w ao n c xs) (hn : n ≤ 3000) (hu : upTo 9 xs = true) :
    Calls Try.prog 58 #[.slice ao n c] w (IntPost w (flat xs 10)) := by
  obtain ⟨ns, hns⟩ := nums_of xs (upTo_true.1 hu)
  have hsf := sortD_flat hu
  have hW : Below w.heap.size w (w.alloc (.cells #[.slice ao n c] 23)) := (Below.refl _ _).alloc (Nat.le_refl _) _
  have hslW := h.below hW
  rw [← hns] at hslW
  have k2 := Lib.hid (sortedFunc_any w.heap.size ao n c ns (w.alloc (.cells #[.slice ao n c] 23)) hn (by simp) (by rw [Joins.cell_alloc_mark_at _ _ _ _ _ _ rfl]; rfl) hslW)
  rw [hns, hsf] at k2
  have k1 := Lib.hid (values_any ao n c w)
  have hl : n = (flat xs 10).length := by rw [← hsf, sortD_len, h.1]
  have Hl := Lib.hid hl
  have HW := Lib.hid hW
  obtain ⟨W, hWe⟩ : ∃ W, W = w.alloc (.cells #[.slice ao n c] 23) := ⟨_, rfl⟩
  rw [← hWe] at k2 k1 HW
  have hws := HW.out.size
  clear h hu hns hsf hW hslW hl hWe
  go_enter Try.func58, Try.ntmps58
  go_wp2_with fail
  refine (k1.out).mono ?_
  rintro ee w1 ⟨rfl, rfl⟩
  go_wp2_with fail
  refine (k2.out).mono ?_
  rintro ee w2 ⟨v, rfl, ho, hb⟩
  obtain ⟨a, c', rfl, _⟩ := own_form ho
  have hfin : IntPost w (flat xs 10) (.returned (.slice a n c')) w2 := by
    have h9 := Hl.out
    refine ⟨a, c', by rw [← h9], ?_, HW.out.trans (hb.mono hws)⟩
    rw [← h9]
    exact Joins.ownsRow_le ho hws
  have Hfin := Lib.hid hfin
  clear ho hb hfin
  go_wp2_with fail
  go_ret
  exact Hfin.out

theorem impl_BagOf (ao : Option Addr) (n c : Nat) (xs : List Int) (w : World) (h : Sl w ao n c xs) :
    Calls Try.prog 24 #[.slice ao n c] w (IntPost w (bagOf xs)) := by
  have k1 := Lib.hid (isItems_any ao n c xs w h)
  rcases items_tf xs with h1 | h1
  · rw [h1] at k1
    have hit := itemsB_true.1 h1
    have k2 := Lib.hid (multisetOf_any ao n c xs w h (by have := h.1; omega) hit.2)
    rw [← bagOf_in h1] at k2
    obtain ⟨r, hr⟩ : ∃ r, r = bagOf xs := ⟨_, rfl⟩
    rw [← hr] at k2 ⊢
    clear h h1 hit hr
    go_enter Try.func24, Try.ntmps24
    go_wp2_with fail
    refine (k1.out).mono ?_
    rintro ee wx ⟨rfl, rfl⟩
    go_wp2_with fail
    refine (k2.out).mono ?_
    rintro ee w2 ⟨a, c', rfl, ho, hb⟩
    have hfin : IntPost w r (.returned (.slice a r.length c')) w2 := ⟨a, c', rfl, ho, hb⟩
    have Hfin := Lib.hid hfin
    clear ho hb hfin
    go_wp2_with fail
    go_ret
    exact Hfin.out
  · rw [h1] at k1
    rw [bagOf_out h1]
    clear h h1
    go_enter Try.func24, Try.ntmps24
    go_wp2_with fail
    refine (k1.out).mono ?_
    rintro ee wx ⟨rfl, rfl⟩
    go_wp2_with fail
    go_ret
    exact ⟨none, 0, rfl, ⟨rfl, .inl ⟨rfl, rfl⟩⟩, Below.refl _ _⟩

end Go.Proofs.Ytgkcpmhgmhioiaa

/- BagV -/
/- The multiset of a list: it is one, of the list from its end it is the same, and of a multiset it is this one. -/
namespace Go.Proofs.Ytgkcpmhgmhioiaa
set_option maxRecDepth 100000
open Go.RowKit

theorem sorted_desc {xs : List Int} (h : xs.Pairwise (fun a b => b ≤ a)) : DescTo xs.length xs := by
  intro j hj
  have h1 := List.pairwise_iff_getElem.1 h j (j + 1) (by omega) hj (by omega)
  rw [getD_at hj, getD_at (show j < xs.length by omega)]
  exact h1
theorem flat_sorted {xs : List Int} (h : upTo 9 xs = true) : (flat xs 10).Pairwise (fun a b => b ≤ a) ∧ (flat xs 10).Perm xs := by
  rw [← sortD_flat h]
  have h1 := List.pairwise_mergeSort (le := fun x y : Int => decide (y ≤ x)) (fun a b c h1 h2 => by simp at *; omega) (fun a b => by simp; omega) xs
  exact ⟨h1.imp (fun h => by simpa using h), List.mergeSort_perm xs _⟩
theorem flat_items {xs : List Int} (h : itemsB xs = true) : itemsB (flat xs 10) = true := by
  obtain ⟨h1, h2⟩ := itemsB_true.1 h
  have h3 := (flat_sorted h2).2
  exact itemsB_true.2 ⟨by rw [h3.length_eq]; exact h1, upTo_true.2 (fun x hx => upTo_true.1 h2 x (h3.mem_iff.1 hx))⟩
theorem flat_bag {xs : List Int} (h : itemsB xs = true) : bagB (flat xs 10) = true :=
  bagB_true.2 ⟨flat_items h, sorted_desc (flat_sorted (itemsB_true.1 h).2).1⟩
theorem nil_bag : bagB [] = true := bagB_true.2 ⟨by decide, fun j hj => by simp at hj⟩
theorem bagOf_bag (xs : List Int) : bagB (bagOf xs) = true := by
  rcases items_tf xs with h | h
  · rw [bagOf_in h]; exact flat_bag h
  · rw [bagOf_out h]; exact nil_bag
theorem bagOf_self {xs : List Int} (h : bagB xs = true) : bagOf xs = xs := by
  rw [bagOf_in (bagB_true.1 h).1]
  exact flat_desc 10 xs (bag_pw h) (bag_bnd h)
theorem bagOf_twice (xs : List Int) : bagOf (bagOf xs) = bagOf xs := bagOf_self (bagOf_bag xs)
theorem bagOf_rev (xs : List Int) : bagOf xs.reverse = bagOf xs := by
  have hi : itemsB xs.reverse = itemsB xs := by
    rw [Bool.eq_iff_iff, itemsB_true, itemsB_true, upTo_true, upTo_true, List.length_reverse]
    simp
  rcases items_tf xs with h | h
  · rw [bagOf_in h, bagOf_in (hi.trans h)]
    exact flat_cong 10 (fun j _ => List.count_reverse)
  · rw [bagOf_out h, bagOf_out (hi.trans h)]

end Go.Proofs.Ytgkcpmhgmhioiaa

/- DrawBagU -/
/- A drawn multiset, with bounds on its numbers. -/
namespace Go.Proofs.Ytgkcpmhgmhioiaa
set_option maxRecDepth 100000
open Go.RowKit

def BagDrwU (w : World) (g P : Nat) (e : Ending) (w' : World) : Prop :=
  ∃ (xs : List Int) (g' n c : Nat), n = xs.length ∧ e = .returned (.slice (some ⟨g', 0, none⟩) n c) ∧ w'.ownsRow w.heap.size 3 1 (.slice (some ⟨g', 0, none⟩) n c) n (ints xs) ∧
    n ≤ 200 ∧ (∀ x ∈ xs, 0 ≤ x ∧ x ≤ 10) ∧ RdOk w' g (P + 60) ∧ w.grownBy w' (some g)

def BgDrawU (w : World) (g P : Nat) (v5 v6 : Value) (wr : World) : Prop :=
  ∃ (j k : Nat) (xs : List Int) (g1 c1 : Nat), v6 = .int .i64 j ∧ j + k ≤ 6 ∧ xs.length = k ∧ v5 = .slice (some ⟨g1, 0, none⟩) k c1 ∧ wr.ownsRow w.heap.size 3 1 v5 k (ints xs) ∧ RdOk wr g (P + 1 + 3 * k) ∧ w.grownBy wr (some g)

set_option maxHeartbeats 4000000 in
theorem l20BagU_any (g P : Nat) (n : Int) (w : World) (hP : P ≤ 90000000) (hn0 : 0 ≤ n) (hn1 : n ≤ 1000000) (hrd : RdOk w g P) :
    Calls Try.prog 61 #[.pointer (some ⟨g, 0, none⟩), .int .i64 n] w (BagDrwU w g P) := by
  obtain ⟨i0, hi, hz0, hz1, hz2⟩ := info_parts info_int
  have hgl : g < w.heap.size := by obtain ⟨_, _, _, _, h1, _⟩ := hrd; exact (Array.getElem?_eq_some_iff.1 h1).1
  obtain ⟨W, hW⟩ : ∃ W, W = w.alloc (.cells #[] 3) := ⟨_, rfl⟩
  have hgW : w.grownBy W (some g) := by rw [hW]; exact World.grownBy_alloc w _ _
  have hoW : W.ownsRow w.heap.size 3 1 (.slice (some ⟨w.heap.size, 0, none⟩) 0 0) 0 (ints []) := by rw [hW]; exact World.ownsRow_lit w #[] 0 (Nat.le_refl _) (by simp [maxLen]) rfl
  have hrW : RdOk W g P := by rw [hW]; exact hrd.kept (World.grownBy_alloc w _ none) (fun k hk => by cases hk)
  have kp := Lib.hid (pick_any g P 7 W (by omega) (by decide) (by decide) hrW)
  have HgW := Lib.hid hgW
  have HoW := Lib.hid hoW
  have HWe := Lib.hid hW.symm
  clear hrd hW hgW hoW hrW
  go_enter Try.func61, Try.ntmps61
  go_wp2_with fail
  rw [HWe.out]
  refine (kp.out).mono ?_
  rintro ee w1 ⟨r, rfl, hr, hr1, hg1⟩
  obtain ⟨j0, rfl⟩ := Int.eq_ofNat_of_zero_le hr.1
  have hj0 : j0 ≤ 6 := by have := hr.2.1 (by decide); omega
  have Hst := Lib.hid (show BgDrawU w g P (.slice (some ⟨w.heap.size, 0, none⟩) 0 0) (.int .i64 (j0 : Int)) w1 from ⟨j0, 0, [], _, 0, rfl, by omega, rfl, rfl, own_rd HoW.out hg1 hgl, hr1.mono (by omega), grownBy_trans HgW.out hg1⟩)
  clear hr hr1 hg1
  go_wp2_with fail
  go_loopw [5, 6] (fun v5 v6 wr => BgDrawU w g P v5 v6 wr) (fun _ v6 _ => (intOf v6).toNat)
  case atStart => exact Hst.out
  case round =>
    obtain ⟨j, k, xs, g1, c1, rfl, hjk, hxl, rfl, ho, hr, hg⟩ := hrel
    obtain ⟨wA, rfl⟩ : ∃ wA : World, wA = wr := ⟨_, rfl⟩
    have Hxl := Lib.hid hxl
    have Ho := Lib.hid ho
    have Hg := Lib.hid hg
    have hws : w.heap.size ≤ wA.heap.size := hg.size
    by_cases hj : 0 < j
    · obtain ⟨j1, rfl⟩ : ∃ j1, j = j1 + 1 := ⟨j - 1, by omega⟩
      have k1 := Lib.hid (pick_any g (P + 1 + 3 * k) 6 wA (by omega) (by decide) (by decide) hr)
      clear hxl ho hr hg
      go_wp2_with fail
      refine (k1.out).mono ?_
      rintro ee w2 ⟨x1, rfl, hx1, hr2, hg2⟩
      have x10 := hx1.1
      have x11 := hx1.2.1 (by decide)
      have k2 := Lib.hid (pick_any g (P + 1 + 3 * k + 1) 9 w2 (by omega) (by decide) (by decide) hr2)
      have Ho2 := Lib.hid (own_rd Ho.out hg2 hgl)
      have Hg2 := Lib.hid (grownBy_trans Hg.out hg2)
      clear hx1 hr2 hg2
      go_wp2_with fail
      refine (k2.out).mono ?_
      rintro ee w3 ⟨x2, rfl, hx2, hr3, hg3⟩
      have x20 := hx2.1
      have x21 := hx2.2.1 (by decide)
      obtain ⟨un, rfl⟩ := Int.eq_ofNat_of_zero_le x20
      have k3 := Lib.hid (pick_any g (P + 1 + 3 * k + 1 + 1) 4 w3 (by omega) (by decide) (by decide) hr3)
      have Ho3 := Lib.hid (own_rd Ho2.out hg3 hgl)
      have Hg3 := Lib.hid (grownBy_trans Hg2.out hg3)
      have hdd : ∃ d : Nat, (d = 0 ∨ d = 1) ∧ ((un : Int)).tdiv 8 = (d : Int) ∧ (un : Int) / 8 = (d : Int) := by
        refine ⟨un / 8, by omega, ?_, rfl⟩
        rw [Int.tdiv_eq_ediv_of_nonneg (by omega)]
        rfl
      obtain ⟨d, hd01, hdq, hdq2⟩ := hdd
      clear hx2 hr3 hg3
      rcases hd01 with rfl | rfl
      all_goals
        go_wp2_with fail
        refine (k3.out).mono ?_
        rintro ee w4 ⟨x3, rfl, hx3, hr4, hg4⟩
        have x30 := hx3.1
        have x31 := hx3.2.1 (by decide)
        have Ho4 := Lib.hid (own_rd Ho3.out hg4 hgl)
        have Hg4 := Lib.hid (grownBy_trans Hg3.out hg4)
        have Hr4 := Lib.hid hr4
        have hw4 : w.heap.size ≤ w4.heap.size := Hg4.out.size
        clear hx3 hr4 hg4
      · go_wp2_with (first
          | (at_builtin; refine wpList_append_own _ rfl (.tmp 15) (.tmp 25) 23 rfl w.heap.size 3 i0 (.int .i64 0) 1 8 Try.underlying23 hi hz0 hz1 hz2 rfl (by decide) _ k (ints xs) (by rfl) (Ho4.out.alloc _) ⟨w4.heap.size, 0, none⟩ 1 1 [.int .i64 _] (by rfl) (by rfl) (cell_one_new _ _ _) (ints_oneCell _ [_]) (by unfold maxLen; omega) (by omega) (by simp; omega) ?_; intro v2' w5 ho5 hg5 _; obtain ⟨g6, c6, rfl⟩ := Joins.ownsRow_form ho5 (by omega)))
        have hfin : BgDrawU w g P (.slice (some ⟨g6, 0, none⟩) (k + 1) c6) (.int .i64 (j1 : Int)) w5 := by
          have hgB := World.grownBy_alloc w4 (.cells #[.int .i64 x1] 3) none
          have hrw : ∀ k', Value.ownBlock (.slice (some ⟨g1, 0, none⟩) k c1) = some k' → w.heap.size ≤ k' := fun k' hk => (Ho4.out.lt k' hk).1
          refine ⟨j1, k + 1, xs ++ [x1], g6, c6, rfl, by omega, by rw [List.length_append, Hxl.out]; rfl, rfl, by simpa [ints] using ho5, ?_, grownBy_step (grownBy_step Hg4.out (World.grownBy_alloc w4 _ none) (fun k hk => by cases hk)) hg5 (fun k hk => .inr (hrw k hk))⟩
          exact ((Hr4.out.kept (World.grownBy_alloc w4 _ none) (fun k hk => by cases hk)).kept hg5 (fun k hk => by have := hrw k hk; omega)).mono (by omega)
        have Hfin := Lib.hid hfin
        clear hfin ho5 hg5
        go_wp2_with fail
        go_roundw
        case rel => have h9 := Hfin.out; simpa using h9
        case measure => simp [intOf] <;> omega
      · go_wp2_with (first
          | (at_builtin; refine wpList_append_own _ rfl (.tmp 15) (.tmp 25) 23 rfl w.heap.size 3 i0 (.int .i64 0) 1 8 Try.underlying23 hi hz0 hz1 hz2 rfl (by decide) _ k (ints xs) (by rfl) (Ho4.out.alloc _) ⟨w4.heap.size, 0, none⟩ 1 1 [.int .i64 (x1 + x3)] (by rfl) (by rfl) (cell_one_new _ _ _) (ints_oneCell _ [_]) (by unfold maxLen; omega) (by omega) (by simp; omega) ?_; intro v2' w5 ho5 hg5 _; obtain ⟨g6, c6, rfl⟩ := Joins.ownsRow_form ho5 (by omega)))
        have hfin : BgDrawU w g P (.slice (some ⟨g6, 0, none⟩) (k + 1) c6) (.int .i64 (j1 : Int)) w5 := by
          have hrw : ∀ k', Value.ownBlock (.slice (some ⟨g1, 0, none⟩) k c1) = some k' → w.heap.size ≤ k' := fun k' hk => (Ho4.out.lt k' hk).1
          refine ⟨j1, k + 1, xs ++ [x1 + x3], g6, c6, rfl, by omega, by rw [List.length_append, Hxl.out]; rfl, rfl, by simpa [ints] using ho5, ?_, grownBy_step (grownBy_step Hg4.out (World.grownBy_alloc w4 _ none) (fun k hk => by cases hk)) hg5 (fun k hk => .inr (hrw k hk))⟩
          exact ((Hr4.out.kept (World.grownBy_alloc w4 _ none) (fun k hk => by cases hk)).kept hg5 (fun k hk => by have := hrw k hk; omega)).mono (by omega)
        have Hfin := Lib.hid hfin
        clear hfin ho5 hg5
        go_wp2_with fail
        go_roundw
        case rel => have h9 := Hfin.out; simpa using h9
        case measure => simp [intOf] <;> omega
    · obtain rfl : j = 0 := by omega
      have kb := Lib.hid (spec_BagOf _ k c1 xs wA (Sl.of_own ho))
      have Hr := Lib.hid hr
      have hbl := bagOf_len xs
      have hbv : ∀ x ∈ bagOf xs, 0 ≤ x ∧ x ≤ 10 := fun x hx => by have := bag_bnd (bagOf_bag xs) x hx; omega
      obtain ⟨bg, hbg⟩ : ∃ bg, bg = bagOf xs := ⟨_, rfl⟩
      rw [← hbg] at hbv
      have Hbv := Lib.hid hbv
      clear hbv
      rw [← hbg] at kb hbl
      obtain ⟨nb, hnb⟩ : ∃ nb, nb = bg.length := ⟨_, rfl⟩
      unfold BagPost at kb
      rw [← hnb] at kb hbl
      have Hnb := Lib.hid hnb
      clear hxl ho hr hg hbg hnb
      go_wp2_with fail
      refine (kb.out).mono ?_
      rintro ee w5 ⟨gb, cb, rfl, hob, hb5⟩
      have hg5 := below_grown hb5 (some g)
      have Hg5 := Lib.hid (grownBy_step Hg.out (below_grown hb5 none) (fun k hk => by cases hk))
      have Hr5 := Lib.hid (Hr.out.kept (below_grown hb5 none) (fun k hk => by cases hk))
      have Hob := Lib.hid (Joins.ownsRow_le hob hws)
      have ko := Lib.hid (odd_any g (P + 1 + 3 * k) n w5 (by omega) (by omega) (by omega) Hr5.out)
      clear hob hb5 hg5
      go_wp2_with fail
      refine (ko.out).mono ?_
      rintro ee w6 ⟨b, rfl, hr6, hg6⟩
      have Hg6 := Lib.hid (grownBy_trans Hg5.out hg6)
      have Ho6 := Lib.hid (own_rd Hob.out hg6 hgl)
      have Hr6 := Lib.hid hr6
      clear hr6 hg6
      cases b with
      | false =>
        go_wp2_with fail
        go_ret
        exact ⟨bg, gb, nb, cb, Hnb.out, rfl, Ho6.out, by omega, Hbv.out, Hr6.out.mono (by omega), Hg6.out⟩
      | true =>
        have kp := Lib.hid (pick_any g (P + 1 + 3 * k + 1) 3 w6 (by omega) (by decide) (by decide) Hr6.out)
        go_wp2_with fail
        refine (kp.out).mono ?_
        rintro ee w7 ⟨s, rfl, hs, hr7, hg7⟩
        have s0 := hs.1
        have s1 := hs.2.1 (by decide)
        have Hg7 := Lib.hid (grownBy_trans Hg6.out hg7)
        have Ho7 := Lib.hid (own_rd Ho6.out hg7 hgl)
        have Hr7 := Lib.hid hr7
        have hw7 : w.heap.size ≤ w7.heap.size := Hg7.out.size
        have hgb : w.heap.size ≤ gb := (Ho7.out.lt gb rfl).1
        have hgb7 : gb < w7.heap.size := (Ho7.out.lt gb rfl).2
        clear hs hr7 hg7
        have hcase : s = 0 ∨ s = 1 ∨ s = 2 := by omega
        rcases hcase with rfl | rfl | rfl
        · go_wp2_with (first
            | (at_builtin; refine wpList_append_own _ rfl (.tmp 38) (.tmp 39) 23 rfl w.heap.size 3 i0 (.int .i64 0) 1 8 Try.underlying23 hi hz0 hz1 hz2 rfl (by decide) _ nb (ints bg) (by rfl) ((Ho7.out.alloc (.cells #[.int .i64 0] 3)).alloc _) ⟨w7.heap.size + 1, 0, none⟩ 1 1 [.int .i64 1] (by rfl) (by rfl) (cell_one_at (w7.alloc (.cells #[.int .i64 0] 3)) (.int .i64 1) 3 (w7.heap.size + 1) (World.size_alloc _ _).symm) (ints_oneCell _ [_]) (by unfold maxLen; omega) (by omega) (by simp; omega) ?_; intro v1 w8 ho8 hg8 _; obtain ⟨g8, c8, rfl⟩ := Joins.ownsRow_form ho8 (by omega); have hL0 := (((World.ownsRow_lit (base := w7.heap.size) (e := 3) (size := 1) w7 #[.int .i64 0] 1 (Nat.le_refl _) (by simp [maxLen]) rfl)).alloc (.cells #[.int .i64 1] 3)).kept hg8 (.inr (fun he => by have h9 := (Ho7.out.lt w7.heap.size he.symm).2; omega)); have HL0 := Lib.hid hL0; have Ho8 := Lib.hid ho8; have hs8 : w7.heap.size + 1 + 1 ≤ w8.heap.size := by { have h9 := hg8.size; simpa using h9 })
            | (at_builtin; refine wpList_append_own _ rfl (.tmp 37) (.tmp 40) 23 rfl w7.heap.size 3 i0 (.int .i64 0) 1 8 Try.underlying23 hi hz0 hz1 hz2 rfl (by decide) _ 1 _ (by rfl) HL0.out ⟨g8, 0, none⟩ (nb + 1) c8 (ints bg ++ [.int .i64 1]) (by rfl) (by have h9 := Ho8.out.1; simpa using h9) (bg_news0 Ho8.out) (bg_one bg 1) (by unfold maxLen; omega) (by omega) (by omega) ?_; intro v2 w9 ho9 hg9 _; obtain ⟨g9, c9, rfl⟩ := Joins.ownsRow_form ho9 (by omega)))
          have hfin : BagDrwU w g P (.returned (.slice (some ⟨g9, 0, none⟩) (1 + (nb + 1)) c9)) w9 := by
            have g1 := World.grownBy_alloc w7 (.cells #[.int .i64 0] 3) none
            have g2 := World.grownBy_alloc (w7.alloc (.cells #[.int .i64 0] 3)) (.cells #[.int .i64 1] 3) none
            have G2 := grownBy_step (grownBy_step Hg7.out g1 (fun k hk => by cases hk)) g2 (fun k hk => by cases hk)
            have G3 := grownBy_step G2 hg8 (fun k hk => by cases hk; exact .inr hgb)
            have G4 := grownBy_step G3 hg9 (fun k hk => by cases hk; exact .inr hw7)
            have R2 := (Hr7.out.kept g1 (fun k hk => by cases hk)).kept g2 (fun k hk => by cases hk)
            have R4 := (R2.kept hg8 (fun k hk => by cases hk; (try dsimp only); omega)).kept hg9 (fun k hk => by cases hk; (try dsimp only); omega)
            refine ⟨0 :: (bg ++ [1]), g9, 1 + (nb + 1), c9, by simp; have := Hnb.out; omega, rfl, Joins.ownsRow_le (by simpa [ints] using ho9) hw7, by omega, (fun x hx => (List.mem_cons.1 hx).elim (fun h => by omega) (fun h => (List.mem_append.1 h).elim (Hbv.out x) (fun h => by have := List.mem_singleton.1 h; omega))), R4.mono (by omega), G4⟩
          have Hfin := Lib.hid hfin
          clear hfin ho8 hg8 ho9 hg9 hL0
          go_wp2_with fail
          go_ret
          exact Hfin.out
        · go_wp2_with (first
            | (at_builtin; refine wpList_append_own _ rfl (.tmp 44) (.tmp 45) 23 rfl w7.heap.size 3 i0 (.int .i64 0) 1 8 Try.underlying23 hi hz0 hz1 hz2 rfl (by decide) _ 1 _ (by rfl) (World.ownsRow_lit w7 #[.int .i64 10] 1 (Nat.le_refl _) (by simp [maxLen]) rfl) ⟨gb, 0, none⟩ nb cb (ints bg) (by rfl) (by rw [ints_len]; have := Hnb.out; omega) (bg_news Ho7.out) (ints_one bg) (by unfold maxLen; omega) (by omega) (by simp) ?_; intro v2 w9 ho9 hg9 _; obtain ⟨g9, c9, rfl⟩ := Joins.ownsRow_form ho9 (by omega)))
          have hfin : BagDrwU w g P (.returned (.slice (some ⟨g9, 0, none⟩) (1 + nb) c9)) w9 := by
            have g1 := World.grownBy_alloc w7 (.cells #[.int .i64 10] 3) none
            have G2 := grownBy_step Hg7.out g1 (fun k hk => by cases hk)
            have G4 := grownBy_step G2 hg9 (fun k hk => by cases hk; exact .inr hw7)
            have R4 := (Hr7.out.kept g1 (fun k hk => by cases hk)).kept hg9 (fun k hk => by cases hk; (try dsimp only); omega)
            refine ⟨10 :: bg, g9, 1 + nb, c9, by simp; have := Hnb.out; omega, rfl, Joins.ownsRow_le (by simpa [ints] using ho9) hw7, by omega, (fun x hx => (List.mem_cons.1 hx).elim (fun h => by omega) (Hbv.out x)), R4.mono (by omega), G4⟩
          have Hfin := Lib.hid hfin
          clear hfin ho9 hg9
          go_wp2_with fail
          go_ret
          exact Hfin.out
        · go_wp2_with (first
            | (at_make; refine wpList_make_full _ rfl (.const (.int .i64 17)) (.const (.int .i64 17)) 23 rfl w7.heap.size 3 i0 _ 1 Try.underlying23 hi hz0 hz1 .i64 .i64 _ _ 17 rfl rfl rfl rfl (by rw [hz2]; omega) (by unfold maxLen; omega) (Nat.le_refl _) ?_; intro w8 hown hg8))
          have ho8 : w8.ownsRow w7.heap.size 3 1 (.slice (some ⟨w7.heap.size, 0, none⟩) 17 17) 17 (ints (List.replicate 17 0)) := by
            rw [show 17 * 1 = 17 from rfl, show (Value.int .i64 0).cells = #[Value.int .i64 0] from rfl, toList_madeCells_one] at hown
            exact hown
          have hfin : BagDrwU w g P (.returned (.slice (some ⟨w7.heap.size, 0, none⟩) 17 17)) w8 :=
            ⟨List.replicate 17 0, _, 17, 17, rfl, rfl, Joins.ownsRow_le ho8 hw7, by omega, (fun x hx => by have := List.eq_of_mem_replicate hx; omega), (Hr7.out.kept hg8 (fun k hk => by cases hk)).mono (by omega), grownBy_step Hg7.out hg8 (fun k hk => by cases hk)⟩
          have Hfin := Lib.hid hfin
          clear hown hg8 ho8 hfin
          go_wp2_with fail
          go_ret
          exact Hfin.out

end Go.Proofs.Ytgkcpmhgmhioiaa

/- DrawBagW -/
/- What FnBagPut draws. -/
namespace Go.Proofs.Ytgkcpmhgmhioiaa
set_option maxRecDepth 100000
open Go.RowKit

def PtDraw (w : World) (g M : Nat) (v8 v9 : Value) (wr : World) : Prop :=
  ∃ (j k : Nat) (ys : List Int) (g1 c1 : Nat), v9 = .int .i64 j ∧ j + k ≤ 4 ∧ ys.length = k ∧ v8 = .slice (some ⟨g1, 0, none⟩) k c1 ∧ wr.ownsRow w.heap.size 3 1 v8 k (ints ys) ∧ RdOk wr g (M + 2 * k) ∧ w.grownBy wr (some g)


set_option maxHeartbeats 4000000 in
theorem drawBagPut_any (a : Option Addr) (len cap : Nat) (w : World) (h : By w a len cap) : Calls Try.prog 27 #[.slice a len cap] w (fun e w' =>
    ∃ (xs ys : List Int) (V : Int) (g n c g2 n2 c2 : Nat), n = xs.length ∧ n2 = ys.length ∧ e = .returned (.tuple #[.slice (some ⟨g, 0, none⟩) n c, .int .i64 V, .slice (some ⟨g2, 0, none⟩) n2 c2]) ∧
      w'.ownsRow w.heap.size 3 1 (.slice (some ⟨g, 0, none⟩) n c) n (ints xs) ∧ w'.ownsRow w.heap.size 3 1 (.slice (some ⟨g2, 0, none⟩) n2 c2) n2 (ints ys) ∧ n ≤ 200 ∧ n2 ≤ 200 ∧ 0 ≤ V ∧ V ≤ 10 ∧ Below w.heap.size w w') := by
  obtain ⟨i0, hi, hz0, hz1, hz2⟩ := info_parts info_int
  have k0 := Lib.hid (open_any a len cap w h)
  obtain ⟨g, hg⟩ : ∃ g, g = w.heap.size := ⟨_, rfl⟩
  rw [← hg] at k0
  have Hg0 := Lib.hid hg
  clear hg h
  go_enter Try.func27, Try.ntmps27
  go_wp2_with fail
  refine (k0.out).mono ?_
  rintro ee w1 ⟨rfl, hr1, hb1⟩
  have Hb1 := Lib.hid (show Below w.heap.size w w1 by rw [← Hg0.out]; exact hb1)
  have hgl : g < w1.heap.size := by obtain ⟨_, _, _, _, h1, _⟩ := hr1; exact (Array.getElem?_eq_some_iff.1 h1).1
  have k3 := Lib.hid (l20BagU_any g 0 14 w1 (by decide) (by decide) (by decide) hr1)
  clear hr1 hb1
  go_wp2_with fail
  refine (k3.out).mono ?_
  rintro ee w2 ⟨xs, gx, n, c, hn, rfl, ho, hl, hxb, hr2, hg2⟩
  have Hxb := Lib.hid hxb
  have Hn := Lib.hid hn
  have Ho2 := Lib.hid ho
  have Hg2 := Lib.hid hg2
  have k4 := Lib.hid (pick_any g (0 + 60) 6 w2 (by omega) (by decide) (by decide) hr2)
  clear hxb hn ho hr2 hg2
  go_wp2_with fail
  refine (k4.out).mono ?_
  rintro ee w3 ⟨v, rfl, hv, hr3, hg3⟩
  have v0 := hv.1
  have v1 := hv.2.1 (by decide)
  have Ho3 := Lib.hid (own_rd Ho2.out hg3 hgl)
  have Hg3 := Lib.hid (grownBy_trans Hg2.out hg3)
  have Hr3 := Lib.hid hr3
  clear hv hr3 hg3
  go_upto_region 4 with fail
  go_cut [23] (fun v23 wx => ∃ b : Bool, v23 = .bool b ∧ (b = true → 0 < n) ∧ RdOk wx g (0 + 60 + 1 + 1) ∧ wx.ownsRow w1.heap.size 3 1 (.slice (some ⟨gx, 0, none⟩) n c) n (ints xs) ∧ w1.grownBy wx (some g))
  case first =>
    by_cases hn0 : 0 < n
    · have k5 := Lib.hid (pick_any g (0 + 60 + 1) 5 w3 (by omega) (by decide) (by decide) Hr3.out)
      go_wp2_with fail
      refine (k5.out).mono ?_
      rintro ee w4 ⟨p, rfl, hp, hr4, hg4⟩
      have Ho4 := Lib.hid (own_rd Ho3.out hg4 hgl)
      have Hg4 := Lib.hid (grownBy_trans Hg3.out hg4)
      have Hr4 := Lib.hid hr4
      clear hp hr4 hg4
      go_wp2_with fail
      go_meet
      exact ⟨_, rfl, fun _ => hn0, Hr4.out, Ho4.out, Hg4.out⟩
    · go_wp2_with fail
      go_meet
      exact ⟨false, rfl, fun h => by (cases h), Hr3.out.mono (by omega), Ho3.out, Hg3.out⟩
  case rest =>
    obtain ⟨b, rfl, hbn, hr, ho, hg⟩ := hcut
    obtain ⟨w4, rfl⟩ : ∃ w4 : World, w4 = wc := ⟨_, rfl⟩
    have Ho4 := Lib.hid ho
    have Hg4 := Lib.hid hg
    have Hr4 := Lib.hid hr
    have Hbn := Lib.hid hbn
    clear ho hg hr hbn
    go_upto_if 23 with fail
    go_cut [7] (fun v7 wx => ∃ V : Int, v7 = .int .i64 V ∧ 0 ≤ V ∧ V ≤ 10 ∧ RdOk wx g (0 + 60 + 1 + 1 + 1) ∧ wx.ownsRow w1.heap.size 3 1 (.slice (some ⟨gx, 0, none⟩) n c) n (ints xs) ∧ w1.grownBy wx (some g))
    case first =>
      cases b with
      | false =>
        go_wp2_with fail
        go_meet
        exact ⟨v, rfl, v0, by omega, Hr4.out.mono (by omega), Ho4.out, Hg4.out⟩
      | true =>
        have hn0 := Hbn.out rfl
        have k5 := Lib.hid (pick_any g (0 + 60 + 1 + 1) n w4 (by omega) (by omega) (by omega) Hr4.out)
        go_wp2_with fail
        refine (k5.out).mono ?_
        rintro ee w5 ⟨p, rfl, hp, hr5, hg5⟩
        obtain ⟨q, rfl⟩ := Int.eq_ofNat_of_zero_le hp.1
        have hqn : q < n := by have := hp.2.1 (by omega); omega
        have Ho5 := Lib.hid (own_rd Ho4.out hg5 hgl)
        have Hg5 := Lib.hid (grownBy_trans Hg4.out hg5)
        have Hr5 := Lib.hid hr5
        obtain ⟨x, t, hdx, hdx1⟩ := drop_cons (xs := xs) (a := q) (by have := Hn.out; omega)
        obtain ⟨bb, off, he, hat⟩ := (Sl.of_own Ho5.out).2.2.2 (by omega)
        obtain ⟨rfl, rfl⟩ : bb = gx ∧ off = 0 := by simp at he; omega
        have y0 := hat.get hdx
        rw [Nat.zero_add] at y0
        have hxx := Hxb.out x (List.mem_of_mem_drop (i := q) (by rw [hdx]; exact List.mem_cons_self))
        have hx0 := hxx.1
        have hx1 := hxx.2
        clear hp hr5 hg5 hdx hdx1 he hat hxx
        go_wp2_with fail
        go_meet
        exact ⟨x, rfl, hx0, hx1, Hr5.out, Ho5.out, Hg5.out⟩
    case rest =>
      obtain ⟨V, rfl, hV0, hV1, hr, ho, hg⟩ := hcut
      obtain ⟨w5, rfl⟩ : ∃ w5 : World, w5 = wc := ⟨_, rfl⟩
      have Ho5 := Lib.hid ho
      have Hg5 := Lib.hid hg
      have hgl5 : g < w5.heap.size := by have := hg.size; omega
      obtain ⟨W, hW⟩ : ∃ W, W = w5.alloc (.cells #[] 3) := ⟨_, rfl⟩
      have hgW : w5.grownBy W (some g) := by rw [hW]; exact World.grownBy_alloc w5 _ _
      have hoW : W.ownsRow w5.heap.size 3 1 (.slice (some ⟨w5.heap.size, 0, none⟩) 0 0) 0 (ints []) := by rw [hW]; exact World.ownsRow_lit w5 #[] 0 (Nat.le_refl _) (by simp [maxLen]) rfl
      have hrW : RdOk W g (0 + 60 + 1 + 1 + 1) := by rw [hW]; exact hr.kept (World.grownBy_alloc w5 _ none) (fun k hk => by cases hk)
      have kp := Lib.hid (pick_any g (0 + 60 + 1 + 1 + 1) 5 W (by omega) (by decide) (by decide) hrW)
      have HgW := Lib.hid hgW
      have HoW := Lib.hid hoW
      have HWe := Lib.hid hW.symm
      clear ho hr hg hW hgW hoW hrW
      go_wp2_with fail
      rw [HWe.out]
      refine (kp.out).mono ?_
      rintro ee w6 ⟨r, rfl, hr, hr6, hg6⟩
      obtain ⟨j0, rfl⟩ := Int.eq_ofNat_of_zero_le hr.1
      have hj0 : j0 ≤ 4 := by have := hr.2.1 (by decide); omega
      have Hst := Lib.hid (show PtDraw w5 g 64 (.slice (some ⟨w5.heap.size, 0, none⟩) 0 0) (.int .i64 (j0 : Int)) w6 from ⟨j0, 0, [], _, 0, rfl, by omega, rfl, rfl, own_rd HoW.out hg6 hgl5, hr6.mono (by omega), grownBy_trans HgW.out hg6⟩)
      clear hr hr6 hg6
      go_wp2_with fail
      go_loopw [8, 9] (fun v8 v9 wr => PtDraw w5 g 64 v8 v9 wr) (fun _ v9 _ => (intOf v9).toNat)
      case atStart => exact Hst.out
      case round =>
        obtain ⟨j, k, ys, g1, c1, rfl, hjk, hxl, rfl, ho, hr, hg⟩ := hrel
        obtain ⟨wA, rfl⟩ : ∃ wA : World, wA = wr := ⟨_, rfl⟩
        have Hxl := Lib.hid hxl
        have Ho := Lib.hid ho
        have Hg := Lib.hid hg
        have hws : w5.heap.size ≤ wA.heap.size := hg.size
        by_cases hj : 0 < j
        · obtain ⟨j1, rfl⟩ : ∃ j1, j = j1 + 1 := ⟨j - 1, by omega⟩
          obtain ⟨M, hM⟩ : ∃ M, M = max V 1 := ⟨_, rfl⟩
          have hM0 : 1 ≤ M := by omega
          have hM1 : M ≤ 10 := by omega
          have HM := Lib.hid hM.symm
          have k1 := Lib.hid (pick_any g (64 + 2 * k) M wA (by omega) (by omega) (by omega) hr)
          clear hxl ho hr hg hM
          go_wp2_with fail
          rw [HM.out]
          refine (k1.out).mono ?_
          rintro ee w5a ⟨x1, rfl, hx1, hr5, hg5⟩
          have x10 := hx1.1
          have x11 := hx1.2.1 (by omega)
          have k2 := Lib.hid (pick_any g (64 + 2 * k + 1) 30 w5a (by omega) (by decide) (by decide) hr5)
          have Ho5a := Lib.hid (own_rd Ho.out hg5 hgl5)
          have Hg5a := Lib.hid (grownBy_trans Hg.out hg5)
          clear hx1 hr5 hg5
          go_wp2_with fail
          refine (k2.out).mono ?_
          rintro ee w4 ⟨x3, rfl, hx3, hr4, hg4⟩
          have x30 := hx3.1
          have x31 := hx3.2.1 (by decide)
          obtain ⟨ub, rfl⟩ := Int.eq_ofNat_of_zero_le x30
          have Ho4 := Lib.hid (own_rd Ho5a.out hg4 hgl5)
          have Hg4' := Lib.hid (grownBy_trans Hg5a.out hg4)
          have Hr4' := Lib.hid hr4
          have hw4 : w5.heap.size ≤ w4.heap.size := Hg4'.out.size
          have hee : ∃ f : Nat, (f = 0 ∨ f = 1) ∧ ((ub : Int)).tdiv 29 = (f : Int) ∧ (ub : Int) / 29 = (f : Int) := by
            refine ⟨ub / 29, by omega, ?_, rfl⟩
            rw [Int.tdiv_eq_ediv_of_nonneg (by omega)]
            rfl
          obtain ⟨f, hf01, hfq, hfq2⟩ := hee
          clear hx3 hr4 hg4
          rcases hf01 with rfl | rfl
          · go_wp2_with (first
              | (at_builtin; go_loud (refine wpList_append_own _ rfl (.tmp 38) (.tmp 48) 23 rfl w5.heap.size 3 i0 (.int .i64 0) 1 8 Try.underlying23 hi hz0 hz1 hz2 rfl (by decide) _ k (ints ys) (by rfl) (Ho4.out.alloc _) ⟨w4.heap.size, 0, none⟩ 1 1 [.int .i64 _] (by rfl) (by rfl) (cell_one_new _ _ _) (ints_oneCell _ [_]) (by unfold maxLen; omega) (by omega) (by simp; omega) ?_; intro v2' w5' ho5 hg5 _; obtain ⟨g6, c6, rfl⟩ := Joins.ownsRow_form ho5 (by omega))))
            have hfin : PtDraw w5 g 64 (.slice (some ⟨g6, 0, none⟩) (k + 1) c6) (.int .i64 (j1 : Int)) w5' := by
              have hrw : ∀ k', Value.ownBlock (.slice (some ⟨g1, 0, none⟩) k c1) = some k' → w5.heap.size ≤ k' := fun k' hk => (Ho4.out.lt k' hk).1
              refine ⟨j1, k + 1, ys ++ [x1], g6, c6, rfl, by omega, by rw [List.length_append, Hxl.out]; rfl, rfl, by simpa [ints] using ho5, ?_, grownBy_step (grownBy_step Hg4'.out (World.grownBy_alloc w4 _ none) (fun k hk => by cases hk)) hg5 (fun k hk => .inr (hrw k hk))⟩
              exact ((Hr4'.out.kept (World.grownBy_alloc w4 _ none) (fun k hk => by cases hk)).kept hg5 (fun k hk => by have := hrw k hk; omega)).mono (by omega)
            have Hfin := Lib.hid hfin
            clear hfin ho5 hg5
            go_wp2_with fail
            go_roundw
            case rel => have h9 := Hfin.out; simpa using h9
            case measure => simp [intOf] <;> omega
          · go_wp2_with (first
              | (at_builtin; go_loud (refine wpList_append_own _ rfl (.tmp 38) (.tmp 48) 23 rfl w5.heap.size 3 i0 (.int .i64 0) 1 8 Try.underlying23 hi hz0 hz1 hz2 rfl (by decide) _ k (ints ys) (by rfl) (Ho4.out.alloc _) ⟨w4.heap.size, 0, none⟩ 1 1 [.int .i64 _] (by rfl) (by rfl) (cell_one_new _ _ _) (ints_oneCell _ [_]) (by unfold maxLen; omega) (by omega) (by simp; omega) ?_; intro v2' w5' ho5 hg5 _; obtain ⟨g6, c6, rfl⟩ := Joins.ownsRow_form ho5 (by omega))))
            have hfin : PtDraw w5 g 64 (.slice (some ⟨g6, 0, none⟩) (k + 1) c6) (.int .i64 (j1 : Int)) w5' := by
              have hrw : ∀ k', Value.ownBlock (.slice (some ⟨g1, 0, none⟩) k c1) = some k' → w5.heap.size ≤ k' := fun k' hk => (Ho4.out.lt k' hk).1
              refine ⟨j1, k + 1, ys ++ [x1 + 5], g6, c6, rfl, by omega, by rw [List.length_append, Hxl.out]; rfl, rfl, by simpa [ints] using ho5, ?_, grownBy_step (grownBy_step Hg4'.out (World.grownBy_alloc w4 _ none) (fun k hk => by cases hk)) hg5 (fun k hk => .inr (hrw k hk))⟩
              exact ((Hr4'.out.kept (World.grownBy_alloc w4 _ none) (fun k hk => by cases hk)).kept hg5 (fun k hk => by have := hrw k hk; omega)).mono (by omega)
            have Hfin := Lib.hid hfin
            clear hfin ho5 hg5
            go_wp2_with fail
            go_roundw
            case rel => have h9 := Hfin.out; simpa using h9
            case measure => simp [intOf] <;> omega
        · obtain rfl : j = 0 := by omega
          have HN := Lib.hid hxl.symm
          have hB5 := Hg5.out.size
          have HOx := Lib.hid (Joins.ownsRow_le (own_rd Ho5.out hg hgl) Hb1.out.size)
          have HOy := Lib.hid (Joins.ownsRow_le ho (show w.heap.size ≤ w5.heap.size by have := Hb1.out.size; omega))
          have HB := Lib.hid ((Hb1.out.grown Hg5.out Hb1.out.size (fun k e => by cases e; rw [Hg0.out]; exact Nat.le_refl _)).grown hg (by have := Hb1.out.size; omega) (fun k e => by cases e; rw [Hg0.out]; exact Nat.le_refl _))
          clear hxl ho hr hg
          go_wp2_with fail
          go_ret3
          exact ⟨xs, ys, V, gx, n, c, g1, k, c1, Hn.out, HN.out, rfl, HOx.out, HOy.out, hl, by omega, hV0, hV1, HB.out⟩

end Go.Proofs.Ytgkcpmhgmhioiaa

/- BagC -/
/- Multisets: one below another one is one that is less. -/
namespace Go.Proofs.Ytgkcpmhgmhioiaa
set_option maxRecDepth 100000
open Go.RowKit

/-- What is not greater. -/
def dropG (x : Int) : List Int → List Int
  | [] => []
  | y :: ys => if x < y then dropG x ys else y :: ys
/-- What one multiset has more than another one, both by descending value. -/
def wo : List Int → List Int → List Int
  | [], _ => []
  | x :: xs, ys => if (dropG x ys).head? = some x then wo xs (dropG x ys).tail else x :: wo xs (dropG x ys)

theorem dropG_gt {x y : Int} {ys : List Int} (h : x < y) : dropG x (y :: ys) = dropG x ys := by rw [dropG, if_pos h]
theorem dropG_le {x y : Int} {ys : List Int} (h : ¬ x < y) : dropG x (y :: ys) = y :: ys := by rw [dropG, if_neg h]
theorem dropG_rep {x k : Int} (h : x < k) (t : List Int) : ∀ a : Nat, dropG x (List.replicate a k ++ t) = dropG x t
  | 0 => rfl
  | a + 1 => by rw [List.replicate_succ, List.cons_append, dropG_gt h, dropG_rep h t a]
theorem wo_eq {x : Int} {xs ys : List Int} : wo (x :: xs) (x :: ys) = wo xs ys := by
  rw [wo, dropG_le (by omega)]; simp
theorem wo_keep {x : Int} {xs ys : List Int} (h : ∀ y ∈ ys, y < x) : wo (x :: xs) ys = x :: wo xs ys := by
  cases ys with
  | nil => rfl
  | cons y ys =>
    have h1 := h y List.mem_cons_self
    rw [wo, dropG_le (by omega)]
    simp
    omega
theorem wo_skip (k : Int) (t : List Int) : ∀ (s : List Int) (a : Nat), (∀ x ∈ s, x < k) → wo s (List.replicate a k ++ t) = wo s t
  | [], _, _ => by rw [wo, wo]
  | x :: s, a, h => by rw [wo, wo, dropG_rep (h x List.mem_cons_self)]
theorem wo_rep (k : Int) (s t : List Int) (hs : ∀ x ∈ s, x < k) (ht : ∀ x ∈ t, x < k) : ∀ a b : Nat,
    wo (List.replicate a k ++ s) (List.replicate b k ++ t) = List.replicate (a - b) k ++ wo s t
  | 0, b => by simpa using wo_skip k t s b hs
  | a + 1, 0 => by
    have ih := wo_rep k s t hs ht a 0
    rw [List.replicate_succ, List.cons_append]
    simp only [List.replicate_zero, List.nil_append] at ih ⊢
    rw [wo_keep ht, ih]
    simp [List.replicate_succ]
  | a + 1, b + 1 => by
    rw [List.replicate_succ, List.replicate_succ, List.cons_append, List.cons_append, wo_eq, wo_rep k s t hs ht a b, Nat.add_sub_add_right]
theorem wo_mem {z : Int} : ∀ (xs ys : List Int), z ∈ wo xs ys → z ∈ xs
  | [], _, h => by rw [wo] at h; exact h
  | x :: xs, ys, h => by
    rw [wo] at h
    split at h
    · exact List.mem_cons_of_mem _ (wo_mem xs _ h)
    · rcases List.mem_cons.1 h with rfl | h
      · exact List.mem_cons_self
      · exact List.mem_cons_of_mem _ (wo_mem xs _ h)
theorem wo_len : ∀ (xs ys : List Int), (wo xs ys).length ≤ xs.length
  | [], _ => by simp [wo]
  | x :: xs, ys => by
    rw [wo]
    split
    · have := wo_len xs (dropG x ys).tail; simp; omega
    · have := wo_len xs (dropG x ys); simp; omega

/-- What is gone and what is put in decide. -/
def belG (gone put : List Int) : Bool := match gone, put with
  | [], _ => false
  | _ :: _, [] => true
  | g :: _, p :: _ => decide (p < g)
theorem belG_counts : ∀ (k : Nat) (xs ys : List Int), xs.Pairwise (fun a b => b ≤ a) → ys.Pairwise (fun a b => b ≤ a) → (∀ x ∈ xs, 0 ≤ x ∧ x < k) → (∀ x ∈ ys, 0 ≤ x ∧ x < k) →
    belG (wo ys xs) (wo xs ys) = decide (cmpC xs ys k = -1) := by
  intro k
  induction k with
  | zero =>
    intro xs ys _ _ hx hy
    have h1 : xs = [] := List.eq_nil_iff_forall_not_mem.2 (fun x h => by have := hx x h; omega)
    have h2 : ys = [] := List.eq_nil_iff_forall_not_mem.2 (fun x h => by have := hy x h; omega)
    subst h1 h2
    rfl
  | succ k ih =>
    intro xs ys px py hx hy
    obtain ⟨s, e1, ps, hs⟩ := desc_split k xs px (fun x h => by have := hx x h; omega)
    obtain ⟨t, e2, pt, ht⟩ := desc_split k ys py (fun x h => by have := hy x h; omega)
    rw [cmpC]
    have h3 := ih s t ps pt hs ht
    obtain ⟨a, ha⟩ : ∃ a, a = xs.count (k : Int) := ⟨_, rfl⟩
    obtain ⟨b, hb⟩ : ∃ b, b = ys.count (k : Int) := ⟨_, rfl⟩
    rw [← ha] at e1 ⊢
    rw [← hb] at e2 ⊢
    have h4 : cmpC xs ys k = cmpC s t k := by rw [e1, e2]; exact cmpC_rep k a b s t k (Nat.le_refl _)
    rw [h4, e1, e2, wo_rep k s t (fun x h => (hs x h).2) (fun x h => (ht x h).2), wo_rep k t s (fun x h => (ht x h).2) (fun x h => (hs x h).2)]
    rcases Nat.lt_trichotomy a b with h | h | h
    · rw [if_pos h, show a - b = 0 by omega, show b - a = (b - a - 1) + 1 by omega, List.replicate_succ]
      simp only [List.replicate_zero, List.nil_append, List.cons_append]
      cases hw : wo s t with
      | nil => rfl
      | cons p q =>
        have hp := hs p (wo_mem s t (by rw [hw]; exact List.mem_cons_self))
        simp [belG]
        omega
    · subst h
      rw [if_neg (by omega), if_neg (by omega), Nat.sub_self]
      simpa using h3
    · rw [if_neg (by omega), if_pos h, show b - a = 0 by omega, show a - b = (a - b - 1) + 1 by omega, List.replicate_succ]
      simp only [List.replicate_zero, List.nil_append, List.cons_append]
      cases hw : wo t s with
      | nil => rfl
      | cons p q =>
        have hp := ht p (wo_mem t s (by rw [hw]; exact List.mem_cons_self))
        simp [belG]
        omega
theorem belG_bag {xs ys : List Int} (h1 : bagB xs = true) (h2 : bagB ys = true) : belG (wo ys xs) (wo xs ys) = decide (cmpL xs ys = -1) := by
  rw [cmpL_cmpC h1 h2]
  exact belG_counts 10 xs ys (bag_pw h1) (bag_pw h2) (bag_bnd h1) (bag_bnd h2)

/-- Whether one multiset is below another one. -/
noncomputable def bagBel (xs ys : List Int) : Bool := decide (bagCmp xs ys = -1)
theorem bagBel_1 {xs ys : List Int} (h : bagB xs = false) : bagBel xs ys = false := by rw [bagBel, bagCmp_1 h]; rfl
theorem bagBel_2 {xs ys : List Int} (h : bagB ys = false) : bagBel xs ys = false := by rw [bagBel, bagCmp_2 h]; rfl
theorem bagBel_in {xs ys : List Int} (h1 : bagB xs = true) (h2 : bagB ys = true) : bagBel xs ys = belG (wo ys xs) (wo xs ys) := by rw [bagBel, bagCmp_in h1 h2, belG_bag h1 h2]

end Go.Proofs.Ytgkcpmhgmhioiaa

/- BagRm -/
/- Multisets: one number replaced by lesser ones: what it makes. No memory. -/
namespace Go.Proofs.Ytgkcpmhgmhioiaa
set_option maxRecDepth 100000
open Go.RowKit

theorem wo_nil : ∀ xs : List Int, wo xs [] = xs
  | [] => by rw [wo]
  | x :: t => by rw [wo, dropG, if_neg (by simp), wo_nil t]
/-- One number is gone. -/
theorem wo_erase {V : Int} : ∀ xs : List Int, xs.Pairwise (fun a b => b ≤ a) → V ∈ xs → wo xs [V] = xs.erase V
  | [], _, h => by cases h
  | x :: t, hp, h => by
    have h1 := List.pairwise_cons.1 hp
    by_cases hx : x = V
    · subst hx
      rw [wo, dropG_le (by omega), if_pos (by simp), List.tail_cons, wo_nil, List.erase_cons_head]
    · have ht : V ∈ t := by
        rcases List.mem_cons.1 h with h | h
        · exact absurd h.symm hx
        · exact h
      have := h1.1 V ht
      rw [wo, dropG_le (by omega), if_neg (by simp; omega), wo_erase t h1.2 ht, List.erase_cons_tail (by simpa using hx)]
theorem take_succ_getD {xs : List Int} {i : Nat} (hi : i < xs.length) : xs.take (i + 1) = xs.take i ++ [xs.getD i 0] := by
  rw [List.take_succ_eq_append_getElem hi]
  simp [List.getD, hi]
theorem put_skip {xs : List Int} {i : Nat} (hi : i < xs.length) (hn : xs.getD i 0 ∉ xs.take i) : (xs.take (i + 1)).erase (xs.getD i 0) = (xs.take i).erase (xs.getD i 0) ∧ xs.getD i 0 ∈ xs.take (i + 1) := by
  rw [take_succ_getD hi, List.erase_append_right _ hn, List.erase_of_not_mem hn]
  simp
theorem put_keep {xs : List Int} {V : Int} {i : Nat} (hi : i < xs.length) (h : V ∈ xs.take i ∨ xs.getD i 0 ≠ V) :
    (xs.take (i + 1)).erase V = (xs.take i).erase V ++ [xs.getD i 0] ∧ (V ∈ xs.take (i + 1) ↔ V ∈ xs.take i) := by
  rw [take_succ_getD hi]
  by_cases hm : V ∈ xs.take i
  · rw [List.erase_append_left _ hm]
    exact ⟨rfl, by simp [hm]⟩
  · have h2 : xs.getD i 0 ≠ V := h.resolve_left hm
    rw [List.erase_append_right _ hm, List.erase_of_not_mem hm, List.erase_of_not_mem (by simp; exact fun e => h2 (by simpa using e.symm))]
    refine ⟨rfl, ?_⟩
    simp only [List.mem_append, List.mem_singleton]
    exact ⟨fun h => h.resolve_right (fun e => h2 e.symm), .inl⟩

noncomputable def putOk (xs : List Int) (V : Int) (ys : List Int) : Bool := ((bagB xs && decide (V ∈ xs)) && upTo (V - 1) ys) && decide (xs.length - 1 + ys.length ≤ 16)
noncomputable def putRow (xs : List Int) (V : Int) (ys : List Int) : List Int := if putOk xs V ys = true then flat (ys ++ xs.erase V) 10 else []
theorem putOk_1 {xs ys : List Int} {V : Int} (h : bagB xs = false) : putOk xs V ys = false := by rw [putOk, h]; rfl
theorem putOk_2 {xs ys : List Int} {V : Int} (h : V ∉ xs) : putOk xs V ys = false := by rw [putOk, decide_eq_false h, Bool.and_false]; rfl
theorem putOk_3 {xs ys : List Int} {V : Int} (h : upTo (V - 1) ys = false) : putOk xs V ys = false := by rw [putOk, h, Bool.and_false]; rfl
theorem putOk_4 {xs ys : List Int} {V : Int} (h : ¬ xs.length - 1 + ys.length ≤ 16) : putOk xs V ys = false := by rw [putOk, decide_eq_false h, Bool.and_false]
theorem putOk_yes {xs ys : List Int} {V : Int} (h1 : bagB xs = true) (h2 : V ∈ xs) (h3 : upTo (V - 1) ys = true) (h4 : xs.length - 1 + ys.length ≤ 16) : putOk xs V ys = true := by
  rw [putOk, h1, decide_eq_true h2, h3, decide_eq_true h4]; rfl
theorem putOk_in {xs ys : List Int} {V : Int} (h : putOk xs V ys = true) : bagB xs = true ∧ V ∈ xs ∧ upTo (V - 1) ys = true ∧ xs.length - 1 + ys.length ≤ 16 := by
  simp only [putOk, Bool.and_eq_true, decide_eq_true_eq] at h
  exact ⟨h.1.1.1, h.1.1.2, h.1.2, h.2⟩
theorem putRow_no {xs ys : List Int} {V : Int} (h : putOk xs V ys = false) : putRow xs V ys = [] := by rw [putRow, if_neg (by rw [h]; simp)]
theorem putRow_yes {xs ys : List Int} {V : Int} (h : putOk xs V ys = true) : putRow xs V ys = flat (ys ++ xs.erase V) 10 := by rw [putRow, if_pos h]
theorem put_items {xs ys : List Int} {V : Int} (h : putOk xs V ys = true) : itemsB (ys ++ xs.erase V) = true := by
  obtain ⟨h1, h2, h3, h4⟩ := putOk_in h
  have h5 := itemsB_true.1 (bagB_true.1 h1).1
  have h6 := upTo_true.1 h5.2
  refine itemsB_true.2 ⟨by rw [List.length_append, List.length_erase_of_mem h2]; omega, upTo_true.2 (fun x hx => ?_)⟩
  rcases List.mem_append.1 hx with hx | hx
  · have := upTo_true.1 h3 x hx
    have := h6 V h2
    omega
  · exact h6 x (List.mem_of_mem_erase hx)
theorem putRow_yes' {xs ys : List Int} {V : Int} (h : putOk xs V ys = true) : putRow xs V ys = bagOf (ys ++ xs.erase V) := by
  rw [putRow_yes h, bagOf_in (put_items h)]
theorem putRow_len (xs : List Int) (V : Int) (ys : List Int) : (putRow xs V ys).length ≤ 1000 := by
  rw [putRow]
  split
  · rename_i h
    have := bagOf_len (ys ++ xs.erase V)
    rw [bagOf_in (put_items h)] at this
    omega
  · simp

end Go.Proofs.Ytgkcpmhgmhioiaa

/- BagPO -/
/- Multisets are in the order of their ordinals. -/
namespace Go.Proofs.Ytgkcpmhgmhioiaa
set_option maxRecDepth 100000
open Go.RowKit
namespace T

theorem cts_below {q s r : T} {m : Int} (h : ok (some q) r) : r.cmp (c m q s) = -1 := by
  cases r with
  | z => rfl
  | c n e r' =>
    have h1 := ok_c.1 h
    rw [cmp_c, if_neg (by rw [h1]; decide), h1]
theorem cts_above {q s r : T} {m : Int} (h : ok (some q) r) : (c m q s).cmp r = 1 := by
  have h1 := cts_below (m := m) (s := s) h
  have h2 := cmp_swap (c m q s) r
  omega
theorem cts_cmp (xs ys : List Int) : ∀ k, (cts xs k).cmp (cts ys k) = cmpC xs ys k
  | 0 => rfl
  | k + 1 => by
    have ih := cts_cmp xs ys k
    rw [cmpC]
    by_cases hx : xs.count (k : Int) = 0
    · rw [cts_skip hx]
      by_cases hy : ys.count (k : Int) = 0
      · rw [cts_skip hy, if_neg (by omega), if_neg (by omega)]; exact ih
      · rw [cts_next hy, if_pos (by omega)]
        exact cts_below (cts_ok xs k k (Nat.le_refl _))
    · rw [cts_next hx]
      by_cases hy : ys.count (k : Int) = 0
      · rw [cts_skip hy, if_neg (by omega), if_pos (by omega)]
        exact cts_above (cts_ok ys k k (Nat.le_refl _))
      · rw [cts_next hy, cmp_c, if_pos (cmp_refl _), ih]
        by_cases h1 : xs.count (k : Int) < ys.count (k : Int)
        · rw [if_pos h1, if_pos (by omega)]
        · rw [if_neg h1, if_neg (by omega)]
          by_cases h2 : ys.count (k : Int) < xs.count (k : Int)
          · rw [if_pos h2, if_pos (by omega)]
          · rw [if_neg h2, if_neg (by omega)]
theorem bagOrd_cmp {xs ys : List Int} (h1 : bagB xs = true) (h2 : bagB ys = true) : cmpRow (bagOrd xs) (bagOrd ys) = cmpL xs ys := by
  rw [cmpRow_val (bagOrd_vld h1) (bagOrd_vld h2), bagOrd_in h1, bagOrd_in h2, of_enc, of_enc, cts_cmp, cmpL_cmpC h1 h2]
theorem bagOrd_top {xs : List Int} (h : bagB xs = true) : cmpRow (bagOrd xs) (powRow (num' ((10 : Nat) : Int))) = -1 := by
  have h1 := nT_row (e := 10) (by omega)
  have hnl := nT_len 10
  have hnf := nT_nf (e := 10) (by omega)
  have hcl : (c 1 (nT 10) z).enc.length ≤ 60 := by simp [enc, body]; have := enc_len (nT 10); omega
  have hcn : (c 1 (nT 10) z).Nf := ⟨by decide, by decide, hnf, trivial, ok_z _⟩
  have hp : powRow (num' ((10 : Nat) : Int)) = (c 1 (nT 10) z).enc := by
    rw [powRow, h1, if_pos (vld_mk hnf (by omega)), of_enc]
    rw [fit, if_pos (vld_mk hcn hcl)]
  rw [hp, cmpRow_val (bagOrd_vld h) (vld_mk hcn hcl), bagOrd_in h, of_enc, of_enc]
  exact cts_below (cts_ok xs 10 10 (Nat.le_refl _))
theorem bagOrd_pos {xs : List Int} (h : bagB xs = true) : 0 < (bagOrd xs).length := by rw [bagOrd_in h, enc_len]; omega
end T

theorem bagL_swap : ∀ xs ys : List Int, cmpL ys xs = - cmpL xs ys
  | [], [] => rfl
  | [], _ :: _ => rfl
  | _ :: _, [] => rfl
  | x :: xs, y :: ys => by
    rcases Int.lt_trichotomy x y with h | h | h
    · rw [cmpL_lt h, cmpL_gt h]; rfl
    · subst h; rw [cmpL_eq, cmpL_eq, bagL_swap xs ys]
    · rw [cmpL_lt h, cmpL_gt h]
theorem bagCmp_cases (xs ys : List Int) : bagCmp xs ys = -2 ∨ ((bagB xs = true ∧ bagB ys = true) ∧ bagCmp xs ys = cmpL xs ys) := by
  by_cases h : bagB xs = true ∧ bagB ys = true
  · exact .inr ⟨h, bagCmp_in h.1 h.2⟩
  · exact .inl (by rw [bagCmp, if_neg h])

end Go.Proofs.Ytgkcpmhgmhioiaa

/- BagD -/
/- Multisets: what one has more than another one, and whether it is below, by the program. -/
namespace Go.Proofs.Ytgkcpmhgmhioiaa
set_option maxRecDepth 100000
open Go.RowKit

/-- A slice without its first number. -/
theorem Sl.tail1 {w : World} {b off q c : Nat} {y : Int} {t : List Int} (h : Sl w (some ⟨b, off, none⟩) (q + 1) c (y :: t)) (hc : c = 1) : Sl w (some ⟨b, off, none⟩) 0 0 t ∧ q = 0 := by
  have h1 := h.1
  have h2 := h.2.1
  have hq : q = 0 := by omega
  subst hq
  have ht : t = [] := List.length_eq_zero_iff.1 (by simpa using h1)
  subst ht
  exact ⟨⟨rfl, Nat.le_refl _, Nat.zero_le _, fun h => by omega⟩, rfl⟩
theorem Sl.tail2 {w : World} {b off q c : Nat} {y : Int} {t : List Int} (h : Sl w (some ⟨b, off, none⟩) (q + 1) c (y :: t)) : Sl w (some ⟨b, off + 1, none⟩) q (c - 1) t := by
  have h1 := h.1
  have h2 := h.2.1
  have h3 := h.2.2.1
  refine ⟨by simpa using h1, by omega, by omega, fun _ => ⟨b, off + 1, rfl, ?_⟩⟩
  obtain ⟨b', o', he, hat⟩ := h.2.2.2 (by omega)
  cases he
  have h4 := hat.drop 1
  exact h4

def WoRel (w : World) (xs ys : List Int) (n1 gk : Nat) (v1 v5 v10 : Value) (wr : World) : Prop :=
  ∃ (i k : Nat) (a2 : Option Addr) (n2 c2 : Nat) (zs : List Int) (a5 : Option Addr) (c5 : Nat) (ls : List Int), v10 = .int .i64 i ∧ gk + i = n1 ∧ v1 = .slice a2 n2 c2 ∧ Sl w a2 n2 c2 zs ∧ v5 = .slice a5 k c5 ∧
    wr.ownsRow w.heap.size 3 1 v5 k (ints ls) ∧ ls.length = k ∧ k ≤ i ∧ Hid (wo xs ys = ls ++ wo (xs.drop i) zs) ∧ Below w.heap.size w wr

set_option maxHeartbeats 8000000 in
theorem without_any (a1 a2 : Option Addr) (n1 c1 n2 c2 : Nat) (xs ys : List Int) (w : World) (hn : n1 ≤ 100) (_hn2 : n2 ≤ 100) (hx : Sl w a1 n1 c1 xs) (hy : Sl w a2 n2 c2 ys) :
    Calls Try.prog 64 #[.slice a1 n1 c1, .slice a2 n2 c2] w fun e w' => ∃ a c, e = .returned (.slice a (wo xs ys).length c) ∧ w'.ownsRow w.heap.size 3 1 (.slice a (wo xs ys).length c) (wo xs ys).length (ints (wo xs ys)) ∧ Below w.heap.size w w' := by
  obtain ⟨i0, hi, hz0, hz1, hz2⟩ := info_parts info_int
  have HX := Lib.hid hx
  have X1 := Lib.hid hx.1
  have hst : WoRel w xs ys n1 n1 (.slice a2 n2 c2) (.slice none 0 0) (.int .i64 (0 : Nat)) w := ⟨0, 0, a2, n2, c2, ys, none, 0, [], rfl, rfl, rfl, hy, rfl, ⟨rfl, .inl ⟨rfl, rfl⟩⟩, rfl, Nat.le_refl _, Lib.hid rfl, Below.refl _ _⟩
  have Hst := Lib.hid hst
  clear hx hy hst
  go_enter Try.func64, Try.ntmps64
  go_wp2_with fail
  go_loopg [1, 5, 7, 10] n1 (fun gk v1 v5 _ v10 wr => WoRel w xs ys n1 gk v1 v5 v10 wr)
  case atStart => exact Hst.out
  case round =>
    obtain ⟨i, k, a2, n2, c2, zs, a5, c5, ls, rfl, hgk, rfl, hs, rfl, ho, hls, hki, HW, hb⟩ := hrel
    obtain ⟨gA, rfl⟩ : ∃ gA, gA = gk := ⟨_, rfl⟩
    obtain ⟨wB, rfl⟩ : ∃ wB : World, wB = wr := ⟨_, rfl⟩
    have Hgk := Lib.hid hgk
    have Hls := Lib.hid hls
    have Ho := Lib.hid ho
    have Hb := Lib.hid hb
    have hwB := hb.size
    have hin : i ≤ n1 := by omega
    have hk100 : k ≤ 100 := by omega
    by_cases hlt : i < n1
    · obtain ⟨b, off, rfl, hat⟩ := HX.out.2.2.2 (by omega)
      obtain ⟨x, xt, hdx, hdx1⟩ := drop_cons (xs := xs) (a := i) (by rw [X1.out]; exact hlt)
      have hbl : b < w.heap.size := hat.lt (by intro h9; rw [h9] at hdx; simp at hdx)
      have y0 := (hat.below hb hbl).get hdx
      have Hdx := Lib.hid hdx
      have Hdx1 := Lib.hid hdx1
      have Hs := Lib.hid hs
      clear hgk hls ho hb hs hat hdx hdx1
      go_wp2_with fail
      go_loopg [1] n2 (fun gk v1 wr => ∃ (a : Option Addr) (c : Nat) (zs2 : List Int), v1 = .slice a gk c ∧ Sl w a gk c zs2 ∧ Hid (dropG x zs2 = dropG x zs) ∧ wB = wr)
      case atStart => exact ⟨a2, c2, zs, rfl, Hs.out, Lib.hid rfl, rfl⟩
      case round =>
        obtain ⟨a2, c2, zs2, rfl, hs2, HG0, rfl⟩ := hrel
        cases zs2 with
        | nil =>
          obtain rfl : gk = 0 := by have := hs2.1; simpa using this.symm
          have HG := Lib.hid (show dropG x zs = [] from HG0.out.symm)
          have HS0 := Lib.hid hs2
          clear hs2 HG0 Hs
          have hwo : wo (xs.drop i) zs = x :: wo (xs.drop (i + 1)) [] := by rw [Hdx.out, Hdx1.out, wo, HG.out, if_neg (by simp)]
          have Hwo := Lib.hid (show wo xs ys = (ls ++ [x]) ++ wo (xs.drop (i + 1)) [] by rw [HW.out, hwo]; simp)
          clear hwo
          go_wp2_with (first
            | (at_builtin; refine wpList_append_own _ rfl (.tmp 38) (.tmp 40) 61 rfl w.heap.size 3 i0 (.int .i64 0) 1 8 Try.underlying61 hi hz0 hz1 hz2 rfl (by decide) _ k (ints ls) rfl (Ho.out.alloc _) ⟨wB.heap.size, 0, none⟩ 1 1 [.int .i64 x] rfl rfl (cell_one_new _ _ _) (ints_oneCell _ [x]) (by unfold maxLen; omega) (by omega) (by simp; omega) ?_; intro v3 wD ho3 hg3 _; obtain ⟨g6, c6, rfl⟩ := Joins.ownsRow_form ho3 (by omega)))
          have hfin : WoRel w xs ys n1 (gA - 1) (.slice a2 0 c2) (.slice (some ⟨g6, 0, none⟩) (k + 1) c6) (.int .i64 ((i : Int) + 1)) wD :=
            ⟨i + 1, k + 1, a2, 0, c2, [], some ⟨g6, 0, none⟩, c6, ls ++ [x], by go_num, by have := Hgk.out; omega, rfl, HS0.out, rfl, by simpa [ints] using ho3, by rw [List.length_append, Hls.out]; rfl, by omega, Hwo, (Hb.out.alloc hwB _).grown hg3 (by simp; omega) (fun r e => (Ho.out.lt r e).1)⟩
          have Hfin := Lib.hid hfin
          clear hfin ho3 hg3
          go_wp2_with fail
          go_roundg (gA - 1)
          case measure => have := Hgk.out; omega
          case rel => exact Hfin.out
        | cons y t =>
          obtain ⟨q, rfl⟩ : ∃ q, gk = q + 1 := ⟨gk - 1, by have := hs2.1; simp at this; omega⟩
          obtain ⟨b2, off2, rfl, hat2⟩ := hs2.2.2.2 (by omega)
          have hb2 : b2 < w.heap.size := hat2.lt (by simp)
          have z0 := (hat2.below Hb.out hb2).head
          have HSy := Lib.hid hs2
          have hqc := hs2.2.1
          have hcm := hs2.2.2.1
          clear hat2 hs2 Hs
          by_cases hxy : x < y
          · have HGt := Lib.hid (show dropG x t = dropG x zs by rw [← HG0.out, dropG_gt hxy])
            by_cases hc1 : c2 = 1
            · have HSt0 := HSy.out.tail1 hc1
              obtain rfl := HSt0.2
              have HSt := Lib.hid HSt0.1
              subst hc1
              clear HSt0
              go_wp2_with fail
              go_roundg 0
              case measure => omega
              case rel => exact ⟨(some ⟨b2, off2, none⟩), 0, t, rfl, HSt.out, HGt, rfl⟩
            · have hc1' : ¬ (c2 : Int) = 1 := by omega
              have HSt := Lib.hid HSy.out.tail2
              have h1c : (1 : Int) ≤ (c2 : Int) := by omega
              go_wp2_with fail
              go_roundg q
              case measure => omega
              case rel => exact ⟨(some ⟨b2, off2 + 1, none⟩), (c2 - 1), t, rfl, HSt.out, HGt, rfl⟩
          · have HG := Lib.hid (show dropG x zs = y :: t by rw [← HG0.out, dropG_le hxy])
            have hxy' : decide (x < y) = false := by simpa using hxy
            clear HG0
            by_cases he : y = x
            · have hye : (y == x) = true := by simp [he]
              have Hwo := Lib.hid (show wo xs ys = ls ++ wo (xs.drop (i + 1)) t by rw [HW.out, Hdx.out, Hdx1.out, wo, HG.out, he]; simp)
              clear he
              by_cases hc1 : c2 = 1
              · have HSt0 := HSy.out.tail1 hc1
                obtain rfl := HSt0.2
                have HSt := Lib.hid HSt0.1
                subst hc1
                clear HSt0
                go_wp2_with fail
                go_roundg (gA - 1)
                case measure => have := Hgk.out; omega
                case rel => exact ⟨i + 1, k, (some ⟨b2, off2, none⟩), 0, 0, t, a5, c5, ls, by go_num, by have := Hgk.out; omega, rfl, HSt.out, rfl, Ho.out, Hls.out, by omega, Hwo, Hb.out⟩
              · have hc1' : ¬ (c2 : Int) = 1 := by omega
                have HSt := Lib.hid HSy.out.tail2
                have h1c : (1 : Int) ≤ (c2 : Int) := by omega
                go_wp2_with fail
                go_roundg (gA - 1)
                case measure => have := Hgk.out; omega
                case rel => exact ⟨i + 1, k, (some ⟨b2, off2 + 1, none⟩), q, (c2 - 1), t, a5, c5, ls, by go_num, by have := Hgk.out; omega, rfl, HSt.out, rfl, Ho.out, Hls.out, by omega, Hwo, Hb.out⟩
            · have hye : (y == x) = false := by simp [he]
              have hwo : wo (xs.drop i) zs = x :: wo (xs.drop (i + 1)) (y :: t) := by rw [Hdx.out, Hdx1.out, wo, HG.out, if_neg (by simpa using he)]
              have Hwo := Lib.hid (show wo xs ys = (ls ++ [x]) ++ wo (xs.drop (i + 1)) (y :: t) by rw [HW.out, hwo]; simp)
              clear hwo
              go_wp2_with (first
                | (at_builtin; refine wpList_append_own _ rfl (.tmp 38) (.tmp 40) 61 rfl w.heap.size 3 i0 (.int .i64 0) 1 8 Try.underlying61 hi hz0 hz1 hz2 rfl (by decide) _ k (ints ls) rfl (Ho.out.alloc _) ⟨wB.heap.size, 0, none⟩ 1 1 [.int .i64 x] rfl rfl (cell_one_new _ _ _) (ints_oneCell _ [x]) (by unfold maxLen; omega) (by omega) (by simp; omega) ?_; intro v3 wD ho3 hg3 _; obtain ⟨g6, c6, rfl⟩ := Joins.ownsRow_form ho3 (by omega)))
              have hfin : WoRel w xs ys n1 (gA - 1) (.slice (some ⟨b2, off2, none⟩) (q + 1) c2) (.slice (some ⟨g6, 0, none⟩) (k + 1) c6) (.int .i64 ((i : Int) + 1)) wD :=
                ⟨i + 1, k + 1, (some ⟨b2, off2, none⟩), (q + 1), c2, (y :: t), some ⟨g6, 0, none⟩, c6, ls ++ [x], by go_num, by have := Hgk.out; omega, rfl, HSy.out, rfl, by simpa [ints] using ho3, by rw [List.length_append, Hls.out]; rfl, by omega, Hwo, (Hb.out.alloc hwB _).grown hg3 (by simp; omega) (fun r e => (Ho.out.lt r e).1)⟩
              have Hfin := Lib.hid hfin
              clear hfin ho3 hg3
              go_wp2_with fail
              go_roundg (gA - 1)
              case measure => have := Hgk.out; omega
              case rel => exact Hfin.out
    · obtain rfl : i = n1 := by omega
      have hend : wo xs ys = ls := by rw [HW.out, List.drop_eq_nil_of_le (by rw [X1.out]; exact Nat.le_refl _), wo, List.append_nil]
      have hfin : w.heap.size ≤ w.heap.size → ∃ a c, Ending.returned (.slice a5 k c5) = .returned (.slice a (wo xs ys).length c) ∧ wB.ownsRow w.heap.size 3 1 (.slice a (wo xs ys).length c) (wo xs ys).length (ints (wo xs ys)) ∧ Below w.heap.size w wB := by
        intro _
        rw [hend, hls]
        exact ⟨a5, c5, rfl, ho, hb⟩
      have Hfin := Lib.hid (hfin (Nat.le_refl _))
      clear hfin hend ho hb hls hs hgk
      go_wp2_with fail
      go_ret
      exact Hfin.out

end Go.Proofs.Ytgkcpmhgmhioiaa

/- BagE -/
/- Multisets: whether one is below another one, by the program and by the model. -/
namespace Go.Proofs.Ytgkcpmhgmhioiaa
set_option maxRecDepth 100000
open Go.RowKit

set_option maxHeartbeats 8000000 in
theorem below_any (a1 a2 : Option Addr) (n1 c1 n2 c2 : Nat) (xs ys : List Int) (w : World) (hn : n1 ≤ 100) (hn2 : n2 ≤ 100) (hx : Sl w a1 n1 c1 xs) (hy : Sl w a2 n2 c2 ys) :
    Calls Try.prog 68 #[.slice a1 n1 c1, .slice a2 n2 c2] w fun e w' => e = .returned (.bool (belG (wo ys xs) (wo xs ys))) ∧ Below w.heap.size w w' := by
  have k1 := Lib.hid (without_any a2 a1 n2 c2 n1 c1 ys xs w hn2 hn hy hx)
  have k2 := Lib.hid (fun wx hb => without_any a1 a2 n1 c1 n2 c2 xs ys wx hn hn2 (hx.below (w := w) hb) (hy.below hb))
  have hlG := wo_len ys xs
  have hlP := wo_len xs ys
  rw [hy.1] at hlG
  rw [hx.1] at hlP
  obtain ⟨G, hG⟩ : ∃ G, G = wo ys xs := ⟨_, rfl⟩
  obtain ⟨P, hP⟩ : ∃ P, P = wo xs ys := ⟨_, rfl⟩
  rw [← hG] at k1 hlG
  rw [← hP] at k2 hlP
  rw [← hG, ← hP]
  obtain ⟨o, ho⟩ : ∃ o, o = belG G P := ⟨_, rfl⟩
  rw [← ho]
  have Ho := Lib.hid ho
  obtain ⟨nG, hnG⟩ : ∃ nG, nG = G.length := ⟨_, rfl⟩
  obtain ⟨nP, hnP⟩ : ∃ nP, nP = P.length := ⟨_, rfl⟩
  rw [← hnG] at k1 hlG
  rw [← hnP] at k2 hlP
  have HG := Lib.hid hnG
  have HP := Lib.hid hnP
  clear hx hy hG hP hnG hnP ho
  go_enter Try.func68, Try.ntmps68
  go_wp2_with fail
  refine (k1.out).mono ?_
  rintro ee w1 ⟨aG, cG, rfl, hoG, hb1⟩
  have k3 := Lib.hid (k2.out w1 hb1)
  have Hb1 := Lib.hid hb1
  have HOG := Lib.hid hoG
  clear hb1 hoG
  go_wp2_with fail
  refine (k3.out).mono ?_
  rintro ee w2 ⟨aP, cP, rfl, hoP, hb2⟩
  have HbE := Lib.hid ((Hb1.out.trans (hb2.mono Hb1.out.size)).trans (Joins.below_draws _ w2 1))
  have HOG2 := Lib.hid (ownsRow_below' HOG.out hb2)
  have HOP := Lib.hid hoP
  clear hb2 hoP
  by_cases hg0 : nG = 0
  · subst hg0
    obtain rfl : G = [] := List.length_eq_zero_iff.1 HG.out.symm
    obtain rfl : o = false := by rw [Ho.out]; rfl
    go_wp2_with fail
    refine wp_region_any (by kernel_rfl) ?_
    try (change wpAny _ _ _ _ _ _ _ (World.drew _))
    refine wpAny_take (oi := ⟨some 13, _, _, _, _, _⟩) (i := 0) (v := .slice aG 0 cG) rfl (by kernel_rfl) (by kernel_rfl) (by kernel_rfl) (fun _ _ _ h => h) (Or.inl ⟨by kernel_rfl, fun w => by go_simp⟩) ?_
    simp only [Act.put, List.setIfInBounds_toArray, List.set_cons_zero, List.set_cons_succ]
    refine wpAny_take (oi := ⟨some 14, _, _, _, _, _⟩) (i := 1) (v := .int .i64 ((0 : Nat) : Int)) rfl (by kernel_rfl) (by kernel_rfl) (by kernel_rfl) (fun _ _ _ h => h) (Or.inl ⟨by kernel_rfl, fun w => by go_simp⟩) ?_
    simp only [Act.put, List.setIfInBounds_toArray, List.set_cons_zero, List.set_cons_succ]
    refine wpAny_take (oi := ⟨some 15, _, _, _, _, _⟩) (i := 2) (v := .bool false) rfl (by kernel_rfl) (by kernel_rfl) (by kernel_rfl) (fun _ _ _ h => h) (Or.inl ⟨by kernel_rfl, fun w => by go_simp⟩) ?_
    simp only [Act.put, List.setIfInBounds_toArray, List.set_cons_zero, List.set_cons_succ]
    refine wpAny_take (oi := ⟨some 16, _, _, _, _, _⟩) (i := 3) (v := .bool false) rfl (by kernel_rfl) (by kernel_rfl) (by kernel_rfl) (fun _ _ _ h => h) (Or.inl ⟨by kernel_rfl, fun w => by go_simp⟩) ?_
    simp only [Act.put, List.setIfInBounds_toArray, List.set_cons_zero, List.set_cons_succ]
    refine wpAny_take (oi := ⟨some 17, _, _, _, _, _⟩) (i := 4) (v := undef) rfl (by kernel_rfl) (by kernel_rfl) (by kernel_rfl) (fun _ _ _ h => h) (Or.inr ⟨by kernel_rfl, rfl⟩) ?_
    simp only [Act.put, List.setIfInBounds_toArray, List.set_cons_zero, List.set_cons_succ]
    refine wpAny_take (oi := ⟨some 18, _, _, _, _, _⟩) (i := 5) (v := undef) rfl (by kernel_rfl) (by kernel_rfl) (by kernel_rfl) (fun _ _ _ h => h) (Or.inr ⟨by kernel_rfl, rfl⟩) ?_
    simp only [Act.put, List.setIfInBounds_toArray, List.set_cons_zero, List.set_cons_succ]
    refine wpAny_take (oi := ⟨some 19, _, _, _, _, _⟩) (i := 6) (v := undef) rfl (by kernel_rfl) (by kernel_rfl) (by kernel_rfl) (fun _ _ _ h => h) (Or.inr ⟨by kernel_rfl, rfl⟩) ?_
    simp only [Act.put, List.setIfInBounds_toArray, List.set_cons_zero, List.set_cons_succ]
    refine wpAny_take (oi := ⟨some 20, _, _, _, _, _⟩) (i := 7) (v := undef) rfl (by kernel_rfl) (by kernel_rfl) (by kernel_rfl) (fun _ _ _ h => h) (Or.inr ⟨by kernel_rfl, rfl⟩) ?_
    simp only [Act.put, List.setIfInBounds_toArray, List.set_cons_zero, List.set_cons_succ]
    refine wpAny_take (oi := ⟨some 21, _, _, _, _, _⟩) (i := 8) (v := undef) rfl (by kernel_rfl) (by kernel_rfl) (by kernel_rfl) (fun _ _ _ h => h) (Or.inr ⟨by kernel_rfl, rfl⟩) ?_
    simp only [Act.put, List.setIfInBounds_toArray, List.set_cons_zero, List.set_cons_succ]
    refine wpAny_take (oi := ⟨some 22, _, _, _, _, _⟩) (i := 9) (v := undef) rfl (by kernel_rfl) (by kernel_rfl) (by kernel_rfl) (fun _ _ _ h => h) (Or.inr ⟨by kernel_rfl, rfl⟩) ?_
    simp only [Act.put, List.setIfInBounds_toArray, List.set_cons_zero, List.set_cons_succ]
    refine wpAny_take (oi := ⟨some 23, _, _, _, _, _⟩) (i := 10) (v := undef) rfl (by kernel_rfl) (by kernel_rfl) (by kernel_rfl) (fun _ _ _ h => h) (Or.inr ⟨by kernel_rfl, rfl⟩) ?_
    simp only [Act.put, List.setIfInBounds_toArray, List.set_cons_zero, List.set_cons_succ]
    refine wpAny_take (oi := ⟨some 24, _, _, _, _, _⟩) (i := 11) (v := undef) rfl (by kernel_rfl) (by kernel_rfl) (by kernel_rfl) (fun _ _ _ h => h) (Or.inr ⟨by kernel_rfl, rfl⟩) ?_
    simp only [Act.put, List.setIfInBounds_toArray, List.set_cons_zero, List.set_cons_succ]
    refine wpAny_take (oi := ⟨some 25, _, _, _, _, _⟩) (i := 12) (v := undef) rfl (by kernel_rfl) (by kernel_rfl) (by kernel_rfl) (fun _ _ _ h => h) (Or.inr ⟨by kernel_rfl, rfl⟩) ?_
    simp only [Act.put, List.setIfInBounds_toArray, List.set_cons_zero, List.set_cons_succ]
    refine wpAny_take (oi := ⟨some 26, _, _, _, _, _⟩) (i := 13) (v := undef) rfl (by kernel_rfl) (by kernel_rfl) (by kernel_rfl) (fun _ _ _ h => h) (Or.inr ⟨by kernel_rfl, rfl⟩) ?_
    simp only [Act.put, List.setIfInBounds_toArray, List.set_cons_zero, List.set_cons_succ]
    refine wpAny_take (oi := ⟨some 27, _, _, _, _, _⟩) (i := 14) (v := undef) rfl (by kernel_rfl) (by kernel_rfl) (by kernel_rfl) (fun _ _ _ h => h) (Or.inr ⟨by kernel_rfl, rfl⟩) ?_
    simp only [Act.put, List.setIfInBounds_toArray, List.set_cons_zero, List.set_cons_succ]
    refine wpAny_take (oi := ⟨some 28, _, _, _, _, _⟩) (i := 15) (v := undef) rfl (by kernel_rfl) (by kernel_rfl) (by kernel_rfl) (fun _ _ _ h => h) (Or.inr ⟨by kernel_rfl, rfl⟩) ?_
    simp only [Act.put, List.setIfInBounds_toArray, List.set_cons_zero, List.set_cons_succ]
    refine wpAny_take (oi := ⟨some 29, _, _, _, _, _⟩) (i := 16) (v := .bool false) rfl (by kernel_rfl) (by kernel_rfl) (by kernel_rfl) (fun _ _ _ h => h) (Or.inl ⟨by kernel_rfl, fun w => by go_simp⟩) ?_
    simp only [Act.put, List.setIfInBounds_toArray, List.set_cons_zero, List.set_cons_succ]
    refine wpAny_take (oi := ⟨some 4, _, _, _, _, _⟩) (i := 17) (v := .bool false) rfl (by kernel_rfl) (by kernel_rfl) (by kernel_rfl) (fun _ _ _ h => h) (Or.inl ⟨by kernel_rfl, fun w => by go_simp⟩) ?_
    simp only [Act.put, List.setIfInBounds_toArray, List.set_cons_zero, List.set_cons_succ]
    refine wpAny_done (by kernel_rfl) ?_ _
    go_wp2_with fail
    go_ret
    exact ⟨rfl, HbE.out⟩
  · have hg1 : (0 : Int) < (nG : Int) := by omega
    have hg2 : 0 < nG := by omega
    obtain ⟨g, gs, rfl⟩ : ∃ g gs, G = g :: gs := by
      cases G with
      | nil => exact absurd HG.out hg0
      | cons g gs => exact ⟨g, gs, rfl⟩
    by_cases hp0 : nP = 0
    · subst hp0
      obtain rfl : P = [] := List.length_eq_zero_iff.1 HP.out.symm
      obtain rfl : o = true := by rw [Ho.out]; rfl
      have hz : (((0 : Nat) : Int) == 0) = true := rfl
      go_wp2_with fail
      refine wp_region_any (by kernel_rfl) ?_
      try (change wpAny _ _ _ _ _ _ _ (World.drew _))
      refine wpAny_take (oi := ⟨some 13, _, _, _, _, _⟩) (i := 0) (v := .slice aG nG cG) rfl (by kernel_rfl) (by kernel_rfl) (by kernel_rfl) (fun _ _ _ h => h) (Or.inl ⟨by kernel_rfl, fun w => by go_simp⟩) ?_
      simp only [Act.put, List.setIfInBounds_toArray, List.set_cons_zero, List.set_cons_succ]
      refine wpAny_take (oi := ⟨some 14, _, _, _, _, _⟩) (i := 1) (v := .int .i64 nG) rfl (by kernel_rfl) (by kernel_rfl) (by kernel_rfl) (fun _ _ _ h => h) (Or.inl ⟨by kernel_rfl, fun w => by go_simp⟩) ?_
      simp only [Act.put, List.setIfInBounds_toArray, List.set_cons_zero, List.set_cons_succ]
      refine wpAny_take (oi := ⟨some 15, _, _, _, _, _⟩) (i := 2) (v := .bool true) rfl (by kernel_rfl) (by kernel_rfl) (by kernel_rfl) (fun _ _ _ h => h) (Or.inl ⟨by kernel_rfl, fun w => by go_simp⟩) ?_
      simp only [Act.put, List.setIfInBounds_toArray, List.set_cons_zero, List.set_cons_succ]
      refine wpAny_take (oi := ⟨some 16, _, _, _, _, _⟩) (i := 3) (v := .bool true) rfl (by kernel_rfl) (by kernel_rfl) (by kernel_rfl) (fun _ _ _ h => h) (Or.inl ⟨by kernel_rfl, fun w => by go_simp⟩) ?_
      simp only [Act.put, List.setIfInBounds_toArray, List.set_cons_zero, List.set_cons_succ]
      refine wpAny_take (oi := ⟨some 17, _, _, _, _, _⟩) (i := 4) (v := .slice aP 0 cP) rfl (by kernel_rfl) (by kernel_rfl) (by kernel_rfl) (fun _ _ _ h => h) (Or.inl ⟨by kernel_rfl, fun w => by go_simp⟩) ?_
      simp only [Act.put, List.setIfInBounds_toArray, List.set_cons_zero, List.set_cons_succ]
      refine wpAny_take (oi := ⟨some 18, _, _, _, _, _⟩) (i := 5) (v := .int .i64 ((0 : Nat) : Int)) rfl (by kernel_rfl) (by kernel_rfl) (by kernel_rfl) (fun _ _ _ h => h) (Or.inl ⟨by kernel_rfl, fun w => by go_simp⟩) ?_
      simp only [Act.put, List.setIfInBounds_toArray, List.set_cons_zero, List.set_cons_succ]
      refine wpAny_take (oi := ⟨some 19, _, _, _, _, _⟩) (i := 6) (v := .bool true) rfl (by kernel_rfl) (by kernel_rfl) (by kernel_rfl) (fun _ _ _ h => h) (Or.inl ⟨by kernel_rfl, fun w => by go_simp⟩) ?_
      simp only [Act.put, List.setIfInBounds_toArray, List.set_cons_zero, List.set_cons_succ]
      refine wpAny_take (oi := ⟨some 20, _, _, _, _, _⟩) (i := 7) (v := .bool true) rfl (by kernel_rfl) (by kernel_rfl) (by kernel_rfl) (fun _ _ _ h => h) (Or.inl ⟨by kernel_rfl, fun w => by go_simp⟩) ?_
      simp only [Act.put, List.setIfInBounds_toArray, List.set_cons_zero, List.set_cons_succ]
      refine wpAny_take (oi := ⟨some 21, _, _, _, _, _⟩) (i := 8) (v := undef) rfl (by kernel_rfl) (by kernel_rfl) (by kernel_rfl) (fun _ _ _ h => h) (Or.inr ⟨by kernel_rfl, rfl⟩) ?_
      simp only [Act.put, List.setIfInBounds_toArray, List.set_cons_zero, List.set_cons_succ]
      refine wpAny_take (oi := ⟨some 22, _, _, _, _, _⟩) (i := 9) (v := undef) rfl (by kernel_rfl) (by kernel_rfl) (by kernel_rfl) (fun _ _ _ h => h) (Or.inr ⟨by kernel_rfl, rfl⟩) ?_
      simp only [Act.put, List.setIfInBounds_toArray, List.set_cons_zero, List.set_cons_succ]
      refine wpAny_take (oi := ⟨some 23, _, _, _, _, _⟩) (i := 10) (v := undef) rfl (by kernel_rfl) (by kernel_rfl) (by kernel_rfl) (fun _ _ _ h => h) (Or.inr ⟨by kernel_rfl, rfl⟩) ?_
      simp only [Act.put, List.setIfInBounds_toArray, List.set_cons_zero, List.set_cons_succ]
      refine wpAny_take (oi := ⟨some 24, _, _, _, _, _⟩) (i := 11) (v := undef) rfl (by kernel_rfl) (by kernel_rfl) (by kernel_rfl) (fun _ _ _ h => h) (Or.inr ⟨by kernel_rfl, rfl⟩) ?_
      simp only [Act.put, List.setIfInBounds_toArray, List.set_cons_zero, List.set_cons_succ]
      refine wpAny_take (oi := ⟨some 25, _, _, _, _, _⟩) (i := 12) (v := undef) rfl (by kernel_rfl) (by kernel_rfl) (by kernel_rfl) (fun _ _ _ h => h) (Or.inr ⟨by kernel_rfl, rfl⟩) ?_
      simp only [Act.put, List.setIfInBounds_toArray, List.set_cons_zero, List.set_cons_succ]
      refine wpAny_take (oi := ⟨some 26, _, _, _, _, _⟩) (i := 13) (v := undef) rfl (by kernel_rfl) (by kernel_rfl) (by kernel_rfl) (fun _ _ _ h => h) (Or.inr ⟨by kernel_rfl, rfl⟩) ?_
      simp only [Act.put, List.setIfInBounds_toArray, List.set_cons_zero, List.set_cons_succ]
      refine wpAny_take (oi := ⟨some 27, _, _, _, _, _⟩) (i := 14) (v := undef) rfl (by kernel_rfl) (by kernel_rfl) (by kernel_rfl) (fun _ _ _ h => h) (Or.inr ⟨by kernel_rfl, rfl⟩) ?_
      simp only [Act.put, List.setIfInBounds_toArray, List.set_cons_zero, List.set_cons_succ]
      refine wpAny_take (oi := ⟨some 28, _, _, _, _, _⟩) (i := 15) (v := .bool true) rfl (by kernel_rfl) (by kernel_rfl) (by kernel_rfl) (fun _ _ _ h => h) (Or.inl ⟨by kernel_rfl, fun w => by go_simp⟩) ?_
      simp only [Act.put, List.setIfInBounds_toArray, List.set_cons_zero, List.set_cons_succ]
      refine wpAny_take (oi := ⟨some 29, _, _, _, _, _⟩) (i := 16) (v := .bool true) rfl (by kernel_rfl) (by kernel_rfl) (by kernel_rfl) (fun _ _ _ h => h) (Or.inl ⟨by kernel_rfl, fun w => by go_simp⟩) ?_
      simp only [Act.put, List.setIfInBounds_toArray, List.set_cons_zero, List.set_cons_succ]
      refine wpAny_take (oi := ⟨some 4, _, _, _, _, _⟩) (i := 17) (v := .bool true) rfl (by kernel_rfl) (by kernel_rfl) (by kernel_rfl) (fun _ _ _ h => h) (Or.inl ⟨by kernel_rfl, fun w => by go_simp⟩) ?_
      simp only [Act.put, List.setIfInBounds_toArray, List.set_cons_zero, List.set_cons_succ]
      refine wpAny_done (by kernel_rfl) ?_ _
      go_wp2_with fail
      go_ret
      exact ⟨rfl, HbE.out⟩
    · have hp2 : 0 < nP := by omega
      have hpz : ((nP : Int) == 0) = false := by simp; omega
      obtain ⟨p, ps, rfl⟩ : ∃ p ps, P = p :: ps := by
        cases P with
        | nil => exact absurd HP.out hp0
        | cons p ps => exact ⟨p, ps, rfl⟩
      obtain ⟨gG, cG', hv⟩ := Joins.ownsRow_form HOG2.out hg2
      simp only [Value.slice.injEq] at hv
      obtain ⟨rfl, _, rfl⟩ := hv
      obtain ⟨gP, cP', hv⟩ := Joins.ownsRow_form HOP.out hp2
      simp only [Value.slice.injEq] at hv
      obtain ⟨rfl, _, rfl⟩ := hv
      have y0 : w2.drew.cell? ⟨gG, 0, none⟩ = some (.int .i64 g) := HOG2.out.cellAt 0 (by omega)
      have y1 : w2.drew.cell? ⟨gP, 0, none⟩ = some (.int .i64 p) := HOP.out.cellAt 0 (by omega)
      have hod : o = decide (p < g) := by rw [Ho.out]; rfl
      by_cases hpg : p < g
      · obtain rfl : o = true := by rw [hod, decide_eq_true hpg]
        clear hod
        go_wp2_with fail
        refine wp_region_any (by kernel_rfl) ?_
        try (change wpAny _ _ _ _ _ _ _ (World.drew _))
        refine wpAny_take (oi := ⟨some 13, _, _, _, _, _⟩) (i := 0) (v := .slice (some ⟨gG, 0, none⟩) nG cG) rfl (by kernel_rfl) (by kernel_rfl) (by kernel_rfl) (fun _ _ _ h => h) (Or.inl ⟨by kernel_rfl, fun w => by go_simp⟩) ?_
        simp only [Act.put, List.setIfInBounds_toArray, List.set_cons_zero, List.set_cons_succ]
        refine wpAny_take (oi := ⟨some 14, _, _, _, _, _⟩) (i := 1) (v := .int .i64 nG) rfl (by kernel_rfl) (by kernel_rfl) (by kernel_rfl) (fun _ _ _ h => h) (Or.inl ⟨by kernel_rfl, fun w => by go_simp⟩) ?_
        simp only [Act.put, List.setIfInBounds_toArray, List.set_cons_zero, List.set_cons_succ]
        refine wpAny_take (oi := ⟨some 15, _, _, _, _, _⟩) (i := 2) (v := .bool true) rfl (by kernel_rfl) (by kernel_rfl) (by kernel_rfl) (fun _ _ _ h => h) (Or.inl ⟨by kernel_rfl, fun w => by go_simp⟩) ?_
        simp only [Act.put, List.setIfInBounds_toArray, List.set_cons_zero, List.set_cons_succ]
        refine wpAny_take (oi := ⟨some 16, _, _, _, _, _⟩) (i := 3) (v := .bool true) rfl (by kernel_rfl) (by kernel_rfl) (by kernel_rfl) (fun _ _ _ h => h) (Or.inl ⟨by kernel_rfl, fun w => by go_simp⟩) ?_
        simp only [Act.put, List.setIfInBounds_toArray, List.set_cons_zero, List.set_cons_succ]
        refine wpAny_take (oi := ⟨some 17, _, _, _, _, _⟩) (i := 4) (v := .slice (some ⟨gP, 0, none⟩) nP cP) rfl (by kernel_rfl) (by kernel_rfl) (by kernel_rfl) (fun _ _ _ h => h) (Or.inl ⟨by kernel_rfl, fun w => by go_simp⟩) ?_
        simp only [Act.put, List.setIfInBounds_toArray, List.set_cons_zero, List.set_cons_succ]
        refine wpAny_take (oi := ⟨some 18, _, _, _, _, _⟩) (i := 5) (v := .int .i64 nP) rfl (by kernel_rfl) (by kernel_rfl) (by kernel_rfl) (fun _ _ _ h => h) (Or.inl ⟨by kernel_rfl, fun w => by go_simp⟩) ?_
        simp only [Act.put, List.setIfInBounds_toArray, List.set_cons_zero, List.set_cons_succ]
        refine wpAny_take (oi := ⟨some 19, _, _, _, _, _⟩) (i := 6) (v := .bool false) rfl (by kernel_rfl) (by kernel_rfl) (by kernel_rfl) (fun _ _ _ h => h) (Or.inl ⟨by kernel_rfl, fun w => by go_simp⟩) ?_
        simp only [Act.put, List.setIfInBounds_toArray, List.set_cons_zero, List.set_cons_succ]
        refine wpAny_take (oi := ⟨some 20, _, _, _, _, _⟩) (i := 7) (v := .bool false) rfl (by kernel_rfl) (by kernel_rfl) (by kernel_rfl) (fun _ _ _ h => h) (Or.inl ⟨by kernel_rfl, fun w => by go_simp⟩) ?_
        simp only [Act.put, List.setIfInBounds_toArray, List.set_cons_zero, List.set_cons_succ]
        refine wpAny_take (oi := ⟨some 21, _, _, _, _, _⟩) (i := 8) (v := .slice (some ⟨gG, 0, none⟩) nG cG) rfl (by kernel_rfl) (by kernel_rfl) (by kernel_rfl) (fun _ _ _ h => h) (Or.inl ⟨by kernel_rfl, fun w => by go_simp⟩) ?_
        simp only [Act.put, List.setIfInBounds_toArray, List.set_cons_zero, List.set_cons_succ]
        refine wpAny_take (oi := ⟨some 22, _, _, _, _, _⟩) (i := 9) (v := .pointer (some ⟨gG, 0, none⟩)) rfl (by kernel_rfl) (by kernel_rfl) (by kernel_rfl) (fun _ _ _ h => h) (Or.inl ⟨by kernel_rfl, fun w => by go_simp⟩) ?_
        simp only [Act.put, List.setIfInBounds_toArray, List.set_cons_zero, List.set_cons_succ]
        refine wpAny_take (oi := ⟨some 24, _, _, _, _, _⟩) (i := 11) (v := .slice (some ⟨gP, 0, none⟩) nP cP) rfl (by kernel_rfl) (by kernel_rfl) (by kernel_rfl) (fun _ _ _ h => h) (Or.inl ⟨by kernel_rfl, fun w => by go_simp⟩) ?_
        simp only [Act.put, List.setIfInBounds_toArray, List.set_cons_zero, List.set_cons_succ]
        refine wpAny_take (oi := ⟨some 25, _, _, _, _, _⟩) (i := 12) (v := .pointer (some ⟨gP, 0, none⟩)) rfl (by kernel_rfl) (by kernel_rfl) (by kernel_rfl) (fun _ _ _ h => h) (Or.inl ⟨by kernel_rfl, fun w => by go_simp⟩) ?_
        simp only [Act.put, List.setIfInBounds_toArray, List.set_cons_zero, List.set_cons_succ]
        refine wpAny_ready (rs := [10, 13]) (by kernel_rfl) (by simp) (AllReady.cons rfl (fun K hK => ?_) (AllReady.cons rfl (fun K hK => ?_) AllReady.nil))
        · go_simp
          refine hK _ _ ?_
          clear hK K
          refine wpAny_ready (rs := [13]) (by kernel_rfl) (by simp) (AllReady.cons rfl (fun K hK => ?_) AllReady.nil)
          go_simp
          refine hK _ _ ?_
          clear hK K
          refine wpAny_take (oi := ⟨some 27, _, _, _, _, _⟩) (i := 14) (v := .bool true) rfl (by kernel_rfl) (by kernel_rfl) (by kernel_rfl) (fun _ _ _ h => h) (Or.inl ⟨by kernel_rfl, fun w => by go_simp⟩) ?_
          simp only [Act.put, List.setIfInBounds_toArray, List.set_cons_zero, List.set_cons_succ]
          refine wpAny_take (oi := ⟨some 28, _, _, _, _, _⟩) (i := 15) (v := .bool true) rfl (by kernel_rfl) (by kernel_rfl) (by kernel_rfl) (fun _ _ _ h => h) (Or.inl ⟨by kernel_rfl, fun w => by go_simp⟩) ?_
          simp only [Act.put, List.setIfInBounds_toArray, List.set_cons_zero, List.set_cons_succ]
          refine wpAny_take (oi := ⟨some 29, _, _, _, _, _⟩) (i := 16) (v := .bool true) rfl (by kernel_rfl) (by kernel_rfl) (by kernel_rfl) (fun _ _ _ h => h) (Or.inl ⟨by kernel_rfl, fun w => by go_simp⟩) ?_
          simp only [Act.put, List.setIfInBounds_toArray, List.set_cons_zero, List.set_cons_succ]
          refine wpAny_take (oi := ⟨some 4, _, _, _, _, _⟩) (i := 17) (v := .bool true) rfl (by kernel_rfl) (by kernel_rfl) (by kernel_rfl) (fun _ _ _ h => h) (Or.inl ⟨by kernel_rfl, fun w => by go_simp⟩) ?_
          simp only [Act.put, List.setIfInBounds_toArray, List.set_cons_zero, List.set_cons_succ]
          refine wpAny_done (by kernel_rfl) ?_ _
          go_wp2_with fail
          go_ret
          exact ⟨rfl, HbE.out⟩
        · go_simp
          refine hK _ _ ?_
          clear hK K
          refine wpAny_ready (rs := [10]) (by kernel_rfl) (by simp) (AllReady.cons rfl (fun K hK => ?_) AllReady.nil)
          go_simp
          refine hK _ _ ?_
          clear hK K
          refine wpAny_take (oi := ⟨some 27, _, _, _, _, _⟩) (i := 14) (v := .bool true) rfl (by kernel_rfl) (by kernel_rfl) (by kernel_rfl) (fun _ _ _ h => h) (Or.inl ⟨by kernel_rfl, fun w => by go_simp⟩) ?_
          simp only [Act.put, List.setIfInBounds_toArray, List.set_cons_zero, List.set_cons_succ]
          refine wpAny_take (oi := ⟨some 28, _, _, _, _, _⟩) (i := 15) (v := .bool true) rfl (by kernel_rfl) (by kernel_rfl) (by kernel_rfl) (fun _ _ _ h => h) (Or.inl ⟨by kernel_rfl, fun w => by go_simp⟩) ?_
          simp only [Act.put, List.setIfInBounds_toArray, List.set_cons_zero, List.set_cons_succ]
          refine wpAny_take (oi := ⟨some 29, _, _, _, _, _⟩) (i := 16) (v := .bool true) rfl (by kernel_rfl) (by kernel_rfl) (by kernel_rfl) (fun _ _ _ h => h) (Or.inl ⟨by kernel_rfl, fun w => by go_simp⟩) ?_
          simp only [Act.put, List.setIfInBounds_toArray, List.set_cons_zero, List.set_cons_succ]
          refine wpAny_take (oi := ⟨some 4, _, _, _, _, _⟩) (i := 17) (v := .bool true) rfl (by kernel_rfl) (by kernel_rfl) (by kernel_rfl) (fun _ _ _ h => h) (Or.inl ⟨by kernel_rfl, fun w => by go_simp⟩) ?_
          simp only [Act.put, List.setIfInBounds_toArray, List.set_cons_zero, List.set_cons_succ]
          refine wpAny_done (by kernel_rfl) ?_ _
          go_wp2_with fail
          go_ret
          exact ⟨rfl, HbE.out⟩
      · obtain rfl : o = false := by rw [hod, decide_eq_false hpg]
        clear hod
        go_wp2_with fail
        refine wp_region_any (by kernel_rfl) ?_
        try (change wpAny _ _ _ _ _ _ _ (World.drew _))
        refine wpAny_take (oi := ⟨some 13, _, _, _, _, _⟩) (i := 0) (v := .slice (some ⟨gG, 0, none⟩) nG cG) rfl (by kernel_rfl) (by kernel_rfl) (by kernel_rfl) (fun _ _ _ h => h) (Or.inl ⟨by kernel_rfl, fun w => by go_simp⟩) ?_
        simp only [Act.put, List.setIfInBounds_toArray, List.set_cons_zero, List.set_cons_succ]
        refine wpAny_take (oi := ⟨some 14, _, _, _, _, _⟩) (i := 1) (v := .int .i64 nG) rfl (by kernel_rfl) (by kernel_rfl) (by kernel_rfl) (fun _ _ _ h => h) (Or.inl ⟨by kernel_rfl, fun w => by go_simp⟩) ?_
        simp only [Act.put, List.setIfInBounds_toArray, List.set_cons_zero, List.set_cons_succ]
        refine wpAny_take (oi := ⟨some 15, _, _, _, _, _⟩) (i := 2) (v := .bool true) rfl (by kernel_rfl) (by kernel_rfl) (by kernel_rfl) (fun _ _ _ h => h) (Or.inl ⟨by kernel_rfl, fun w => by go_simp⟩) ?_
        simp only [Act.put, List.setIfInBounds_toArray, List.set_cons_zero, List.set_cons_succ]
        refine wpAny_take (oi := ⟨some 16, _, _, _, _, _⟩) (i := 3) (v := .bool true) rfl (by kernel_rfl) (by kernel_rfl) (by kernel_rfl) (fun _ _ _ h => h) (Or.inl ⟨by kernel_rfl, fun w => by go_simp⟩) ?_
        simp only [Act.put, List.setIfInBounds_toArray, List.set_cons_zero, List.set_cons_succ]
        refine wpAny_take (oi := ⟨some 17, _, _, _, _, _⟩) (i := 4) (v := .slice (some ⟨gP, 0, none⟩) nP cP) rfl (by kernel_rfl) (by kernel_rfl) (by kernel_rfl) (fun _ _ _ h => h) (Or.inl ⟨by kernel_rfl, fun w => by go_simp⟩) ?_
        simp only [Act.put, List.setIfInBounds_toArray, List.set_cons_zero, List.set_cons_succ]
        refine wpAny_take (oi := ⟨some 18, _, _, _, _, _⟩) (i := 5) (v := .int .i64 nP) rfl (by kernel_rfl) (by kernel_rfl) (by kernel_rfl) (fun _ _ _ h => h) (Or.inl ⟨by kernel_rfl, fun w => by go_simp⟩) ?_
        simp only [Act.put, List.setIfInBounds_toArray, List.set_cons_zero, List.set_cons_succ]
        refine wpAny_take (oi := ⟨some 19, _, _, _, _, _⟩) (i := 6) (v := .bool false) rfl (by kernel_rfl) (by kernel_rfl) (by kernel_rfl) (fun _ _ _ h => h) (Or.inl ⟨by kernel_rfl, fun w => by go_simp⟩) ?_
        simp only [Act.put, List.setIfInBounds_toArray, List.set_cons_zero, List.set_cons_succ]
        refine wpAny_take (oi := ⟨some 20, _, _, _, _, _⟩) (i := 7) (v := .bool false) rfl (by kernel_rfl) (by kernel_rfl) (by kernel_rfl) (fun _ _ _ h => h) (Or.inl ⟨by kernel_rfl, fun w => by go_simp⟩) ?_
        simp only [Act.put, List.setIfInBounds_toArray, List.set_cons_zero, List.set_cons_succ]
        refine wpAny_take (oi := ⟨some 21, _, _, _, _, _⟩) (i := 8) (v := .slice (some ⟨gG, 0, none⟩) nG cG) rfl (by kernel_rfl) (by kernel_rfl) (by kernel_rfl) (fun _ _ _ h => h) (Or.inl ⟨by kernel_rfl, fun w => by go_simp⟩) ?_
        simp only [Act.put, List.setIfInBounds_toArray, List.set_cons_zero, List.set_cons_succ]
        refine wpAny_take (oi := ⟨some 22, _, _, _, _, _⟩) (i := 9) (v := .pointer (some ⟨gG, 0, none⟩)) rfl (by kernel_rfl) (by kernel_rfl) (by kernel_rfl) (fun _ _ _ h => h) (Or.inl ⟨by kernel_rfl, fun w => by go_simp⟩) ?_
        simp only [Act.put, List.setIfInBounds_toArray, List.set_cons_zero, List.set_cons_succ]
        refine wpAny_take (oi := ⟨some 24, _, _, _, _, _⟩) (i := 11) (v := .slice (some ⟨gP, 0, none⟩) nP cP) rfl (by kernel_rfl) (by kernel_rfl) (by kernel_rfl) (fun _ _ _ h => h) (Or.inl ⟨by kernel_rfl, fun w => by go_simp⟩) ?_
        simp only [Act.put, List.setIfInBounds_toArray, List.set_cons_zero, List.set_cons_succ]
        refine wpAny_take (oi := ⟨some 25, _, _, _, _, _⟩) (i := 12) (v := .pointer (some ⟨gP, 0, none⟩)) rfl (by kernel_rfl) (by kernel_rfl) (by kernel_rfl) (fun _ _ _ h => h) (Or.inl ⟨by kernel_rfl, fun w => by go_simp⟩) ?_
        simp only [Act.put, List.setIfInBounds_toArray, List.set_cons_zero, List.set_cons_succ]
        refine wpAny_ready (rs := [10, 13]) (by kernel_rfl) (by simp) (AllReady.cons rfl (fun K hK => ?_) (AllReady.cons rfl (fun K hK => ?_) AllReady.nil))
        · go_simp
          refine hK _ _ ?_
          clear hK K
          refine wpAny_ready (rs := [13]) (by kernel_rfl) (by simp) (AllReady.cons rfl (fun K hK => ?_) AllReady.nil)
          go_simp
          refine hK _ _ ?_
          clear hK K
          refine wpAny_take (oi := ⟨some 27, _, _, _, _, _⟩) (i := 14) (v := .bool false) rfl (by kernel_rfl) (by kernel_rfl) (by kernel_rfl) (fun _ _ _ h => h) (Or.inl ⟨by kernel_rfl, fun w => by go_simp⟩) ?_
          simp only [Act.put, List.setIfInBounds_toArray, List.set_cons_zero, List.set_cons_succ]
          refine wpAny_take (oi := ⟨some 28, _, _, _, _, _⟩) (i := 15) (v := .bool false) rfl (by kernel_rfl) (by kernel_rfl) (by kernel_rfl) (fun _ _ _ h => h) (Or.inl ⟨by kernel_rfl, fun w => by go_simp⟩) ?_
          simp only [Act.put, List.setIfInBounds_toArray, List.set_cons_zero, List.set_cons_succ]
          refine wpAny_take (oi := ⟨some 29, _, _, _, _, _⟩) (i := 16) (v := .bool false) rfl (by kernel_rfl) (by kernel_rfl) (by kernel_rfl) (fun _ _ _ h => h) (Or.inl ⟨by kernel_rfl, fun w => by go_simp⟩) ?_
          simp only [Act.put, List.setIfInBounds_toArray, List.set_cons_zero, List.set_cons_succ]
          refine wpAny_take (oi := ⟨some 4, _, _, _, _, _⟩) (i := 17) (v := .bool false) rfl (by kernel_rfl) (by kernel_rfl) (by kernel_rfl) (fun _ _ _ h => h) (Or.inl ⟨by kernel_rfl, fun w => by go_simp⟩) ?_
          simp only [Act.put, List.setIfInBounds_toArray, List.set_cons_zero, List.set_cons_succ]
          refine wpAny_done (by kernel_rfl) ?_ _
          go_wp2_with fail
          go_ret
          exact ⟨rfl, HbE.out⟩
        · go_simp
          refine hK _ _ ?_
          clear hK K
          refine wpAny_ready (rs := [10]) (by kernel_rfl) (by simp) (AllReady.cons rfl (fun K hK => ?_) AllReady.nil)
          go_simp
          refine hK _ _ ?_
          clear hK K
          refine wpAny_take (oi := ⟨some 27, _, _, _, _, _⟩) (i := 14) (v := .bool false) rfl (by kernel_rfl) (by kernel_rfl) (by kernel_rfl) (fun _ _ _ h => h) (Or.inl ⟨by kernel_rfl, fun w => by go_simp⟩) ?_
          simp only [Act.put, List.setIfInBounds_toArray, List.set_cons_zero, List.set_cons_succ]
          refine wpAny_take (oi := ⟨some 28, _, _, _, _, _⟩) (i := 15) (v := .bool false) rfl (by kernel_rfl) (by kernel_rfl) (by kernel_rfl) (fun _ _ _ h => h) (Or.inl ⟨by kernel_rfl, fun w => by go_simp⟩) ?_
          simp only [Act.put, List.setIfInBounds_toArray, List.set_cons_zero, List.set_cons_succ]
          refine wpAny_take (oi := ⟨some 29, _, _, _, _, _⟩) (i := 16) (v := .bool false) rfl (by kernel_rfl) (by kernel_rfl) (by kernel_rfl) (fun _ _ _ h => h) (Or.inl ⟨by kernel_rfl, fun w => by go_simp⟩) ?_
          simp only [Act.put, List.setIfInBounds_toArray, List.set_cons_zero, List.set_cons_succ]
          refine wpAny_take (oi := ⟨some 4, _, _, _, _, _⟩) (i := 17) (v := .bool false) rfl (by kernel_rfl) (by kernel_rfl) (by kernel_rfl) (fun _ _ _ h => h) (Or.inl ⟨by kernel_rfl, fun w => by go_simp⟩) ?_
          simp only [Act.put, List.setIfInBounds_toArray, List.set_cons_zero, List.set_cons_succ]
          refine wpAny_done (by kernel_rfl) ?_ _
          go_wp2_with fail
          go_ret
          exact ⟨rfl, HbE.out⟩

theorem impl_BagBelow (a1 a2 : Option Addr) (n1 c1 n2 c2 : Nat) (xs ys : List Int) (w : World) (hx : Sl w a1 n1 c1 xs) (hy : Sl w a2 n2 c2 ys) :
    Calls Try.prog 31 #[.slice a1 n1 c1, .slice a2 n2 c2] w fun e w' => e = .returned (.bool (bagBel xs ys)) ∧ Below w.heap.size w w' := by
  have k1 := Lib.hid (impl_BagValid a1 n1 c1 xs w hx)
  have k2 := Lib.hid (fun wx hb => impl_BagValid a2 n2 c2 ys wx (hy.below (w := w) hb))
  rcases bag_tf xs with h1 | h1
  · rw [h1] at k1
    rcases bag_tf ys with h2 | h2
    · rw [h2] at k2
      have hl1 := (itemsB_true.1 (bagB_true.1 h1).1).1
      have hl2 := (itemsB_true.1 (bagB_true.1 h2).1).1
      rw [hx.1] at hl1
      rw [hy.1] at hl2
      have kb := Lib.hid (fun wx hb => below_any a1 a2 n1 c1 n2 c2 xs ys wx (by omega) (by omega) (hx.below (w := w) hb) (hy.below hb))
      rw [bagBel_in h1 h2]
      obtain ⟨o, ho⟩ : ∃ o, o = belG (wo ys xs) (wo xs ys) := ⟨_, rfl⟩
      rw [← ho] at kb ⊢
      clear hx hy h1 h2 ho
      go_enter Try.func31, Try.ntmps31
      go_wp2_with fail
      refine (k1.out).mono ?_
      rintro ee w1 ⟨rfl, hb1⟩
      have k3 := Lib.hid (k2.out w1 hb1)
      have Hb1 := Lib.hid hb1
      clear hb1
      go_wp2_with fail
      refine (k3.out).mono ?_
      rintro ee w2 ⟨rfl, hb2⟩
      have Hb2 := Lib.hid (Hb1.out.trans (hb2.mono Hb1.out.size))
      have k4 := Lib.hid (kb.out w2 Hb2.out)
      clear hb2
      go_wp2_with fail
      refine (k4.out).mono ?_
      rintro ee w3 ⟨rfl, hb3⟩
      have Hb3 := Lib.hid (Hb2.out.trans (hb3.mono Hb2.out.size))
      clear hb3
      go_wp2_with fail
      go_ret
      exact ⟨rfl, Hb3.out⟩
    · rw [h2] at k2
      rw [bagBel_2 h2]
      clear hx hy h1 h2
      go_enter Try.func31, Try.ntmps31
      go_wp2_with fail
      refine (k1.out).mono ?_
      rintro ee w1 ⟨rfl, hb1⟩
      have k3 := Lib.hid (k2.out w1 hb1)
      have Hb1 := Lib.hid hb1
      clear hb1
      go_wp2_with fail
      refine (k3.out).mono ?_
      rintro ee w2 ⟨rfl, hb2⟩
      have Hb2 := Lib.hid (Hb1.out.trans (hb2.mono Hb1.out.size))
      clear hb2
      go_wp2_with fail
      go_ret
      exact ⟨rfl, Hb2.out⟩
  · rw [h1] at k1
    rw [bagBel_1 h1]
    clear hx hy h1
    go_enter Try.func31, Try.ntmps31
    go_wp2_with fail
    refine (k1.out).mono ?_
    rintro ee w1 ⟨rfl, hb1⟩
    have Hb1 := Lib.hid hb1
    clear hb1
    go_wp2_with fail
    go_ret
    exact ⟨rfl, Hb1.out⟩

end Go.Proofs.Ytgkcpmhgmhioiaa

/- BagF -/
/- Multisets: whether one is below another one, by the model. -/
namespace Go.Proofs.Ytgkcpmhgmhioiaa
set_option maxRecDepth 100000
open Go.RowKit

theorem cmpC_neg (xs ys : List Int) : ∀ K : Nat, cmpC xs ys K = -1 ↔ ∃ k, k < K ∧ xs.count (k : Int) < ys.count (k : Int) ∧ ∀ j : Nat, k < j → j < K → xs.count (j : Int) = ys.count (j : Int)
  | 0 => by simp [cmpC]
  | K + 1 => by
    rw [cmpC]
    by_cases h1 : xs.count (K : Int) < ys.count (K : Int)
    · rw [if_pos h1]
      exact ⟨fun _ => ⟨K, by omega, h1, fun j h2 h3 => by omega⟩, fun _ => rfl⟩
    · rw [if_neg h1]
      by_cases h2 : ys.count (K : Int) < xs.count (K : Int)
      · rw [if_pos h2]
        constructor
        · intro h; omega
        · rintro ⟨k, h3, h4, h5⟩
          by_cases hk : k = K
          · subst hk; omega
          · have := h5 K (by omega) (by omega); omega
      · rw [if_neg h2, cmpC_neg xs ys K]
        constructor
        · rintro ⟨k, h3, h4, h5⟩
          refine ⟨k, by omega, h4, fun j h6 h7 => ?_⟩
          by_cases hj : j = K
          · subst hj; omega
          · exact h5 j h6 (by omega)
        · rintro ⟨k, h3, h4, h5⟩
          by_cases hk : k = K
          · subst hk; omega
          · exact ⟨k, by omega, h4, fun j h6 h7 => h5 j h6 (by omega)⟩
theorem cmpC_same (xs ys : List Int) : ∀ K : Nat, cmpC xs ys K = 1 → ∃ k, k < K ∧ ys.count (k : Int) < xs.count (k : Int) ∧ ∀ j : Nat, k < j → j < K → xs.count (j : Int) = ys.count (j : Int)
  | 0, h => by simp [cmpC] at h
  | K + 1, h => by
    rw [cmpC] at h
    by_cases h1 : xs.count (K : Int) < ys.count (K : Int)
    · rw [if_pos h1] at h; omega
    · rw [if_neg h1] at h
      by_cases h2 : ys.count (K : Int) < xs.count (K : Int)
      · exact ⟨K, by omega, h2, fun j h3 h4 => by omega⟩
      · rw [if_neg h2] at h
        obtain ⟨k, h3, h4, h5⟩ := cmpC_same xs ys K h
        refine ⟨k, by omega, h4, fun j h6 h7 => ?_⟩
        by_cases hj : j = K
        · subst hj; omega
        · exact h5 j h6 (by omega)

/-- For what the first one has more of, the second one has more of a greater one. -/
def BelOk (xs ys : List Int) (j : Nat) : Prop := xs.count (j : Int) ≤ ys.count (j : Int) ∨ ∃ q : Nat, j < q ∧ q < 10 ∧ xs.count (q : Int) < ys.count (q : Int)
theorem bel_all {xs ys : List Int} (h0 : cmpC xs ys 10 ≠ 0) (h : ∀ j, j < 10 → BelOk xs ys j) : cmpC xs ys 10 = -1 := by
  have hv : ∀ K : Nat, cmpC xs ys K = -1 ∨ cmpC xs ys K = 0 ∨ cmpC xs ys K = 1 := by
    intro K
    induction K with
    | zero => simp [cmpC]
    | succ K ih =>
      rw [cmpC]
      split
      · simp
      · split
        · simp
        · exact ih
  rcases hv 10 with h1 | h1 | h1
  · exact h1
  · exact absurd h1 h0
  · obtain ⟨k, h2, h3, h4⟩ := cmpC_same xs ys 10 h1
    rcases h k h2 with h5 | ⟨q, h5, h6, h7⟩
    · omega
    · have := h4 q h5 h6; omega
theorem bel_not {xs ys : List Int} {j : Nat} (hj : j < 10) (h : ¬ BelOk xs ys j) : cmpC xs ys 10 ≠ -1 := by
  intro h1
  obtain ⟨k, h2, h3, h4⟩ := (cmpC_neg xs ys 10).1 h1
  apply h
  by_cases hjk : j < k
  · exact .inr ⟨k, hjk, h2, h3⟩
  · left
    by_cases he : j = k
    · subst he; omega
    · have := h4 j (by omega) hj; omega


end Go.Proofs.Ytgkcpmhgmhioiaa

/- BagW -/
/- A multiset into which lesser numbers were put for one of its numbers is less. -/
namespace Go.Proofs.Ytgkcpmhgmhioiaa
set_option maxRecDepth 100000
open Go.RowKit

theorem put_bag {xs ys : List Int} {V : Int} (h : putOk xs V ys = true) : bagB (putRow xs V ys) = true := by
  rw [putRow_yes' h]; exact bagOf_bag _
theorem put_perm {xs ys : List Int} {V : Int} (h : putOk xs V ys = true) : (putRow xs V ys).Perm (ys ++ xs.erase V) := by
  rw [putRow_yes h]
  exact (flat_sorted (itemsB_true.1 (put_items h)).2).2
theorem put_cnt {xs ys : List Int} {V : Int} (h : putOk xs V ys = true) : ((putRow xs V ys).length : Int) = (xs.length : Int) - 1 + (ys.length : Int) := by
  have h2 := (putOk_in h).2.1
  have h3 := List.length_pos_of_mem h2
  rw [(put_perm h).length_eq, List.length_append, List.length_erase_of_mem h2]
  omega
theorem put_less {xs ys : List Int} {V : Int} (h : putOk xs V ys = true) : bagCmp (putRow xs V ys) xs = -1 := by
  obtain ⟨h1, h2, h3, h4⟩ := putOk_in h
  rw [bagCmp_in (put_bag h) h1, cmpL_cmpC (put_bag h) h1, cmpC_neg]
  have hb := bag_bnd h1 V h2
  obtain ⟨q, rfl⟩ := Int.eq_ofNat_of_zero_le hb.1
  have hp := put_perm h
  have hy : ∀ j : Nat, q ≤ j → ys.count (j : Int) = 0 := fun j hj => List.count_eq_zero.2 (fun hm => by have := upTo_true.1 h3 _ hm; omega)
  refine ⟨q, by omega, ?_, fun j hj _ => ?_⟩
  · have h5 := List.count_pos_iff.2 h2
    rw [hp.count_eq, List.count_append, hy q (Nat.le_refl _), List.count_erase_self]
    omega
  · rw [hp.count_eq, List.count_append, hy j (by omega), List.count_erase_of_ne (by omega), Nat.zero_add]
theorem put_ord {xs ys : List Int} {V : Int} (h : putOk xs V ys = true) : T.cmpRow (T.bagOrd (putRow xs V ys)) (T.bagOrd xs) = -1 := by
  have h1 := (putOk_in h).1
  rw [T.bagOrd_cmp (put_bag h) h1, ← bagCmp_in (put_bag h) h1]
  exact put_less h
theorem put_below {xs ys : List Int} {V : Int} (h : putOk xs V ys = true) : bagBel (putRow xs V ys) xs = true := by
  rw [bagBel, put_less h]; rfl

end Go.Proofs.Ytgkcpmhgmhioiaa

/- CatB -/
/- slices.Concat of however many slices of numbers (impl.multiset[int]). -/
namespace Go.Proofs.Ytgkcpmhgmhioiaa
set_option maxRecDepth 100000
open Go.RowKit
namespace CB

/-- A slice of cells that can be read, or nil. -/
def Rd (w : World) (a : Option Addr) (n c : Nat) (l : List Value) : Prop :=
  l.length = n * 1 ∧ (∀ u ∈ l, u.oneCell' = true) ∧ ((a = none ∧ n = 0 ∧ c = 0) ∨ ∃ x : Addr, a = some x ∧ ∀ j u, l[j]? = some u → w.cell? (x.add j) = some u)

theorem Rd.below {w w' : World} {a : Option Addr} {n c : Nat} {l : List Value} (h : Rd w a n c l) (hb : Below w.heap.size w w') : Rd w' a n c l := by
  refine ⟨h.1, h.2.1, ?_⟩
  rcases h.2.2 with h1 | ⟨x, h1, h2⟩
  · exact .inl h1
  · refine .inr ⟨x, h1, fun j u hj => ?_⟩
    have h3 := h2 j u hj
    have h4 := World.block_lt_of_cell? w _ h3
    rw [hb.cell h4]
    exact h3

theorem own_shape {w : World} {B e n size : Nat} {v : Value} {xs : List Value} (h : w.ownsRow B e size v n xs) : ∃ a c, v = .slice a n c := by
  rcases h.2 with ⟨h1, h2⟩ | ⟨g, cap, cur, h0, _⟩
  · exact ⟨none, 0, by rw [h1, h2]⟩
  · exact ⟨_, cap, h0⟩


def CatPost (w : World) (n : Nat) (l : List Value) (e : Ending) (w' : World) : Prop :=
  ∃ a c', e = .returned (.slice a n c') ∧ w'.ownsRow w.heap.size 3 1 (.slice a n c') n l ∧ Below w.heap.size w w'


/-- At an append whose run is known. -/
theorem wpList_append_run {P : Program} {w : World} {ops : Array Oper} {rest : List Oper} {o : Oper} {a : Act} {Q : Exit → Act → World → Prop} (hgd : o.guard = none) (s x : Operand) (t tn : TypeId)
    (ho : o.op = .call { callee := .builtin .append, args := #[s, x], argTypes := #[t, tn] }) (v u r : Value) (w' : World) (hs : a.eval s = v) (hx : a.eval x = u)
    (hrun : (Builtin.append_ #[t, tn] o.type #[v, u]).run P w = .ok r w') (h : wpList P ops Q rest (a.put o.dst r) w') : wpList P ops Q (o :: rest) a w := by
  refine wpList_plain hgd fun K hK => ?_
  unfold Oper.wp
  simp [execOp, ho, resolve, invoke, builtin, hs, hx, hrun, Result.andThen]
  exact hK _ _ h

/-- slices.Grow of nothing: a row without terms. -/
theorem grow_any (n : Nat) (w : World) (hn : n ≤ 1000000) :
    Calls Try.prog 92 #[.slice none 0 0, .int .i64 n] w fun e w' => ∃ a c, e = .returned (.slice a 0 c) ∧
      w'.ownsRow w.heap.size 3 1 (.slice a 0 c) 0 [] ∧ Below w.heap.size w w' := by
  by_cases h0 : n = 0
  · subst h0
    go_enter Try.func92, Try.ntmps92
    go_wp2_with fail
    go_ret
    exact ⟨none, 0, rfl, ⟨rfl, .inl ⟨rfl, rfl⟩⟩, Below.refl _ _⟩
  · obtain ⟨i0, hi, hz0, hz1, hz2⟩ := info_parts info_int
    have hpos : 0 < n := by omega
    have hp2 : (0 : Int) < n := by omega
    have hr := fun ty => Lib.run_append_nil_zeros (P := Try.prog) w 61 3 ty 3 i0 _ .i64 .i64 Try.underlying61 Try.underlying3 hi hz0 n hpos (by omega) (by omega) (by rw [hz2]; omega)
    obtain ⟨G, hG⟩ : ∃ G, G = grownCap w n 0 3 := ⟨_, rfl⟩
    have hG1 : n ≤ G := by rw [hG]; exact grownCap_ge _ _ _ _
    have hG2 : G ≤ maxLen := by rw [hG]; exact grownCap_le_maxLen _ _ _ _ (by unfold maxLen; omega)
    rw [← hG] at hr
    have hG3 : (0 : Int) ≤ (G : Int) := by omega
    have hw : Below w.heap.size w (w.drew.alloc (.cells (Builtin.zeroCells (Value.int .i64 0).cells n ++ Builtin.zeroCells (Value.int .i64 0).cells (G - n)) 3)) :=
      (Joins.below_draws w.heap.size w 1).alloc (Nat.le_refl _) _
    have ho : (w.drew.alloc (.cells (Builtin.zeroCells (Value.int .i64 0).cells n ++ Builtin.zeroCells (Value.int .i64 0).cells (G - n)) 3)).ownsRow w.heap.size 3 1 (.slice (some ⟨w.heap.size, 0, none⟩) 0 G) 0 [] := by
      refine ⟨rfl, .inr ⟨w.heap.size, G, _, rfl, Nat.le_refl _, heap_alloc_new w.drew _, Nat.zero_le _, hG2, ?_, by simp⟩⟩
      rw [Array.size_append, size_zeroCells, size_zeroCells]
      have h2 : (Value.int .i64 0).cells.size = 1 := rfl
      rw [h2]
      omega
    have Hw := Lib.hid hw
    have Ho := Lib.hid ho
    have Hr := Lib.hid hr
    clear hw ho hG h0 hr
    go_enter Try.func92, Try.ntmps92
    go_wp2_with (first
      | (at_builtin; refine wpList_append_run rfl (.tmp 20) (.tmp 21) 61 3 rfl _ _ _ _ rfl rfl (Hr.out _) ?_))
    go_ret
    exact ⟨_, G, rfl, Ho.out, Hw.out⟩

def psum (ns : Nat → Nat) : Nat → Nat
  | 0 => 0
  | i + 1 => psum ns i + ns i
def pcat (ls : Nat → List Value) : Nat → List Value
  | 0 => []
  | i + 1 => pcat ls i ++ ls i
theorem psum_le {ns : Nat → Nat} {K : Nat} (hb : ∀ i, i < K → ns i ≤ 10000) : ∀ i, i ≤ K → psum ns i ≤ i * 10000 := by
  intro i
  induction i with
  | zero => intro _; exact Nat.le_refl _
  | succ i ih =>
    intro h
    have h1 := ih (by omega)
    have h2 := hb i (by omega)
    rw [psum]
    omega

def CatLoop (w : World) (K : Nat) (ns : Nat → Nat) (ls : Nat → List Value) (gk : Nat) (v6 v27 : Value) (wr : World) : Prop :=
  ∃ (i : Nat) (a : Option Addr) (c : Nat), v27 = .int .i64 i ∧ gk + i = K ∧ v6 = .slice a (psum ns i) c ∧ wr.ownsRow w.heap.size 3 1 v6 (psum ns i) (pcat ls i) ∧ Below w.heap.size w wr

set_option maxHeartbeats 4000000 in
theorem concat_any (K g c : Nat) (ads : Nat → Option Addr) (ns cs : Nat → Nat) (ls : Nat → List Value) (w : World) (hK0 : 0 < K) (hK : K ≤ 10)
    (hc : ∀ i, i < K → w.cell? ⟨g, i, none⟩ = some (.slice (ads i) (ns i) (cs i))) (hr : ∀ i, i < K → Rd w (ads i) (ns i) (cs i) (ls i)) (hb : ∀ i, i < K → ns i ≤ 10000) :
    Calls Try.prog 83 #[.slice (some ⟨g, 0, none⟩) K c] w (CatPost w (psum ns K) (pcat ls K)) := by
  obtain ⟨i0, hi, hz0, hz1, hz2⟩ := info_parts info_int
  have HC := Lib.hid hc
  have HR := Lib.hid hr
  have HB := Lib.hid hb
  have hgl : g < w.heap.size := World.block_lt_of_cell? w _ (hc 0 hK0)
  have HP := Lib.hid (psum_le hb)
  have kg := Lib.hid (grow_any (psum ns K) w (by have := psum_le hb K (Nat.le_refl _); omega))
  clear hc hr hb
  go_enter Try.func83, Try.ntmps83
  go_wp2_with fail
  go_loopg [3, 11] K (fun gk v3 v11 wr => w = wr ∧ ∃ i : Nat, v11 = .int .i64 i ∧ gk + i = K ∧ v3 = .int .i64 (psum ns i : Nat))
  case atStart => exact ⟨rfl, 0, rfl, rfl, rfl⟩
  case round =>
    obtain ⟨rfl, i, rfl, hgk, rfl⟩ := hrel
    have Hgk := Lib.hid hgk
    have hik : i ≤ K := by omega
    have hsb : psum ns i ≤ 100000 := by have := HP.out i hik; omega
    clear hgk
    by_cases hlt : i < K
    · have xC := HC.out i hlt
      have hn := HB.out i hlt
      obtain ⟨s, hs⟩ : ∃ s, s = psum ns i := ⟨_, rfl⟩
      obtain ⟨n, hn'⟩ : ∃ n, n = ns i := ⟨_, rfl⟩
      rw [← hs] at hsb ⊢
      rw [← hn'] at hn xC
      have Hs := Lib.hid hs
      have Hn := Lib.hid hn'
      clear hs hn'
      go_wp2_with fail
      go_roundg (gk - 1)
      case measure => have := Hgk.out; omega
      case rel => exact ⟨rfl, i + 1, by go_num, by have := Hgk.out; omega, congrArg (Value.int .i64) (by show _ = ((psum ns i + ns i : Nat) : Int); rw [← Hs.out, ← Hn.out]; omega)⟩
    · obtain rfl : K = i := by omega
      go_wp2_with fail
      refine (kg.out).mono ?_
      rintro ee w1 ⟨a, cc, rfl, ho1, hb1⟩
      have hfin : CatLoop w K ns ls K (.slice a 0 cc) (.int .i64 (0 : Nat)) w1 := ⟨0, a, cc, rfl, rfl, rfl, ho1, hb1⟩
      have Hfin := Lib.hid hfin
      clear ho1 hb1 hfin
      go_wp2_with fail
      go_loopg [6, 27] K (fun gk v6 v27 wr => CatLoop w K ns ls gk v6 v27 wr)
      case atStart => exact Hfin.out
      case round =>
        obtain ⟨i, a, cc, rfl, hgk, rfl, ho, hb⟩ := hrel
        have Hgk2 := Lib.hid hgk
        have hik : i ≤ K := by omega
        have hsb : psum ns i ≤ 100000 := by have := HP.out i hik; omega
        have Hb := Lib.hid hb
        have Ho := Lib.hid ho
        have hws : w.heap.size ≤ wr.heap.size := hb.size
        clear hgk hb ho
        by_cases hlt : i < K
        · have xC := (Hb.out.cell (p := ⟨g, i, none⟩) hgl).trans (HC.out i hlt)
          have hn := HB.out i hlt
          have hR := (HR.out i hlt).below Hb.out
          obtain ⟨s, hs⟩ : ∃ s, s = psum ns i := ⟨_, rfl⟩
          obtain ⟨q, hq⟩ : ∃ q, q = pcat ls i := ⟨_, rfl⟩
          obtain ⟨n, hn'⟩ : ∃ n, n = ns i := ⟨_, rfl⟩
          obtain ⟨l, hl'⟩ : ∃ l, l = ls i := ⟨_, rfl⟩
          obtain ⟨k, hk'⟩ : ∃ k, k = cs i := ⟨_, rfl⟩
          obtain ⟨ad, had⟩ : ∃ ad, ad = ads i := ⟨_, rfl⟩
          have hnext : psum ns (i + 1) = s + n ∧ pcat ls (i + 1) = q ++ l := ⟨by rw [hs, hn']; rfl, by rw [hq, hl']; rfl⟩
          rw [← hs, ← hq] at Ho
          rw [← hs] at hsb ⊢
          rw [← hn'] at hn
          rw [← hn', ← hl', ← hk', ← had] at hR
          rw [← hn', ← hk', ← had] at xC
          have Hnext := Lib.hid hnext
          have Hl := Lib.hid (show l.length = n * 1 from hR.1)
          have H1 := Lib.hid hR.2.1
          clear hs hq hn' hl' hk' had hnext
          rcases hR.2.2 with ⟨ha, hn0, hcc⟩ | ⟨x, ha, hrd⟩
          · have hl0 : l = [] := List.length_eq_zero_iff.1 (by rw [Hl.out, hn0])
            have hfin : CatLoop w K ns ls (gk - 1) (.slice a s cc) (.int .i64 ((i + 1 : Nat) : Int)) wr := by
              have e1 : psum ns (i + 1) = s := by rw [Hnext.out.1, hn0]; rfl
              have e2 : pcat ls (i + 1) = q := by rw [Hnext.out.2, hl0, List.append_nil]
              exact ⟨i + 1, a, cc, rfl, by have := Hgk2.out; omega, by rw [e1], by rw [e1, e2]; exact Ho.out, Hb.out⟩
            have Hfin := Lib.hid hfin
            obtain rfl := ha
            obtain rfl := hcc
            subst hn0
            clear hfin hl0 hR
            go_wp2_with (first
              | (at_builtin; refine wpList_append_own_none rfl (.tmp 31) (.tmp 32) 61 rfl w.heap.size 3 i0 1 Try.underlying61 hi _ s q rfl Ho.out rfl ?_))
            go_roundg (gk - 1)
            case measure => have := Hgk2.out; omega
            case rel => exact Hfin.out
          · have Hrd := Lib.hid hrd
            obtain rfl := ha
            clear hR hrd
            go_wp2_with (first
              | (at_builtin; refine wpList_append_own _ rfl (.tmp 31) (.tmp 32) 61 rfl w.heap.size 3 i0 (.int .i64 0) 1 8 Try.underlying61 hi hz0 hz1 hz2 rfl (by decide) _ s q rfl Ho.out x n _ l rfl Hl.out Hrd.out H1.out (by unfold maxLen; omega) (by omega) (by omega) ?_; intro v1 w2 ho2 hg2 _))
            obtain ⟨a2, cc2, rfl⟩ := own_shape ho2
            have hfin : CatLoop w K ns ls (gk - 1) (.slice a2 (s + n) cc2) (.int .i64 ((i + 1 : Nat) : Int)) w2 := by
              refine ⟨i + 1, a2, cc2, rfl, by have := Hgk2.out; omega, by rw [Hnext.out.1], by rw [Hnext.out.1, Hnext.out.2]; exact ho2, Hb.out.grown hg2 hws (fun r e => (Ho.out.lt r e).1)⟩
            have Hfin := Lib.hid hfin
            clear hfin ho2 hg2
            go_wp2_with fail
            go_roundg (gk - 1)
            case measure => have := Hgk2.out; omega
            case rel => exact Hfin.out
        · obtain rfl : K = i := by omega
          go_wp2_with fail
          go_ret
          exact ⟨a, cc, rfl, Ho.out, Hb.out⟩


theorem concat3_any (g c : Nat) (a1 a2 a3 : Option Addr) (n1 c1 n2 c2 n3 c3 : Nat) (l1 l2 l3 : List Value) (w : World)
    (h1 : w.cell? ⟨g, 0, none⟩ = some (.slice a1 n1 c1)) (h2 : w.cell? ⟨g, 1, none⟩ = some (.slice a2 n2 c2)) (h3 : w.cell? ⟨g, 2, none⟩ = some (.slice a3 n3 c3)) (r1 : Rd w a1 n1 c1 l1) (r2 : Rd w a2 n2 c2 l2) (r3 : Rd w a3 n3 c3 l3) (b1 : n1 ≤ 10000) (b2 : n2 ≤ 10000) (b3 : n3 ≤ 10000) :
    Calls Try.prog 83 #[.slice (some ⟨g, 0, none⟩) 3 c] w (CatPost w (n1 + n2 + n3) (l1 ++ l2 ++ l3)) := by
  have hcase : ∀ {j : Nat}, j < 3 → j = 0 ∨ j = 1 ∨ j = 2 := fun h => by omega
  have h := concat_any 3 g c (fun j => match j with | 0 => a1 | 1 => a2 | _ => a3) (fun j => match j with | 0 => n1 | 1 => n2 | _ => n3) (fun j => match j with | 0 => c1 | 1 => c2 | _ => c3) (fun j => match j with | 0 => l1 | 1 => l2 | _ => l3) w (by decide) (by decide)
    (fun j hj => by
      rcases hcase hj with rfl | rfl | rfl
      · exact h1
      · exact h2
      · exact h3) (fun j hj => by
      rcases hcase hj with rfl | rfl | rfl
      · exact r1
      · exact r2
      · exact r3) (fun j hj => by
      rcases hcase hj with rfl | rfl | rfl
      · exact b1
      · exact b2
      · exact b3)
  have e1 : psum (fun j => match j with | 0 => n1 | 1 => n2 | _ => n3) 3 = n1 + n2 + n3 := by simp [psum]
  have e2 : pcat (fun j => match j with | 0 => l1 | 1 => l2 | _ => l3) 3 = l1 ++ l2 ++ l3 := by simp [pcat]
  rw [e1, e2] at h
  exact h

theorem concat2_any (g c : Nat) (a1 a2 : Option Addr) (n1 c1 n2 c2 : Nat) (l1 l2 : List Value) (w : World)
    (h1 : w.cell? ⟨g, 0, none⟩ = some (.slice a1 n1 c1)) (h2 : w.cell? ⟨g, 1, none⟩ = some (.slice a2 n2 c2)) (r1 : Rd w a1 n1 c1 l1) (r2 : Rd w a2 n2 c2 l2) (b1 : n1 ≤ 10000) (b2 : n2 ≤ 10000) :
    Calls Try.prog 83 #[.slice (some ⟨g, 0, none⟩) 2 c] w (CatPost w (n1 + n2) (l1 ++ l2)) := by
  have hcase : ∀ {j : Nat}, j < 2 → j = 0 ∨ j = 1 := fun h => by omega
  have h := concat_any 2 g c (fun j => match j with | 0 => a1 | _ => a2) (fun j => match j with | 0 => n1 | _ => n2) (fun j => match j with | 0 => c1 | _ => c2) (fun j => match j with | 0 => l1 | _ => l2) w (by decide) (by decide)
    (fun j hj => by
      rcases hcase hj with rfl | rfl
      · exact h1
      · exact h2) (fun j hj => by
      rcases hcase hj with rfl | rfl
      · exact r1
      · exact r2) (fun j hj => by
      rcases hcase hj with rfl | rfl
      · exact b1
      · exact b2)
  have e1 : psum (fun j => match j with | 0 => n1 | _ => n2) 2 = n1 + n2 := by simp [psum]
  have e2 : pcat (fun j => match j with | 0 => l1 | _ => l2) 2 = l1 ++ l2 := by simp [pcat]
  rw [e1, e2] at h
  exact h

/-- A slice of numbers that can be read. -/
theorem Rd.of_at {w : World} {b o n c : Nat} {xs : List Int} (hl : xs.length = n) (h : At w b o xs) : Rd w (some ⟨b, o, none⟩) n c (ints xs) := by
  refine ⟨by rw [ints_len, hl, Nat.mul_one], fun u hu => ?_, .inr ⟨_, rfl, fun j u hj => ?_⟩⟩
  · simp only [ints, List.mem_map] at hu
    obtain ⟨x, _, rfl⟩ := hu
    rfl
  · have hjl : j < xs.length := by
      rcases Nat.lt_or_ge j xs.length with h1 | h1
      · exact h1
      · rw [List.getElem?_eq_none (by rw [ints_len]; exact h1)] at hj; cases hj
    rw [ints_get xs j hjl] at hj
    cases hj
    rw [Addr.add_lit]
    exact h j hjl
theorem Rd.of_sl {w : World} {a : Option Addr} {n c : Nat} {xs : List Int} (h : Sl w a n c xs) (hs : a.isSome = true) : Rd w a n c (ints xs) := by
  rcases Nat.eq_zero_or_pos n with h0 | h0
  · have hx : xs = [] := List.length_eq_zero_iff.1 (by rw [h.1, h0])
    obtain ⟨x, rfl⟩ := Option.isSome_iff_exists.1 hs
    subst hx h0
    exact ⟨rfl, fun u hu => (by cases hu), .inr ⟨x, rfl, fun j u hj => by simp [ints] at hj⟩⟩
  · obtain ⟨b, o, rfl, hat⟩ := h.2.2.2 h0
    exact Rd.of_at h.1 hat
end CB
end Go.Proofs.Ytgkcpmhgmhioiaa

/- Idx -/
/- slices.Index and slices.Contains at rows of numbers. -/
namespace Go.Proofs.Ytgkcpmhgmhioiaa
set_option maxRecDepth 100000
open Go.RowKit

/-- The first place of a number in a list; -1 where it is not there. -/
def idxI : List Int → Int → Int
  | [], _ => -1
  | x :: t, m => if x = m then 0 else if idxI t m < 0 then -1 else idxI t m + 1
theorem idx_at : ∀ {xs : List Int} {m : Int} {k : Nat}, k < xs.length → xs.getD k 0 = m → (∀ j, j < k → xs.getD j 0 ≠ m) → idxI xs m = k
  | [], _, _, h, _, _ => by simp at h
  | x :: t, m, 0, _, he, _ => by rw [idxI, if_pos (by simpa using he)]; rfl
  | x :: t, m, k + 1, h, he, hn => by
    have h0 := hn 0 (by omega)
    have ih := idx_at (xs := t) (m := m) (k := k) (by simpa using h) (by simpa using he) (fun j hj => by have := hn (j + 1) (by omega); simpa using this)
    rw [idxI, if_neg (by simpa using h0), ih, if_neg (by omega)]
    omega
theorem idx_no : ∀ {xs : List Int} {m : Int}, (∀ j, j < xs.length → xs.getD j 0 ≠ m) → idxI xs m = -1
  | [], _, _ => rfl
  | x :: t, m, h => by
    have h0 := h 0 (by simp)
    have ih := idx_no (xs := t) (m := m) (fun j hj => by have := h (j + 1) (by simpa using hj); simpa using this)
    rw [idxI, if_neg (by simpa using h0), ih, if_pos (by omega)]
theorem idx_mem : ∀ (xs : List Int) (m : Int), 0 ≤ idxI xs m ↔ m ∈ xs
  | [], m => by simp [idxI]
  | x :: t, m => by
    have ih := idx_mem t m
    rw [idxI]
    by_cases hx : x = m
    · rw [if_pos hx, hx]; simp
    · rw [if_neg hx]
      have hx' : ¬ m = x := fun e => hx e.symm
      by_cases h : idxI t m < 0
      · rw [if_pos h]
        have : ¬ m ∈ t := fun h9 => by have := ih.2 h9; omega
        simp [hx', this]
      · rw [if_neg h]
        have := ih.1 (by omega)
        simp [this] <;> omega
theorem idx_lt : ∀ (xs : List Int) (m : Int), idxI xs m < xs.length
  | [], _ => by simp [idxI]
  | x :: t, m => by
    have := idx_lt t m
    rw [idxI]
    split
    · simp <;> omega
    · split
      · simp <;> omega
      · simp <;> omega
theorem idx_ge (xs : List Int) (m : Int) : -1 ≤ idxI xs m := by
  cases xs with
  | nil => simp [idxI]
  | cons x t =>
    rw [idxI]
    split
    · omega
    · split <;> omega
theorem idx_measure {n k : Nat} (h : k < n) : n - (intOf (.int .i64 ((k : Int) + 1))).toNat < n - (intOf (.int .i64 (k : Int))).toNat := by
  simp [intOf]; omega

set_option maxHeartbeats 1000000 in
theorem index_any (ao : Option Addr) (n c : Nat) (xs : List Int) (m : Int) (w : World) (hb : n ≤ 1000000000000) (h : Sl w ao n c xs) :
    Calls Try.prog 82 #[.slice ao n c, .int .i64 m] w fun e w' => e = .returned (.int .i64 (idxI xs m)) ∧ w = w' := by
  obtain ⟨x1, x2, x3, x4⟩ := h
  have X1 := Lib.hid x1
  have X4 := Lib.hid x4
  obtain ⟨o, ho⟩ : ∃ o, o = idxI xs m := ⟨_, rfl⟩
  rw [← ho]
  have Ho := Lib.hid ho
  clear x1 x4 ho
  go_enter Try.func82, Try.ntmps82
  go_wp2_with fail
  go_loopw [5, 8] (fun _ i wr => ∃ (k : Nat), k ≤ n ∧ i = .int .i64 k ∧ Hid (∀ j, j < k → xs.getD j 0 ≠ m) ∧ w = wr) (fun _ i _ => n - (intOf i).toNat)
  case atStart => exact ⟨0, Nat.zero_le _, rfl, fun j hj => by omega, rfl⟩
  case round =>
    obtain ⟨k, hk, rfl, HE, rfl⟩ := hrel
    by_cases hlt : k < n
    · obtain ⟨b, off, rfl, hat⟩ := X4.out (by omega)
      have hkx : k < xs.length := by rw [X1.out]; exact hlt
      have hx : w.cell? ⟨b, off + k, none⟩ = some (.int .i64 (xs.getD k 0)) := hat k hkx
      obtain ⟨x, hxe⟩ : ∃ x, x = xs.getD k 0 := ⟨_, rfl⟩
      rw [← hxe] at hx
      have Hx := Lib.hid hxe
      have Hkx := Lib.hid hkx
      clear hkx hxe
      by_cases hxm : m = x
      · have hoF : o = (k : Int) := by rw [Ho.out]; exact idx_at Hkx.out (by rw [← Hx.out]; exact hxm.symm) HE.out
        have hq : (m == x) = true := by simp [hxm]
        subst hoF
        clear hxm
        go_wp2_with fail
        go_ret
        exact ⟨rfl, rfl⟩
      · have hq : (m == x) = false := by simp [hxm]
        have HE2 := Lib.hid (show ∀ j, j < k + 1 → xs.getD j 0 ≠ m from fun j hj => by
          by_cases hjk : j = k
          · subst hjk; rw [← Hx.out]; exact fun e => hxm e.symm
          · exact HE.out j (by omega))
        clear hxm
        go_wp2_with fail
        go_roundw
        case rel => exact ⟨k + 1, by omega, by go_num, HE2, by trivial⟩
        case measure => exact idx_measure hlt
    · obtain rfl : k = n := by omega
      have hoT : o = -1 := by rw [Ho.out]; exact idx_no (fun j hj => HE.out j (by rw [← X1.out]; exact hj))
      subst hoT
      go_wp2_with fail
      go_ret
      exact ⟨rfl, rfl⟩

theorem contains_any (ao : Option Addr) (n c : Nat) (xs : List Int) (m : Int) (w : World) (hb : n ≤ 1000000000000) (h : Sl w ao n c xs) :
    Calls Try.prog 62 #[.slice ao n c, .int .i64 m] w fun e w' => e = .returned (.bool (decide (m ∈ xs))) ∧ w = w' := by
  have k1 := Lib.hid (index_any ao n c xs m w hb h)
  have hm := idx_mem xs m
  obtain ⟨z, hz⟩ : ∃ z, z = idxI xs m := ⟨_, rfl⟩
  rw [← hz] at k1 hm
  have e1 : decide (m ∈ xs) = decide ((0 : Int) ≤ z) := by simp [hm]
  rw [e1]
  clear hm hz h e1
  go_enter Try.func62, Try.ntmps62
  go_wp2_with fail
  refine (k1.out).mono ?_
  rintro ee wx ⟨rfl, rfl⟩
  go_wp2_with fail
  go_ret
  exact ⟨rfl, rfl⟩

end Go.Proofs.Ytgkcpmhgmhioiaa

/- BagR -/
/- Multisets: one number replaced by lesser ones, by the program. -/
namespace Go.Proofs.Ytgkcpmhgmhioiaa
set_option maxRecDepth 100000
open Go.RowKit

set_option maxHeartbeats 4000000 in
theorem with_any (a1 a2 : Option Addr) (n1 c1 n2 c2 : Nat) (xs ys : List Int) (w : World) (hx : CB.Rd w a1 n1 c1 (ints xs)) (hy : CB.Rd w a2 n2 c2 (ints ys)) (hl1 : xs.length = n1) (hl2 : ys.length = n2) (b1 : n1 ≤ 1000) (b2 : n2 ≤ 1000) (hu : upTo 9 (xs ++ ys) = true) :
    Calls Try.prog 65 #[.slice a1 n1 c1, .slice a2 n2 c2] w (IntPost w (flat (xs ++ ys) 10)) := by
  obtain ⟨W, hW⟩ : ∃ W, W = w.alloc (.cells #[.slice a1 n1 c1, .slice a2 n2 c2] 61) := ⟨_, rfl⟩
  have hbW : Below w.heap.size w W := by rw [hW]; exact (Below.refl _ _).alloc (Nat.le_refl _) _
  have hc : ∀ i, W.cell? ⟨w.heap.size, i, none⟩ = #[.slice a1 n1 c1, .slice a2 n2 c2][i]? := fun i => by rw [hW]; exact Joins.cell_alloc_mark_at _ _ _ _ _ _ rfl
  have kc := Lib.hid (CB.concat2_any w.heap.size 2 a1 a2 n1 c1 n2 c2 (ints xs) (ints ys) W (hc 0) (hc 1) (hx.below hbW) (hy.below hbW) (by omega) (by omega))
  have km := Lib.hid (fun (w1 : World) (a : Option Addr) (c : Nat) (h : Sl w1 a (n1 + n2) c (xs ++ ys)) => multisetOf_any a (n1 + n2) c (xs ++ ys) w1 h (by omega) hu)
  have HbW := Lib.hid hbW
  have HWe := Lib.hid hW.symm
  have hws := hbW.size
  obtain ⟨r, hr⟩ : ∃ r, r = flat (xs ++ ys) 10 := ⟨_, rfl⟩
  rw [← hr] at km ⊢
  unfold IntPost at km
  clear hx hy hbW hW hc hr hu
  go_enter Try.func65, Try.ntmps65
  go_wp2_with fail
  rw [HWe.out]
  refine (kc.out).mono ?_
  rintro ee w1 ⟨a, c, rfl, ho, hb⟩
  have e9 : ints xs ++ ints ys = ints (xs ++ ys) := by simp [ints]
  rw [e9] at ho
  have k2 := Lib.hid (km.out w1 a c (Sl.of_own ho))
  have Hb := Lib.hid (HbW.out.trans (hb.mono hws))
  clear ho hb e9
  go_wp2_with fail
  refine (k2.out).mono ?_
  rintro ee w2 ⟨a2', c2', rfl, ho2, hb2⟩
  have hfin : IntPost w r (.returned (.slice a2' r.length c2')) w2 := ⟨a2', c2', rfl, Joins.ownsRow_le ho2 Hb.out.size, Hb.out.trans (hb2.mono Hb.out.size)⟩
  have Hfin := Lib.hid hfin
  clear ho2 hb2 hfin
  go_wp2_with fail
  go_ret
  exact Hfin.out

theorem Rd.of_own' {w : World} {B n c : Nat} {a : Option Addr} {xs : List Int} (h : w.ownsRow B 3 1 (.slice a n c) n (ints xs)) : CB.Rd w a n c (ints xs) := by
  have hl : xs.length = n := by have := h.1; rw [ints_len] at this; omega
  have hs := Sl.of_own h
  rcases h.2 with ⟨h1, h2⟩ | ⟨g, cap, cur, h1, h2⟩
  · cases h1
    have hx : xs = [] := List.length_eq_zero_iff.1 hl
    subst hx
    exact ⟨rfl, fun u hu => (by cases hu), .inl ⟨rfl, rfl, rfl⟩⟩
  · cases h1
    exact CB.Rd.of_sl hs rfl

set_option maxHeartbeats 8000000 in
theorem impl_BagPut (a1 a2 : Option Addr) (n1 c1 n2 c2 : Nat) (xs : List Int) (V : Int) (ys : List Int) (w : World) (hx : Sl w a1 n1 c1 xs) (hy : Sl w a2 n2 c2 ys) (hn1 : n1 ≤ 1048576) (hn2 : n2 ≤ 1048576) (hs : a2.isSome = true := by rfl) :
    Calls Try.prog 28 #[.slice a1 n1 c1, .int .i64 V, .slice a2 n2 c2] w (OrdOkPost w (putRow xs V ys) (putOk xs V ys)) := by
  have k1 := Lib.hid (impl_BagValid a1 n1 c1 xs w hx)
  have HX := Lib.hid hx
  have HY := Lib.hid hy
  obtain ⟨r, hr⟩ : ∃ r, r = putRow xs V ys := ⟨_, rfl⟩
  obtain ⟨o, ho⟩ : ∃ o, o = putOk xs V ys := ⟨_, rfl⟩
  have hno : putOk xs V ys = false → r = [] ∧ o = false := fun h => ⟨by rw [hr, putRow_no h], by rw [ho, h]⟩
  have hyes : putOk xs V ys = true → r = flat (xs.erase V ++ ys) 10 ∧ o = true := fun h => ⟨by rw [hr, putRow_yes h]; exact flat_cong 10 (fun j _ => by rw [List.count_append, List.count_append]; omega), by rw [ho, h]⟩
  rw [← hr, ← ho]
  have HNo := Lib.hid hno
  have HYes := Lib.hid hyes
  have Hs := Lib.hid hs
  clear hx hy hr ho hno hyes hs
  rcases bag_tf xs with h1 | h1
  · rw [h1] at k1
    have h16 : n1 ≤ 16 := by have h9 := (itemsB_true.1 (bagB_true.1 h1).1).1; rw [HX.out.1] at h9; exact h9
    have H1 := Lib.hid h1
    clear h1
    go_enter Try.func28, Try.ntmps28
    go_wp2_with fail
    refine (k1.out).mono ?_
    rintro ee w1 ⟨rfl, hb1⟩
    have Hb1 := Lib.hid hb1
    have hw1 := hb1.size
    have k2 := Lib.hid (contains_any a1 n1 c1 xs V w1 (by omega) (HX.out.below hb1))
    clear hb1
    by_cases hm : V ∈ xs
    · rw [decide_eq_true hm] at k2
      have hVb := upTo_true.1 (itemsB_true.1 (bagB_true.1 H1.out).1).2 V hm
      have hn0 : 1 ≤ n1 := by have := List.length_pos_of_mem hm; rw [HX.out.1] at this; exact this
      have HM := Lib.hid hm
      have k3 := Lib.hid (allUpTo_any a2 n2 c2 ys (V - 1) w1 (by omega) (HY.out.below Hb1.out))
      clear hm
      go_wp2_with fail
      refine (k2.out).mono ?_
      rintro ee wx ⟨rfl, rfl⟩
      rcases up_tf (V - 1) ys with h3 | h3
      · rw [h3] at k3
        have H3 := Lib.hid h3
        clear h3
        go_wp2_with fail
        refine (k3.out).mono ?_
        rintro ee wx ⟨rfl, rfl⟩
        by_cases hle : n1 - 1 + n2 ≤ 16
        · obtain ⟨hr, rfl⟩ := HYes.out (putOk_yes H1.out HM.out H3.out (by rw [HX.out.1, HY.out.1]; exact hle))
          have hwo : wo xs [V] = xs.erase V := wo_erase xs (bag_pw H1.out) HM.out
          obtain ⟨W, hW⟩ : ∃ W, W = w1.alloc (.cells #[.int .i64 V] 3) := ⟨_, rfl⟩
          have hbW : Below w1.heap.size w1 W := by rw [hW]; exact (Below.refl _ _).alloc (Nat.le_refl _) _
          have hbw : Below w.heap.size w W := Hb1.out.trans (hbW.mono hw1)
          have hslV : Sl W (some ⟨w1.heap.size, 0, none⟩) 1 1 [V] := by
            refine Sl.of_own (B := w1.heap.size) ?_
            rw [hW]; exact World.ownsRow_lit w1 #[.int .i64 V] 1 (Nat.le_refl _) (by simp [maxLen]) rfl
          have k4 := Lib.hid (without_any a1 (some ⟨w1.heap.size, 0, none⟩) n1 c1 1 1 xs [V] W (by omega) (by omega) (HX.out.below hbw) hslV)
          rw [hwo] at k4
          have hel : (xs.erase V).length = n1 - 1 := by rw [List.length_erase_of_mem HM.out, HX.out.1]
          obtain ⟨xe, hxe⟩ : ∃ xe, xe = xs.erase V := ⟨_, rfl⟩
          rw [← hxe] at k4 hel hr
          have hu : upTo 9 (xe ++ ys) = true := upTo_true.2 (fun x hx => by
            have h6 := upTo_true.1 (itemsB_true.1 (bagB_true.1 H1.out).1).2
            rcases List.mem_append.1 hx with hx | hx
            · rw [hxe] at hx; exact h6 x (List.mem_of_mem_erase hx)
            · have := upTo_true.1 H3.out x hx
              omega)
          have k5 := Lib.hid (fun (w2 : World) (a : Option Addr) (c : Nat) (h : CB.Rd w2 a (n1 - 1) c (ints xe)) (h' : CB.Rd w2 a2 n2 c2 (ints ys)) => with_any a a2 (n1 - 1) c n2 c2 xe ys w2 h h' hel HY.out.1 (by omega) (by omega) hu)
          rw [hel] at k4
          rw [← hr] at k5
          unfold IntPost at k5
          have Hbw := Lib.hid hbw
          have HWe := Lib.hid hW.symm
          have hwW := hbw.size
          have hsum : IntKind.i64.wrap ((n1 : Int) - 1) = (n1 : Int) - 1 := IntWalk.i64_in _ (by omega)
          have hsum2 : IntKind.i64.wrap ((n1 : Int) - 1 + (n2 : Int)) = (n1 : Int) - 1 + (n2 : Int) := IntWalk.i64_in _ (by omega)
          have hle' : decide ((16 : Int) < (n1 : Int) - 1 + (n2 : Int)) = false := by simp; omega
          clear hwo hbW hbw hslV hel hu hW hxe hr
          go_wp2_with fail
          rw [HWe.out]
          refine (k4.out).mono ?_
          rintro ee w2 ⟨a, c, rfl, ho2, hb2⟩
          have Hb2 := Lib.hid (Hbw.out.trans (hb2.mono hwW))
          have k6 := Lib.hid (k5.out w2 a c (Rd.of_own' ho2) (CB.Rd.of_sl (HY.out.below Hb2.out) Hs.out))
          clear ho2 hb2
          go_wp2_with fail
          refine (k6.out).mono ?_
          rintro ee w3 ⟨a3, c3, rfl, ho3, hb3⟩
          have hfin : OrdOkPost w r true (.returned (.tuple #[.slice a3 r.length c3, .bool true])) w3 := ⟨a3, c3, rfl, Joins.ownsRow_le ho3 Hb2.out.size, Hb2.out.trans (hb3.mono Hb2.out.size)⟩
          have Hfin := Lib.hid hfin
          clear ho3 hb3 hfin
          go_wp2_with fail
          go_ret2
          exact Hfin.out
        · obtain ⟨rfl, rfl⟩ := HNo.out (putOk_4 (by rw [HX.out.1, HY.out.1]; exact hle))
          have hsum : IntKind.i64.wrap ((n1 : Int) - 1) = (n1 : Int) - 1 := IntWalk.i64_in _ (by omega)
          have hsum2 : IntKind.i64.wrap ((n1 : Int) - 1 + (n2 : Int)) = (n1 : Int) - 1 + (n2 : Int) := IntWalk.i64_in _ (by omega)
          have hle' : decide ((16 : Int) < (n1 : Int) - 1 + (n2 : Int)) = true := by simp; omega
          go_wp2_with fail
          go_ret2
          exact OrdOkPost.nil (nil_own _ _) Hb1.out
      · rw [h3] at k3
        obtain ⟨rfl, rfl⟩ := HNo.out (putOk_3 h3)
        clear h3
        go_wp2_with fail
        refine (k3.out).mono ?_
        rintro ee wx ⟨rfl, rfl⟩
        go_wp2_with fail
        go_ret2
        exact OrdOkPost.nil (nil_own _ _) Hb1.out
    · rw [decide_eq_false hm] at k2
      obtain ⟨rfl, rfl⟩ := HNo.out (putOk_2 hm)
      clear hm
      go_wp2_with fail
      refine (k2.out).mono ?_
      rintro ee wx ⟨rfl, rfl⟩
      go_wp2_with fail
      go_ret2
      exact OrdOkPost.nil (nil_own _ _) Hb1.out
  · rw [h1] at k1
    obtain ⟨rfl, rfl⟩ := HNo.out (putOk_1 h1)
    clear h1
    go_enter Try.func28, Try.ntmps28
    go_wp2_with fail
    refine (k1.out).mono ?_
    rintro ee w1 ⟨rfl, hb1⟩
    have Hb1 := Lib.hid hb1
    clear hb1
    go_wp2_with fail
    go_ret2
    exact OrdOkPost.nil (nil_own _ _) Hb1.out

end Go.Proofs.Ytgkcpmhgmhioiaa

/- BagS -/
/- Multisets: one number replaced by lesser ones, by the model. -/
namespace Go.Proofs.Ytgkcpmhgmhioiaa
set_option maxRecDepth 100000
open Go.RowKit

def PtRel (w wA : World) (n2 : Nat) (xs ys : List Int) (V : Int) (v8 v9 v11 : Value) (wr : World) : Prop :=
  ∃ (i k g c : Nat) (b : Bool) (ls : List Int), v11 = .int .i64 i ∧ Hid (ls = ys ++ (xs.take i).erase V ∧ (b = true ↔ V ∈ xs.take i)) ∧ v9 = .bool b ∧ v8 = .slice (some ⟨g, 0, none⟩) k c ∧ wr.ownsRow w.heap.size 3 1 v8 k (ints ls) ∧ ls.length = k ∧ k ≤ n2 + i ∧ Below w.heap.size w wr ∧ wA.heap.size ≤ wr.heap.size

set_option maxHeartbeats 4000000 in
theorem spec_BagPut (a1 : Option Addr) (n1 c1 g2 n2 c2 B : Nat) (xs ys : List Int) (V : Int) (w : World) (hx : Sl w a1 n1 c1 xs) (hy : w.ownsRow B 3 1 (.slice (some ⟨g2, 0, none⟩) n2 c2) n2 (ints ys)) (hn1 : n1 ≤ 1048576) (hn2 : n2 ≤ 1048576) (hV0 : -9223372036854775808 ≤ V) (hV1 : V ≤ 9223372036854775807) :
    Calls Try.prog 29 #[.slice a1 n1 c1, .int .i64 V, .slice (some ⟨g2, 0, none⟩) n2 c2] w (OrdOkPost w (putRow xs V ys) (putOk xs V ys)) := by
  obtain ⟨i0, hi, hz0, hz1, hz2⟩ := info_parts info_int
  have k1 := Lib.hid (spec_BagValid a1 n1 c1 xs w hx)
  have HX := Lib.hid hx
  have HY := Lib.hid hy
  have hl2 : ys.length = n2 := by have := hy.1; rw [ints_len] at this; omega
  have Hl2 := Lib.hid hl2
  obtain ⟨r, hr⟩ : ∃ r, r = putRow xs V ys := ⟨_, rfl⟩
  obtain ⟨o, ho⟩ : ∃ o, o = putOk xs V ys := ⟨_, rfl⟩
  have hno : putOk xs V ys = false → r = [] ∧ o = false := fun h => ⟨by rw [hr, putRow_no h], by rw [ho, h]⟩
  have hyes : putOk xs V ys = true → r = bagOf (ys ++ xs.erase V) ∧ o = true := fun h => ⟨by rw [hr, putRow_yes' h], by rw [ho, h]⟩
  rw [← hr, ← ho]
  have HNo := Lib.hid hno
  have HYes := Lib.hid hyes
  have HLn := Lib.hid hx.1
  clear hx hy hl2 hr ho hno hyes
  rcases bag_tf xs with h1 | h1
  · rw [h1] at k1
    have h16a : n1 ≤ 16 := by have h9 := (itemsB_true.1 (bagB_true.1 h1).1).1; rw [HLn.out] at h9; exact h9
    have HB1 := Lib.hid h1
    clear h1
    go_enter Try.func29, Try.ntmps29
    go_wp2_with fail
    refine (k1.out).mono ?_
    rintro ee w1 ⟨rfl, hb1⟩
    have Hb1 := Lib.hid hb1
    have hw1 := hb1.size
    have k2 := Lib.hid (l6Many_any a1 n1 c1 xs V w1 (by omega) (HX.out.below hb1))
    have hcb : xs.count V ≤ 200 := by have := List.count_le_length (a := V) (l := xs); rw [HX.out.1] at this; omega
    obtain ⟨p, hp⟩ : ∃ p, p = xs.count V := ⟨_, rfl⟩
    rw [← hp] at k2 hcb
    have HP := Lib.hid hp
    have HY1 := Lib.hid (ownsRow_below' HY.out hb1)
    clear hb1 hp
    go_wp2_with fail
    refine (k2.out).mono ?_
    rintro ee wx ⟨rfl, rfl⟩
    by_cases hp0 : p = 0
    · have hpz : ((p : Int) == 0) = true := by simp [hp0]
      obtain ⟨rfl, rfl⟩ := HNo.out (putOk_2 (List.count_eq_zero.1 (by rw [← HP.out]; exact hp0)))
      clear hp0
      go_wp2_with fail
      go_ret2
      exact lit_post Hb1.out
    · have hpz : ((p : Int) == 0) = false := by simp [hp0]
      have hmem : V ∈ xs := List.count_pos_iff.1 (by rw [← HP.out]; omega)
      have hVb := upTo_true.1 (itemsB_true.1 (bagB_true.1 HB1.out).1).2 V hmem
      have hV : IntKind.i64.wrap (V - 1) = V - 1 := IntWalk.i64_in _ (by omega)
      have HM := Lib.hid hmem
      clear hmem
      have HN := Lib.hid (bg_news (o := .cells #[] 3) HY1.out)
      clear hp0
      go_wp2_with (first
        | (at_builtin; go_loud (refine wpList_append_own _ rfl (.tmp 22) (.tmp 23) 23 rfl w1.heap.size 3 i0 (.int .i64 0) 1 8 Try.underlying23 hi hz0 hz1 hz2 rfl (by decide) _ 0 [] (by rfl) (World.ownsRow_lit w1 #[] 0 (Nat.le_refl _) (by simp [maxLen]) rfl) ⟨g2, 0, none⟩ n2 c2 (ints ys) (by rfl) (by rw [ints_len]; have := Hl2.out; omega) HN.out (ints_one ys) (by unfold maxLen; omega) (by omega) (by simp) ?_; intro v1 wA ho1 hg1 hiff; have hne1 : v1 ≠ .slice none 0 0 := fun h => absurd (hiff.1 h).1 (by simp); have hoA := own0 ho1; have hbA := (Hb1.out.alloc hw1 (.cells #[] 3)).grown hg1 (by simp <;> omega) (fun r e => by cases e <;> exact hw1); have hsA := hg1.size; have HbA := Lib.hid hbA; have HoA := Lib.hid hoA)))
      obtain ⟨g6, c6, rfl⟩ : ∃ g c, v1 = .slice (some ⟨g, 0, none⟩) n2 c := by
        rcases HoA.out.2 with ⟨h9, h8⟩ | ⟨g, cap, cur, h0, _⟩
        · exact absurd h9 hne1
        · exact ⟨g, cap, h0⟩
      have HYA := Lib.hid (ownsRow_below' HY.out HbA.out)
      have XA := Lib.hid (HX.out.below HbA.out)
      have hwA := HbA.out.size
      have HoA0 := Lib.hid (Joins.ownsRow_le HoA.out hw1)
      clear ho1 hg1 hoA hbA hsA hiff hne1
      go_wp2_with fail
      go_loopw [10] (fun v10 wr => ∃ k : Nat, k ≤ n2 ∧ v10 = .int .i64 k ∧ Hid (∀ j, j < k → 0 ≤ ys.getD j 0 ∧ ys.getD j 0 ≤ V - 1) ∧ wA = wr) (fun v10 _ => n2 - (intOf v10).toNat)
      case atStart => exact ⟨0, Nat.zero_le _, rfl, Lib.hid (fun j hj => by omega), rfl⟩
      case round =>
        obtain ⟨k, hk, rfl, HE, rfl⟩ := hrel
        by_cases hlt : k < n2
        · obtain ⟨x, hx⟩ : ∃ x, x = ys.getD k 0 := ⟨_, rfl⟩
          have y0 : wA.cell? ⟨g2, k, none⟩ = some (.int .i64 x) := by
            rw [HYA.out.cellAt k (by omega), ints_get ys k (by rw [Hl2.out]; exact hlt), hx]
          have Hx := Lib.hid hx
          clear hx
          by_cases hin : 0 ≤ x ∧ x ≤ V - 1
          · have ci := Lib.hid (l1In_yes x 0 (V - 1) wA hin.1 hin.2)
            have HE2 := Lib.hid (show ∀ j, j < k + 1 → 0 ≤ ys.getD j 0 ∧ ys.getD j 0 ≤ V - 1 from fun j hj => by
              by_cases hjk : j = k
              · subst hjk; rw [← Hx.out]; exact hin
              · exact HE.out j (by omega))
            clear hin
            go_wp2_with fail
            refine (ci.out).mono ?_
            rintro ee wx ⟨rfl, rfl⟩
            go_wp2_with fail
            go_roundw
            case rel => exact ⟨k + 1, by omega, by go_num, HE2, by trivial⟩
            case measure => exact bag_measure hlt
          · have ci := Lib.hid (l1In_no x 0 (V - 1) wA (by omega))
            obtain ⟨rfl, rfl⟩ := HNo.out (putOk_3 (upTo_at (k := k) (by rw [Hl2.out]; exact hlt) (by rw [← Hx.out]; omega)))
            clear hin
            go_wp2_with fail
            refine (ci.out).mono ?_
            rintro ee wx ⟨rfl, rfl⟩
            go_wp2_with fail
            go_ret2
            exact lit_post HbA.out
        · have hkn : k = n2 := by omega
          have HU := Lib.hid (show upTo (V - 1) ys = true from upTo_all (fun j hj => HE.out j (by rw [hkn]; rw [Hl2.out] at hj; exact hj)))
          have Hst := Lib.hid (show PtRel w wA n2 xs ys V (.slice (some ⟨g6, 0, none⟩) n2 c6) (.bool false) (.int .i64 (0 : Nat)) wA from ⟨0, n2, g6, c6, false, ys, rfl, Lib.hid (by simp), rfl, rfl, HoA0.out, Hl2.out, by omega, HbA.out, Nat.le_refl _⟩)
          clear hkn
          go_wp2_with fail
          go_loopw [8, 9, 11] (fun v8 v9 v11 wr => PtRel w wA n2 xs ys V v8 v9 v11 wr) (fun _ _ v11 _ => n1 - (intOf v11).toNat)
          case atStart => exact Hst.out
          case round =>
            obtain ⟨i, k3, g3, c3, b, ls, rfl, HLS, rfl, rfl, ho3, hl3, hk3, hb3, hw3⟩ := hrel
            obtain ⟨wB, rfl⟩ : ∃ wB : World, wB = wr := ⟨_, rfl⟩
            have Ho3 := Lib.hid ho3
            have Hl3 := Lib.hid hl3
            have Hb3 := Lib.hid hb3
            have XB := Lib.hid (HX.out.below hb3)
            have hwB := hb3.size
            clear ho3 hl3 hb3
            by_cases hlt3 : i < n1
            · obtain ⟨bb, off, rfl, hat⟩ := XB.out.2.2.2 (by omega)
              have hix : i < xs.length := by rw [HX.out.1]; exact hlt3
              have y0 := hat i hix
              obtain ⟨x, hx⟩ : ∃ x, x = xs.getD i 0 := ⟨_, rfl⟩
              rw [← hx] at y0
              have Hx := Lib.hid hx
              have Hix := Lib.hid hix
              have hap : (b = true ∨ x ≠ V) → ∀ (g6 c6 : Nat) (wC : World), wC.ownsRow w.heap.size 3 1 (.slice (some ⟨g6, 0, none⟩) (k3 + 1) c6) (k3 + 1) (ints ls ++ [.int .i64 x]) → (wB.alloc (.cells #[.int .i64 x] 3)).grownBy wC (Value.slice (some ⟨g3, 0, none⟩) k3 c3).ownBlock →
                  PtRel w wA n2 xs ys V (.slice (some ⟨g6, 0, none⟩) (k3 + 1) c6) (.bool b) (.int .i64 ((i : Int) + 1)) wC := by
                intro hbx g6 c6 wC ho hg
                have hkp := put_keep Hix.out (V := V) (by rw [← Hx.out]; exact hbx.imp HLS.out.2.1 id)
                refine ⟨i + 1, k3 + 1, g6, c6, b, ls ++ [x], by go_num, Lib.hid ⟨by rw [HLS.out.1, hkp.1, ← Hx.out, List.append_assoc], HLS.out.2.trans hkp.2.symm⟩, rfl, rfl, by simpa [ints] using ho, by rw [List.length_append, Hl3.out]; rfl, by omega, (Hb3.out.alloc hwB _).grown hg (by simp; omega) (fun r e => (Ho3.out.lt r e).1), ?_⟩
                have h9 := hg.size
                simp at h9
                omega
              have Hap := Lib.hid hap
              clear hat hix hx hap
              by_cases hg : x = V ∧ b = false
              · obtain ⟨rfl, rfl⟩ := hg
                have hxe : (x == x) = true := by simp
                have hsk := put_skip Hix.out (by rw [← Hx.out]; exact fun h => by have := HLS.out.2.2 h; cases this)
                rw [← Hx.out] at hsk
                have HS := Lib.hid (show ls = ys ++ (xs.take (i + 1)).erase x ∧ (true = true ↔ x ∈ xs.take (i + 1)) from ⟨by rw [hsk.1]; exact HLS.out.1, ⟨fun _ => hsk.2, fun _ => rfl⟩⟩)
                clear hsk
                go_wp2_with fail
                go_roundw
                case rel => exact ⟨i + 1, k3, g3, c3, true, ls, by go_num, HS, rfl, rfl, Ho3.out, Hl3.out, by omega, Hb3.out, hw3⟩
                case measure => exact bag_measure hlt3
              · have Hbx := Lib.hid (show b = true ∨ x ≠ V by
                  cases b with
                  | true => exact .inl rfl
                  | false => exact .inr (fun h => hg ⟨h, rfl⟩))
                have hgo : ((x == V) = false) ∨ ((x == V) = true ∧ b = true) := by
                  by_cases hxv : x = V
                  · right
                    refine ⟨by simp [hxv], ?_⟩
                    cases b with
                    | true => rfl
                    | false => exact absurd ⟨hxv, rfl⟩ hg
                  · left; simp [hxv]
                clear hg
                rcases hgo with hxe | ⟨hxe, rfl⟩
                all_goals
                  go_wp2_with (first
                    | (at_builtin; refine wpList_append_own _ rfl (.tmp 56) (.tmp 61) 23 rfl w.heap.size 3 i0 (.int .i64 0) 1 8 Try.underlying23 hi hz0 hz1 hz2 rfl (by decide) _ k3 (ints ls) (by rfl) (Ho3.out.alloc _) ⟨wB.heap.size, 0, none⟩ 1 1 [.int .i64 x] (by rfl) (by rfl) (cell_one_new _ _ _) (ints_oneCell _ [x]) (by unfold maxLen; omega) (by omega) (by simp; omega) ?_; intro v4 wC ho4 hg4 _; obtain ⟨g6, c6, rfl⟩ := Joins.ownsRow_form ho4 (by omega)))
                  have Hfin := Lib.hid (Hap.out Hbx.out g6 c6 wC ho4 hg4)
                  clear ho4 hg4
                  go_wp2_with fail
                  go_roundw
                  case rel => exact Hfin.out
                  case measure => exact bag_measure hlt3
            · have hLE : ls = ys ++ xs.erase V := by rw [HLS.out.1, List.take_of_length_le (by rw [HLn.out]; omega)]
              have hkl : k3 = ys.length + (xs.length - 1) := by rw [← Hl3.out, hLE, List.length_append, List.length_erase_of_mem HM.out]
              have HLE := Lib.hid hLE
              have Hkl := Lib.hid hkl
              clear hLE hkl
              by_cases h16 : 16 < k3
              · obtain ⟨rfl, rfl⟩ := HNo.out (putOk_4 (by have := Hkl.out; omega))
                go_wp2_with fail
                go_ret2
                exact lit_post Hb3.out
              · have kb := Lib.hid (spec_BagOf _ k3 c3 ls wB (Sl.of_own Ho3.out))
                obtain ⟨hrr, rfl⟩ := HYes.out (putOk_yes HB1.out HM.out HU.out (by have := Hkl.out; omega))
                rw [HLE.out, ← hrr] at kb
                unfold BagPost at kb
                clear hrr
                go_wp2_with fail
                refine (kb.out).mono ?_
                rintro ee w9 ⟨g9, c9, rfl, ho9, hb9⟩
                have hfin : OrdOkPost w r true (.returned (.tuple #[.slice (some ⟨g9, 0, none⟩) r.length c9, .bool true])) w9 :=
                  ⟨_, c9, rfl, Joins.ownsRow_le ho9 hwB, Hb3.out.trans (hb9.mono hwB)⟩
                have Hfin := Lib.hid hfin
                clear hfin ho9 hb9
                go_wp2_with fail
                go_ret2
                exact Hfin.out
  · rw [h1] at k1
    obtain ⟨rfl, rfl⟩ := HNo.out (putOk_1 h1)
    clear h1
    go_enter Try.func29, Try.ntmps29
    go_wp2_with fail
    refine (k1.out).mono ?_
    rintro ee w1 ⟨rfl, hb1⟩
    have Hb1 := Lib.hid hb1
    have hw1 := hb1.size
    clear hb1
    go_wp2_with fail
    go_ret2
    exact lit_post Hb1.out

end Go.Proofs.Ytgkcpmhgmhioiaa

/- AddI -/
/- The program's sums. -/
namespace Go.Proofs.Ytgkcpmhgmhioiaa
set_option maxRecDepth 100000
open Go.RowKit

theorem TC.join {w : World} {d u : T} {cs ds : List Value} (h : TC w d cs) (k : TC w u ds) : TC w (d.app u) (cs ++ ds) := by
  induction d generalizing cs with
  | z => simp only [TC] at h; subst h; exact k
  | c n e r _ ih =>
    obtain ⟨b, off, cap, cs', rfl, h1, h2, h3, h4⟩ := h
    exact ⟨b, off, cap, _, rfl, h1, h2, h3, ih h4⟩
theorem TC.back {w : World} {d u : T} {cs : List Value} (h : TC w (d.app u) cs) : TC w u (cs.drop (2 * d.cnt)) := by
  induction d generalizing cs with
  | z => simpa [T.cnt, T.app] using h
  | c n e r _ ih =>
    obtain ⟨b, off, cap, cs', rfl, h1, h2, h3, h4⟩ := h
    have := ih h4
    rw [show 2 * (T.c n e r).cnt = 2 * r.cnt + 1 + 1 by simp [T.cnt]; omega]
    simpa using this
theorem TC.one {w : World} {t : T} {cs : List Value} (h : TC w t cs) : ∀ u ∈ cs, u.oneCell' = true := by
  induction t generalizing cs with
  | z => simp only [TC] at h; subst h; intro u hu; cases hu
  | c n e r _ ih =>
    obtain ⟨b, off, cap, cs', rfl, h1, h2, h3, h4⟩ := h
    intro u hu
    rcases List.mem_cons.1 hu with rfl | hu
    · rfl
    · rcases List.mem_cons.1 hu with rfl | hu
      · rfl
      · exact ih h4 u hu

theorem set_same {w : World} {b : Nat} {u : Value} (h : w.cell? ⟨b, 0, none⟩ = some u) (v : Value) : (w.drew.setCell ⟨b, 0, none⟩ v).cell? ⟨b, 0, none⟩ = some v := by
  exact World.cell?_setCell_same' _ _ _ (by show (w.cell? _).isSome = true; rw [h]; rfl)

/-- What stands in the row of slices, and in the row of one term. -/
theorem cat_cells (w : World) (x : Int) (V V1 V2 V3 : Value) (t1 t2 : TypeId) (hV : V.oneCell' = true) :
    (((w.alloc (.cells #[.int .i64 x, V] t1)).alloc (.cells #[V1, V2, V3] t2)).drew).cell? ⟨w.heap.size + 1, 0, none⟩ = some V1 ∧
    (((w.alloc (.cells #[.int .i64 x, V] t1)).alloc (.cells #[V1, V2, V3] t2)).drew).cell? ⟨w.heap.size + 1, 1, none⟩ = some V2 ∧
    (((w.alloc (.cells #[.int .i64 x, V] t1)).alloc (.cells #[V1, V2, V3] t2)).drew).cell? ⟨w.heap.size + 1, 2, none⟩ = some V3 ∧
    Rd (((w.alloc (.cells #[.int .i64 x, V] t1)).alloc (.cells #[V1, V2, V3] t2)).drew) (some ⟨w.heap.size, 0, none⟩) 1 1 [.int .i64 x, V] := by
  have h3 : ∀ i, (((w.alloc (.cells #[.int .i64 x, V] t1)).alloc (.cells #[V1, V2, V3] t2)).drew).cell? ⟨w.heap.size + 1, i, none⟩ = #[V1, V2, V3][i]? := fun i => by
    show ((w.alloc (.cells #[.int .i64 x, V] t1)).alloc (.cells #[V1, V2, V3] t2)).cell? _ = _
    exact Joins.cell_alloc_mark_at _ _ _ _ _ _ (by simp)
  have h2 : ∀ i, (((w.alloc (.cells #[.int .i64 x, V] t1)).alloc (.cells #[V1, V2, V3] t2)).drew).cell? ⟨w.heap.size, i, none⟩ = #[.int .i64 x, V][i]? := fun i => by
    show ((w.alloc (.cells #[.int .i64 x, V] t1)).alloc (.cells #[V1, V2, V3] t2)).cell? _ = _
    rw [World.cell?_alloc_past _ _ _ (by simp)]
    exact Joins.cell_alloc_mark_at _ _ _ _ _ _ rfl
  refine ⟨h3 0, h3 1, h3 2, rfl, ?_, .inr ⟨w.heap.size, 0, rfl, fun j u hj => ?_⟩⟩
  · intro u hu
    simp at hu
    rcases hu with rfl | rfl
    · rfl
    · exact hV
  · rw [Addr.add_lit, Nat.zero_add, h2 j]
    simpa using hj

/-- A slice of terms at the head of a block. -/
def Tz (w : World) (g n c : Nat) (t : T) (cs : List Value) : Prop :=
  n = t.cnt ∧ n ≤ c ∧ c ≤ maxLen ∧ TC w t cs ∧ g < w.heap.size ∧ ∀ j, j < 2 * n → w.cell? ⟨g, j, none⟩ = cs[j]?

theorem Tz.below {w w' : World} {g n c : Nat} {t : T} {cs : List Value} (h : Tz w g n c t cs) (hb : Below w.heap.size w w') : Tz w' g n c t cs := by
  obtain ⟨h1, h2, h3, h4, h5, h6⟩ := h
  exact ⟨h1, h2, h3, h4.below hb, Nat.lt_of_lt_of_le h5 hb.size, fun j hj => (hb.cell (p := ⟨g, j, none⟩) h5).trans (h6 j hj)⟩

theorem Tz.tm {w : World} {g n c : Nat} {t : T} {cs : List Value} (h : Tz w g n c t cs) : Tm w (some ⟨g, 0, none⟩) n t := by
  obtain ⟨h1, _, _, h4, h5, h6⟩ := h
  exact ⟨h1, cs, h4, fun _ => ⟨g, rfl, h5, h6⟩⟩

/-- The first ones of them, to be read. -/
theorem Tz.rd_front {w : World} {g n c : Nat} {d u : T} {cs : List Value} (h : Tz w g n c (d.app u) cs) : Rd w (some ⟨g, 0, none⟩) d.cnt c (cs.take (d.cnt * 2)) := by
  obtain ⟨h1, h2, h3, h4, h5, h6⟩ := h
  have hl := h4.length
  rw [T.app_cnt] at h1 hl
  refine ⟨by rw [List.length_take]; omega, fun u hu => h4.one u (List.mem_of_mem_take hu), .inr ⟨g, 0, rfl, fun j u hj => ?_⟩⟩
  have hjl : j < (cs.take (d.cnt * 2)).length := (List.getElem?_eq_some_iff.1 hj).1
  rw [List.length_take] at hjl
  rw [Addr.add_lit, Nat.zero_add, h6 j (by omega)]
  rw [List.getElem?_take_of_lt (by omega)] at hj
  exact hj

/-- All but the first one, to be read. -/
theorem Tz.rd_tail {w : World} {g n c : Nat} {m : Int} {e r : T} {cs : List Value} (h : Tz w g n c (.c m e r) cs) : Rd w (some (if c = 1 then (⟨g, 0, none⟩ : Addr) else ⟨g, 2, none⟩)) r.cnt (c - 1) (cs.drop 2) := by
  obtain ⟨h1, h2, h3, h4, h5, h6⟩ := h
  have hl := h4.length
  simp only [T.cnt] at h1 hl
  refine ⟨by rw [List.length_drop]; omega, fun u hu => h4.one u (List.mem_of_mem_drop hu), ?_⟩
  by_cases hc : c = 1
  · rw [if_pos hc]
    refine .inr ⟨g, 0, rfl, fun j u hj => ?_⟩
    have hjl : j < (cs.drop 2).length := (List.getElem?_eq_some_iff.1 hj).1
    rw [List.length_drop] at hjl
    omega
  · rw [if_neg hc]
    refine .inr ⟨g, 2, rfl, fun j u hj => ?_⟩
    have hjl : j < (cs.drop 2).length := (List.getElem?_eq_some_iff.1 hj).1
    rw [List.length_drop] at hjl
    rw [Addr.add_lit, h6 (2 + j) (by omega)]
    rw [List.getElem?_drop] at hj
    exact hj

def TmPost (w : World) (t : T) (e : Ending) (w' : World) : Prop :=
  ∃ a n c, e = .returned (.slice a n c) ∧ Tm w' a n t ∧ Below w.heap.size w w'

def AddLoop (wb : World) (s e : T) (gk : Nat) (v6 : Value) (wr : World) : Prop :=
  ∃ (k : Nat) (d u : T), v6 = .int .i64 k ∧ gk + k = s.cnt ∧ d.app u = s ∧ d.cnt = k ∧ T.takeGt e s = d.app (T.takeGt e u) ∧ T.dropGt e s = T.dropGt e u ∧ Below wb.heap.size wb wr

def AddAt (wb : World) (s e : T) (v6 : Value) (wr : World) : Prop :=
  ∃ (k : Nat) (d u : T), v6 = .int .i64 k ∧ k ≤ s.cnt ∧ d.app u = s ∧ d.cnt = k ∧ T.takeGt e s = d ∧ T.dropGt e s = u ∧ (∀ n f r, u = .c n f r → f.cmp e ≠ 1) ∧ Below wb.heap.size wb wr

def AddTest (wz : World) (m : Int) (e r u : T) (v : Value) (wx : World) : Prop :=
  ∃ bq : Bool, v = .bool bq ∧ (bq = true → ∃ n q, u = .c n e q) ∧ (bq = false → T.addTail m e r u = .c m e r) ∧ Below wz.heap.size wz wx

def AddBox (w : World) (s : T) (m : Int) (e r d : T) (be oe ce : Nat) (wx : World) : Prop :=
  ∃ x : Int, wx.cell? ⟨w.heap.size, 0, none⟩ = some (.int .i64 x) ∧ wx.cell? ⟨w.heap.size, 1, none⟩ = some (.slice (some ⟨be, oe, none⟩) e.enc.length ce) ∧ T.add s (.c m e r) = d.app (.c x e r) ∧
    Below w.heap.size w wx ∧ w.heap.size < wx.heap.size

set_option maxHeartbeats 4000000 in
theorem addedTerms_any (g1 n1 c1 g2 n2 c2 : Nat) (s t : T) (cs ds : List Value) (w : World) (h1 : Tz w g1 n1 c1 s cs) (h2 : Tz w g2 n2 c2 t ds) (hl1 : s.enc.length ≤ 1000) (hl2 : t.enc.length ≤ 1000)
    (htm : ∀ x ∈ s.times, -1000000 ≤ x ∧ x ≤ 1000000) (htm2 : ∀ x ∈ t.times, -1000000 ≤ x ∧ x ≤ 1000000) :
    Calls Try.prog 69 #[.slice (some ⟨g1, 0, none⟩) n1 c1, .slice (some ⟨g2, 0, none⟩) n2 c2] w (TmPost w (T.add s t)) := by
  have H1 := Lib.hid h1
  have H2 := Lib.hid h2
  have Htm := Lib.hid htm
  have Htm2 := Lib.hid htm2
  clear htm htm2
  have hn1 := h1.1
  have hn2 := h2.1
  have hcb1 := T.cnt_le s
  have hcb2 := T.cnt_le t
  have hel1 := T.enc_len s
  have hel2 := T.enc_len t
  have hb1 : n1 ≤ 1000 := by omega
  have hb2 : n2 ≤ 1000 := by omega
  clear hcb1 hcb2 hel1 hel2
  cases t with
  | z =>
    have hz : n2 = 0 := hn2
    subst hz
    clear h1 h2 hn1 hn2
    go_enter Try.func69, Try.ntmps69
    go_wp2_with fail
    go_ret
    exact ⟨_, n1, c1, rfl, H1.out.tm, Below.refl _ _⟩
  | c m e r =>
    obtain ⟨be, oe, ce, ds', hds, hate, hce, hcm, htr⟩ := h2.2.2.2.1
    have y0 : w.cell? ⟨g2, 0, none⟩ = some (.int .i64 m) := by rw [h2.2.2.2.2.2 0 (by simp [T.cnt] at hn2; omega), hds]; rfl
    have y1 : w.cell? ⟨g2, 1, none⟩ = some (.slice (some ⟨be, oe, none⟩) e.enc.length ce) := by rw [h2.2.2.2.2.2 1 (by simp [T.cnt] at hn2; omega), hds]; rfl
    have hp2 : 0 < n2 := by simp [T.cnt] at hn2; omega
    have hp2b : ((n2 : Int) == 0) = false := by simp; omega
    have Hate := Lib.hid hate
    have Hn1 := Lib.hid hn1
    have Hn2 := Lib.hid hn2
    have Hds := Lib.hid hds
    have hg1 : g1 < w.heap.size := h1.2.2.2.2.1
    have hg2 : g2 < w.heap.size := h2.2.2.2.2.1
    clear h1 h2 hn1 hn2 hate hds htr
    go_enter Try.func69, Try.ntmps69
    go_upto_block 0 with fail
    obtain ⟨wb, hwb⟩ : ∃ wb, wb = w.alloc (.cells #[.int .i64 m, .slice (some ⟨be, oe, none⟩) e.enc.length ce] 52) := ⟨_, rfl⟩
    rw [← hwb]
    have hBel : Below w.heap.size w wb := by rw [hwb]; exact (Below.refl _ _).alloc (Nat.le_refl _) _
    have hB1 : w.heap.size < wb.heap.size := by rw [hwb, World.size_alloc]; omega
    have hz0 : wb.cell? ⟨w.heap.size, 0, none⟩ = some (.int .i64 m) := by rw [hwb, Joins.cell_alloc_mark_at _ _ _ _ _ _ rfl]; rfl
    have hz1 : wb.cell? ⟨w.heap.size, 1, none⟩ = some (.slice (some ⟨be, oe, none⟩) e.enc.length ce) := by rw [hwb, Joins.cell_alloc_mark_at _ _ _ _ _ _ rfl]; rfl
    have hf0 : wb.frozen? ⟨w.heap.size, 0, none⟩ = false := by rw [hwb]; exact Joins.unfrozen_of_block (heap_alloc_new w _) 0
    have HBel := Lib.hid hBel
    have Hz0 := Lib.hid hz0
    have Hz1 := Lib.hid hz1
    have Hf0 := Lib.hid hf0
    clear hwb hBel hz0 hz1 hf0 y0 y1
    have hfl : ∀ (d : T) (n : Int) (f r : T), d.app (.c n f r) = s → f.enc.length ≤ 5000 := by
      intro d n f r h
      have h1 := congrArg (fun x => T.body x) h
      have h2 := congrArg List.length h1
      simp only [T.app_body, T.body_c, List.length_append, List.length_cons] at h2
      have := T.enc_len s
      omega
    have HFL := Lib.hid hfl
    have hel5 : e.enc.length ≤ 5000 := by
      have h1 := T.enc_len (T.c m e r)
      rw [T.body_c] at h1
      simp at h1
      omega
    clear hfl
    go_cut [6] (fun v6 wx => AddAt wb s e v6 wx)
    case first =>
      go_wp2_with fail
      go_loopg [6] (s.cnt) (fun gk v6 wr => AddLoop wb s e gk v6 wr)
      case atStart => exact ⟨0, .z, s, rfl, rfl, rfl, rfl, rfl, rfl, Below.refl _ _⟩
      case round =>
        obtain ⟨k, d, u, rfl, hgk, hdu, hdk, ht1, ht2, hbq⟩ := hrel
        have Hgk := Lib.hid hgk
        have HU := Lib.hid (show d.app u = s ∧ d.cnt = k ∧ T.takeGt e s = d.app (T.takeGt e u) ∧ T.dropGt e s = T.dropGt e u from ⟨hdu, hdk, ht1, ht2⟩)
        have hct : s.cnt = k + u.cnt := by rw [← hdu, T.app_cnt, hdk]
        have Hct := Lib.hid hct
        have hkn : k ≤ n1 := by have := Hn1.out; omega
        have Hbq := Lib.hid hbq
        have Hbw := Lib.hid (HBel.out.trans (hbq.mono HBel.out.size))
        clear hgk hdu hdk ht1 ht2 hct hbq
        by_cases hu : u = .z
        · have hkz : n1 ≤ k := by have h1 := Hct.out; rw [hu] at h1; simp [T.cnt] at h1; have := Hn1.out; omega
          have hkd : decide ((k : Int) < n1) = false := by simp; omega
          have hkd2 : decide (k < n1) = false := by simp; omega
          have Hu := Lib.hid hu
          have hfin : ∀ wx, Below wb.heap.size wb wx → AddAt wb s e (.int .i64 k) wx := fun wx hb => ⟨k, d, u, rfl, by have := Hct.out; omega, HU.out.1, HU.out.2.1, by rw [HU.out.2.2.1, hu, T.takeGt, T.app_z], by rw [HU.out.2.2.2, hu]; rfl, (fun n f r h => by rw [hu] at h; cases h), hb⟩
          have Hfin := Lib.hid hfin
          clear hu hfin
          go_wp2_with fail
          go_quiet (fail)
          go_wp2_with fail
          go_meet
          exact Hfin.out _ (Hbq.out.trans (Joins.below_draws _ _ _))
        · obtain ⟨n, f, q, hu2⟩ : ∃ n f q, u = .c n f q := by
            cases u with
            | z => exact absurd rfl hu
            | c n f q => exact ⟨n, f, q, rfl⟩
          have hlt : k < n1 := by have h1 := Hct.out; rw [hu2] at h1; simp [T.cnt] at h1; have := Hn1.out; omega
          have hd2 : d.app (.c n f q) = s := by rw [← hu2]; exact HU.out.1
          obtain ⟨bf, of, cf, p1, p2, p3, p4, p5⟩ := H1.out.2.2.2.1.pick hd2 HU.out.2.1
          have x2 : wr.cell? ⟨g1, k * 2 + 1, none⟩ = some (.slice (some ⟨bf, of, none⟩) f.enc.length cf) := (Hbw.out.cell (p := ⟨g1, k * 2 + 1, none⟩) hg1).trans (by rw [H1.out.2.2.2.2.2 _ (by omega), Nat.mul_comm]; exact p2)
          have z1 : wr.cell? ⟨w.heap.size, 1, none⟩ = some (.slice (some ⟨be, oe, none⟩) e.enc.length ce) := (Hbq.out.cell (p := ⟨w.heap.size, 1, none⟩) hB1).trans Hz1.out
          have hff := HFL.out d n f q hd2
          have kc := Lib.hid (compareOrds_any (f.body.length + 1) bf of cf be oe ce f.enc.length e.enc.length f e wr.drew (by omega) rfl rfl (by omega) (by omega) p4 p5 hce hcm (p3.below Hbw.out.drew (p3.lt (T.enc_ne f))) (Hate.out.below Hbw.out.drew (Hate.out.lt (T.enc_ne e))))
          have Hu2 := Lib.hid hu2
          obtain ⟨cv, hcv⟩ : ∃ cv, cv = f.cmp e := ⟨_, rfl⟩
          rw [← hcv] at kc
          have Hcv := Lib.hid hcv
          clear hu hu2 hd2 p1 p2 p3 p4 p5 hcv
          go_wp2_with fail
          go_still_tail 12, (by kernel_rfl)
          change wpList _ _ _ _ _ wr.drew
          go_wp2_with fail
          refine (kc.out).mono ?_
          rintro ee w3 ⟨rfl, hb3⟩
          have Hb3 := Lib.hid ((Hbq.out.drew).trans (hb3.mono (Hbq.out.drew).size))
          clear hb3 x2 z1
          by_cases hc1 : 0 < cv
          · have hc1' : f.cmp e = 1 := by have h1 := Hcv.out; rcases T.cmp_vals f e with h | h | h <;> omega
            have hst := T.take_step (e := e) n q hc1'
            have hfin : AddLoop wb s e (gk - 1) (.int .i64 ((k + 1 : Nat) : Int)) w3 :=
              ⟨k + 1, d.app (.c n f .z), q, rfl, by have := Hgk.out; have := Hn1.out; omega, by rw [T.app_assoc, ← HU.out.1, Hu2.out]; rfl, by rw [T.app_cnt, HU.out.2.1]; rfl,
                by rw [HU.out.2.2.1, Hu2.out, hst.1, T.app_assoc]; rfl, by rw [HU.out.2.2.2, Hu2.out, hst.2], Hb3.out⟩
            have Hfin := Lib.hid hfin
            clear hc1' hst hfin
            go_wp2_with fail
            go_roundg (gk - 1)
            case measure => have := Hgk.out; have := Hn1.out; omega
            case rel => exact Hfin.out
          · have hc1' : ¬ f.cmp e = 1 := by have h1 := Hcv.out; omega
            have hst := T.take_stop (e := e) n q hc1'
            have hfin : AddAt wb s e (.int .i64 k) w3 :=
              ⟨k, d, u, rfl, by have := Hn1.out; omega, HU.out.1, HU.out.2.1, by rw [HU.out.2.2.1, Hu2.out, hst.1, T.app_z], by rw [HU.out.2.2.2, Hu2.out, hst.2], (fun n' f' r' h => by rw [Hu2.out] at h; cases h; exact hc1'), Hb3.out⟩
            have Hfin := Lib.hid hfin
            clear hc1' hst hfin
            go_wp2_with fail
            go_meet
            exact Hfin.out
    case rest =>
      obtain ⟨k, d, u, rfl, hks, hdu, hdk, ht1, ht2, hfirst, hbz⟩ := hcut
      go_step
      obtain ⟨wz, rfl⟩ : ∃ wz : World, wz = wc := ⟨_, rfl⟩
      have HU := Lib.hid (show d.app u = s ∧ d.cnt = k ∧ T.takeGt e s = d ∧ T.dropGt e s = u from ⟨hdu, hdk, ht1, ht2⟩)
      have hct : s.cnt = k + u.cnt := by rw [← hdu, T.app_cnt, hdk]
      have Hct := Lib.hid hct
      have Hbz := Lib.hid hbz
      have Hbw := Lib.hid (HBel.out.trans (hbz.mono HBel.out.size))
      have hz1 := (hbz.cell (p := ⟨w.heap.size, 1, none⟩) hB1).trans Hz1.out
      have hz0 := (hbz.cell (p := ⟨w.heap.size, 0, none⟩) hB1).trans Hz0.out
      have hkn : k ≤ n1 := by have := Hn1.out; omega
      clear hdu hdk ht1 ht2 hct hbz hfirst
      go_upto_region 7 with fail
      go_cut [44] (fun v44 wx => AddTest wz m e r u v44 wx)
      case first =>
        by_cases hu : u = .z
        · have hkz : n1 ≤ k := by have h1 := Hct.out; rw [hu] at h1; simp [T.cnt] at h1; have := Hn1.out; omega
          have hkd : decide ((k : Int) < n1) = false := by simp; omega
          have hkd2 : decide (k < n1) = false := by simp; omega
          have hfin : ∀ wx, Below wz.heap.size wz wx → AddTest wz m e r u (.bool false) wx := fun wx hb => ⟨false, rfl, (fun h => by cases h), (fun _ => by rw [hu]; rfl), hb⟩
          have Hfin := Lib.hid hfin
          clear hu hfin
          go_wp2_with fail
          go_quiet (fail)
          go_wp2_with fail
          go_meet
          exact Hfin.out _ (Joins.below_draws _ _ _)
        · obtain ⟨n, f, q, hu2⟩ : ∃ n f q, u = .c n f q := by
            cases u with
            | z => exact absurd rfl hu
            | c n f q => exact ⟨n, f, q, rfl⟩
          have hlt : k < n1 := by have h1 := Hct.out; rw [hu2] at h1; simp [T.cnt] at h1; have := Hn1.out; omega
          have hd2 : d.app (.c n f q) = s := by rw [← hu2]; exact HU.out.1
          obtain ⟨bf, of, cf, p1, p2, p3, p4, p5⟩ := H1.out.2.2.2.1.pick hd2 HU.out.2.1
          have x2 : wz.cell? ⟨g1, k * 2 + 1, none⟩ = some (.slice (some ⟨bf, of, none⟩) f.enc.length cf) := (Hbw.out.cell (p := ⟨g1, k * 2 + 1, none⟩) hg1).trans (by rw [H1.out.2.2.2.2.2 _ (by omega), Nat.mul_comm]; exact p2)
          have hff := HFL.out d n f q hd2
          have ke := Lib.hid (slicesEqual_any (some ⟨bf, of, none⟩) (some ⟨be, oe, none⟩) f.enc.length cf e.enc.length ce f.enc e.enc wz.drew (by omega)
            ⟨rfl, p4, p5, fun _ => ⟨bf, of, rfl, p3.below Hbw.out.drew (p3.lt (T.enc_ne f))⟩⟩ ⟨rfl, hce, hcm, fun _ => ⟨be, oe, rfl, Hate.out.below Hbw.out.drew (Hate.out.lt (T.enc_ne e))⟩⟩)
          have hfin : ∀ wx, Below wz.heap.size wz wx → AddTest wz m e r u (.bool (eqB f.enc e.enc)) wx := fun wx hb => ⟨eqB f.enc e.enc, rfl,
            (fun h => ⟨n, q, by rw [hu2, T.enc_inj' (eqB_true.1 h)]⟩),
            (fun h => by
              rw [hu2, T.addTail, if_neg]
              intro h2
              have h3 := T.cmp_eq h2
              rw [h3, eqB_refl] at h
              cases h), hb⟩
          have Hfin := Lib.hid hfin
          clear hu hu2 hd2 p1 p2 p3 p4 p5 hfin
          go_wp2_with fail
          go_still_tail 12, (by kernel_rfl)
          change wpList _ _ _ _ _ wz.drew
          go_wp2_with fail
          refine (ke.out).mono ?_
          rintro ee w3 ⟨rfl, hb3⟩
          have Hb3 := Lib.hid (((Below.refl wz.heap.size wz).drew).trans hb3)
          clear hb3 x2
          go_wp2_with fail
          go_meet
          exact Hfin.out _ Hb3.out
      case rest =>
        obtain ⟨bq, rfl, hq1, hq2, hbt⟩ := hcut
        go_step
        obtain ⟨wt, rfl⟩ : ∃ wt : World, wt = wc := ⟨_, rfl⟩
        have Hq1 := Lib.hid hq1
        have Hq2 := Lib.hid hq2
        have Hbt := Lib.hid hbt
        have Hbwt := Lib.hid (Hbw.out.trans (hbt.mono Hbw.out.size))
        have hBz : w.heap.size < wz.heap.size := by have := Hbz.out.size; omega
        have yz1 := (hbt.cell (p := ⟨w.heap.size, 1, none⟩) hBz).trans hz1
        have yz0 := (hbt.cell (p := ⟨w.heap.size, 0, none⟩) hBz).trans hz0
        have yf0 : wt.frozen? ⟨w.heap.size, 0, none⟩ = false := (hbt.frozen (p := ⟨w.heap.size, 0, none⟩) hBz).trans ((Hbz.out.frozen (p := ⟨w.heap.size, 0, none⟩) hB1).trans Hf0.out)
        clear hq1 hq2 hbt hz0 hz1
        go_upto_if 44 with fail
        go_cut [] (fun wx => AddBox w s m e r d be oe ce wx)
        case first =>
          cases bq with
          | false =>
            have hfin : AddBox w s m e r d be oe ce wt := ⟨m, yz0, yz1, by rw [T.add, HU.out.2.2.1, HU.out.2.2.2, Hq2.out rfl], Hbwt.out, by have := Hbt.out.size; omega⟩
            have Hfin := Lib.hid hfin
            clear hfin
            go_wp2_with fail
            go_meet
            exact Hfin.out
          | true =>
            obtain ⟨n, q, hu2⟩ := Hq1.out rfl
            have hd2 : d.app (.c n e q) = s := by rw [← hu2]; exact HU.out.1
            obtain ⟨bf, of, cf, p1, p2, p3, p4, p5⟩ := H1.out.2.2.2.1.pick hd2 HU.out.2.1
            have hlt : k < n1 := by have h1 := Hct.out; rw [hu2] at h1; simp [T.cnt] at h1; have := Hn1.out; omega
            have x1 : wt.cell? ⟨g1, k * 2, none⟩ = some (.int .i64 n) := (Hbwt.out.cell (p := ⟨g1, k * 2, none⟩) hg1).trans (by rw [H1.out.2.2.2.2.2 _ (by omega), Nat.mul_comm]; exact p1)
            have hb1' := Htm.out n (by rw [← hd2, T.times_app]; simp [T.times])
            have hb2' := Htm2.out m (by simp [T.times])
            have hm1 := hb2'.1
            have hm2 := hb2'.2
            have hn1' := hb1'.1
            have hn2' := hb1'.2
            have q1 : IntKind.i64.wrap (m + n) = m + n := IntWalk.i64_in _ (by omega)
            have hfin : AddBox w s m e r d be oe ce (wt.drew.setCell ⟨w.heap.size, 0, none⟩ (.int .i64 (m + n))) := by
              refine ⟨m + n, ?_, ?_, ?_, Hbwt.out.drew.setCell (Nat.le_refl _) _, ?_⟩
              · exact set_same yz0 _
              · rw [World.cell?_setCell_other _ _ _ _ (by simp)]; exact yz1
              · rw [T.add, HU.out.2.2.1, HU.out.2.2.2, hu2, T.addTail, if_pos (T.cmp_refl e)]
              · have := Hbt.out.size
                have h2 : (wt.drew.setCell ⟨w.heap.size, 0, none⟩ (.int .i64 (m + n))).heap.size = wt.heap.size := by simp
                omega
            have Hfin := Lib.hid hfin
            clear hu2 hd2 p1 p2 p3 p4 p5 hfin hb1' hb2'
            go_wp2_with fail
            go_still_tail 9, (by kernel_rfl)
            change wpList _ _ _ _ _ wt.drew
            go_wp2_with fail
            go_meet
            exact Hfin.out
        case rest =>
          obtain ⟨x, hx0, hx1, hadd, hbx, hsx⟩ := hcut
          go_step
          obtain ⟨wq, rfl⟩ : ∃ wq : World, wq = wc := ⟨_, rfl⟩
          have Hadd := Lib.hid hadd
          have Hbx := Lib.hid hbx
          have hbs := hbx.size
          clear hadd hbx
          have hi1 : (0 : Int) ≤ (k : Int) := by omega
          have hi2 : (k : Int) ≤ (c1 : Int) := by have := H1.out.2.1; omega
          have hi3 : k ≤ c1 := by omega
          have hc2 : n2 ≤ c2 := H2.out.2.1
          have hi4 : (1 : Int) ≤ (n2 : Int) := by omega
          have hi5 : (n2 : Int) ≤ (c2 : Int) := by omega
          have hi6 : (1 : Int) ≤ (c2 : Int) := by omega
          have hrc : r.cnt = n2 - 1 := by have := Hn2.out; simp [T.cnt] at this; omega
          have Hrc := Lib.hid hrc
          clear hrc
          by_cases hc21 : c2 = 1
          · obtain rfl : 1 = c2 := hc21.symm
            obtain rfl : 1 = n2 := by omega
            have HBW := Lib.hid ((((Hbx.out.alloc hbs (.cells #[.int .i64 x, .slice (some ⟨be, oe, none⟩) e.enc.length ce] 52)).alloc (by simp; omega) (.cells #[.slice (some ⟨g1, 0, none⟩) k c1, .slice (some ⟨wq.heap.size, 0, none⟩) 1 1, .slice (some ⟨g2, 0, none⟩) (0) (0)] 48)).drew))
            have HBQ := Lib.hid ((((Below.refl wq.heap.size wq).alloc (Nat.le_refl _) (.cells #[.int .i64 x, .slice (some ⟨be, oe, none⟩) e.enc.length ce] 52)).alloc (by simp) (.cells #[.slice (some ⟨g1, 0, none⟩) k c1, .slice (some ⟨wq.heap.size, 0, none⟩) 1 1, .slice (some ⟨g2, 0, none⟩) (0) (0)] 48)).drew)
            have HC := Lib.hid (cat_cells wq x (.slice (some ⟨be, oe, none⟩) e.enc.length ce) (.slice (some ⟨g1, 0, none⟩) k c1) (.slice (some ⟨wq.heap.size, 0, none⟩) 1 1) (.slice (some ⟨g2, 0, none⟩) (0) (0)) 52 48 rfl)
            have HR1 := Lib.hid (Rd.below (l := cs.take (k * 2)) (n := k) (c := c1) (a := some ⟨g1, 0, none⟩) (by
              have h := H1.out
              rw [← HU.out.1] at h
              have h2 := h.rd_front
              rw [HU.out.2.1] at h2
              exact h2) HBW.out)
            have HR3 := Lib.hid (Rd.below (l := []) (n := 0) (c := 0) (a := some ⟨g2, 0, none⟩) (by
              exact ⟨rfl, (fun u hu => by cases hu), .inr ⟨g2, 0, rfl, fun j u hj => by simp at hj⟩⟩) HBW.out)
            go_wp2_with fail
            go_region_held3 (fun w' => w'.cell? ⟨w.heap.size, 0, none⟩ = some (.int .i64 x) ∧ w'.cell? ⟨w.heap.size, 1, none⟩ = some (.slice (some ⟨be, oe, none⟩) e.enc.length ce)) (first | go_keep | exact ⟨kS0, kS1⟩)
              ((first
                | (go_at_call 85; (refine (concat3_any (wq.heap.size + 1) 3 (some ⟨g1, 0, none⟩) (some ⟨wq.heap.size, 0, none⟩) (some ⟨g2, 0, none⟩) k c1 1 1 (0) (0) (cs.take (k * 2)) [.int .i64 x, .slice (some ⟨be, oe, none⟩) e.enc.length ce] ([]) _ HC.out.1 HC.out.2.1 HC.out.2.2.1 HR1.out HC.out.2.2.2 HR3.out (by omega) (by omega) (by omega)).mono ?_); rintro ee w5 ⟨a5, c5, rfl, ho5, hb5⟩; have kS0 := (hb5.cell (p := ⟨w.heap.size, 0, none⟩) (by simp; omega)).trans ((HBQ.out.cell (p := ⟨w.heap.size, 0, none⟩) hsx).trans hx0); have kS1 := (hb5.cell (p := ⟨w.heap.size, 1, none⟩) (by simp; omega)).trans ((HBQ.out.cell (p := ⟨w.heap.size, 1, none⟩) hsx).trans hx1))))
            have hfin : TmPost w (T.add s (.c m e r)) (.returned (.slice a5 (k + 1 + 0) c5)) w5 := by
              have hbt := HBW.out.trans (hb5.mono HBW.out.size)
              refine ⟨a5, _, c5, rfl, Tm.of_own ho5 ?_ ?_, hbt⟩
              · rw [Hadd.out]
                have hj := H1.out.2.2.2.1
                rw [← HU.out.1] at hj
                have hjf := hj.front
                rw [HU.out.2.1] at hjf
                have hy := H2.out.2.2.2.1
                obtain ⟨be', oe', ce', ds', hds, _, _, _, htr⟩ := hy
                rw [Nat.mul_comm k 2]
                have hone := hjf.join (u := .c x e r) (ds := .int .i64 x :: .slice (some ⟨be, oe, none⟩) e.enc.length ce :: ds') ⟨be, oe, ce, ds', rfl, Hate.out, hce, hcm, htr⟩
                have hl : cs.take (2 * k) ++ [.int .i64 x, .slice (some ⟨be, oe, none⟩) e.enc.length ce] ++ [] = cs.take (2 * k) ++ .int .i64 x :: .slice (some ⟨be, oe, none⟩) e.enc.length ce :: ds' := by
                  have h0 : ds'.length = 0 := by
                    have h1 := htr.length
                    have := Hrc.out
                    omega
                  rw [List.length_eq_zero_iff.1 h0]; simp
                rw [hl]
                exact hone.below hbt
              · rw [Hadd.out, T.app_cnt, HU.out.2.1]
                have := Hrc.out
                simp [T.cnt]
                omega
            have Hfin := Lib.hid hfin
            clear hfin ho5 hb5 kS0 kS1
            go_wp2_with fail
            go_ret
            exact Hfin.out
          · have hc2' : ¬ (c2 : Int) = 1 := by omega
            have HBW := Lib.hid ((((Hbx.out.alloc hbs (.cells #[.int .i64 x, .slice (some ⟨be, oe, none⟩) e.enc.length ce] 52)).alloc (by simp; omega) (.cells #[.slice (some ⟨g1, 0, none⟩) k c1, .slice (some ⟨wq.heap.size, 0, none⟩) 1 1, .slice (some ⟨g2, 2, none⟩) (n2 - 1) (c2 - 1)] 48)).drew))
            have HBQ := Lib.hid ((((Below.refl wq.heap.size wq).alloc (Nat.le_refl _) (.cells #[.int .i64 x, .slice (some ⟨be, oe, none⟩) e.enc.length ce] 52)).alloc (by simp) (.cells #[.slice (some ⟨g1, 0, none⟩) k c1, .slice (some ⟨wq.heap.size, 0, none⟩) 1 1, .slice (some ⟨g2, 2, none⟩) (n2 - 1) (c2 - 1)] 48)).drew)
            have HC := Lib.hid (cat_cells wq x (.slice (some ⟨be, oe, none⟩) e.enc.length ce) (.slice (some ⟨g1, 0, none⟩) k c1) (.slice (some ⟨wq.heap.size, 0, none⟩) 1 1) (.slice (some ⟨g2, 2, none⟩) (n2 - 1) (c2 - 1)) 52 48 rfl)
            have HR1 := Lib.hid (Rd.below (l := cs.take (k * 2)) (n := k) (c := c1) (a := some ⟨g1, 0, none⟩) (by
              have h := H1.out
              rw [← HU.out.1] at h
              have h2 := h.rd_front
              rw [HU.out.2.1] at h2
              exact h2) HBW.out)
            have HR3 := Lib.hid (Rd.below (l := ds.drop 2) (n := n2 - 1) (c := c2 - 1) (a := some ⟨g2, 2, none⟩) (by
              have h := H2.out.rd_tail; rw [if_neg hc21, Hrc.out] at h; exact h) HBW.out)
            go_wp2_with fail
            go_region_held3 (fun w' => w'.cell? ⟨w.heap.size, 0, none⟩ = some (.int .i64 x) ∧ w'.cell? ⟨w.heap.size, 1, none⟩ = some (.slice (some ⟨be, oe, none⟩) e.enc.length ce)) (first | go_keep | exact ⟨kS0, kS1⟩)
              ((first
                | (go_at_call 85; (refine (concat3_any (wq.heap.size + 1) 3 (some ⟨g1, 0, none⟩) (some ⟨wq.heap.size, 0, none⟩) (some ⟨g2, 2, none⟩) k c1 1 1 (n2 - 1) (c2 - 1) (cs.take (k * 2)) [.int .i64 x, .slice (some ⟨be, oe, none⟩) e.enc.length ce] (ds.drop 2) _ HC.out.1 HC.out.2.1 HC.out.2.2.1 HR1.out HC.out.2.2.2 HR3.out (by omega) (by omega) (by omega)).mono ?_); rintro ee w5 ⟨a5, c5, rfl, ho5, hb5⟩; have kS0 := (hb5.cell (p := ⟨w.heap.size, 0, none⟩) (by simp; omega)).trans ((HBQ.out.cell (p := ⟨w.heap.size, 0, none⟩) hsx).trans hx0); have kS1 := (hb5.cell (p := ⟨w.heap.size, 1, none⟩) (by simp; omega)).trans ((HBQ.out.cell (p := ⟨w.heap.size, 1, none⟩) hsx).trans hx1))))
            have hfin : TmPost w (T.add s (.c m e r)) (.returned (.slice a5 (k + 1 + (n2 - 1)) c5)) w5 := by
              have hbt := HBW.out.trans (hb5.mono HBW.out.size)
              refine ⟨a5, _, c5, rfl, Tm.of_own ho5 ?_ ?_, hbt⟩
              · rw [Hadd.out]
                have hj := H1.out.2.2.2.1
                rw [← HU.out.1] at hj
                have hjf := hj.front
                rw [HU.out.2.1] at hjf
                have hy := H2.out.2.2.2.1
                obtain ⟨be', oe', ce', ds', hds, _, _, _, htr⟩ := hy
                rw [Nat.mul_comm k 2]
                have hone := hjf.join (u := .c x e r) (ds := .int .i64 x :: .slice (some ⟨be, oe, none⟩) e.enc.length ce :: ds') ⟨be, oe, ce, ds', rfl, Hate.out, hce, hcm, htr⟩
                have hl : cs.take (2 * k) ++ [.int .i64 x, .slice (some ⟨be, oe, none⟩) e.enc.length ce] ++ ds.drop 2 = cs.take (2 * k) ++ .int .i64 x :: .slice (some ⟨be, oe, none⟩) e.enc.length ce :: ds' := by
                  rw [hds]; simp
                rw [hl]
                exact hone.below hbt
              · rw [Hadd.out, T.app_cnt, HU.out.2.1]
                have := Hrc.out
                simp [T.cnt]
                omega
            have Hfin := Lib.hid hfin
            clear hfin ho5 hb5 kS0 kS1
            go_wp2_with fail
            go_ret
            exact Hfin.out

end Go.Proofs.Ytgkcpmhgmhioiaa

/- BagI -/
/- The program's sums, of which the answer is added to again. -/
namespace Go.Proofs.Ytgkcpmhgmhioiaa
set_option maxRecDepth 100000
open Go.RowKit

theorem Tz.of_own' {w : World} {B g n c : Nat} {t : T} {cs : List Value} (h : w.ownsRow B 52 2 (.slice (some ⟨g, 0, none⟩) n c) n cs) (hT : TC w t cs) (hn : n = t.cnt) : Tz w g n c t cs := by
  refine ⟨hn, ?_, ?_, hT, (h.lt g rfl).2, fun j hj => h.cellAt j (by omega)⟩
  · rcases h.2 with ⟨h1, _⟩ | ⟨_, _, _, h0, _, _, h3, _⟩
    · cases h1
    · cases h0; exact h3
  · rcases h.2 with ⟨h1, _⟩ | ⟨_, _, _, h0, _, _, _, h4, _⟩
    · cases h1
    · cases h0; exact h4

def TzPost (w : World) (t : T) (e : Ending) (w' : World) : Prop :=
  ∃ (g n c : Nat) (cs : List Value), e = .returned (.slice (some ⟨g, 0, none⟩) n c) ∧ Tz w' g n c t cs ∧ Below w.heap.size w w'

set_option maxHeartbeats 4000000 in
theorem addedTermsC_any (g1 n1 c1 g2 n2 c2 : Nat) (s t : T) (cs ds : List Value) (w : World) (h1 : Tz w g1 n1 c1 s cs) (h2 : Tz w g2 n2 c2 t ds) (hl1 : s.enc.length ≤ 1000) (hl2 : t.enc.length ≤ 1000)
    (htm : ∀ x ∈ s.times, -1000000 ≤ x ∧ x ≤ 1000000) (htm2 : ∀ x ∈ t.times, -1000000 ≤ x ∧ x ≤ 1000000) :
    Calls Try.prog 69 #[.slice (some ⟨g1, 0, none⟩) n1 c1, .slice (some ⟨g2, 0, none⟩) n2 c2] w (TzPost w (T.add s t)) := by
  have H1 := Lib.hid h1
  have H2 := Lib.hid h2
  have Htm := Lib.hid htm
  have Htm2 := Lib.hid htm2
  clear htm htm2
  have hn1 := h1.1
  have hn2 := h2.1
  have hcb1 := T.cnt_le s
  have hcb2 := T.cnt_le t
  have hel1 := T.enc_len s
  have hel2 := T.enc_len t
  have hb1 : n1 ≤ 1000 := by omega
  have hb2 : n2 ≤ 1000 := by omega
  clear hcb1 hcb2 hel1 hel2
  cases t with
  | z =>
    have hz : n2 = 0 := hn2
    subst hz
    clear h1 h2 hn1 hn2
    go_enter Try.func69, Try.ntmps69
    go_wp2_with fail
    go_ret
    exact ⟨g1, n1, c1, cs, rfl, H1.out, Below.refl _ _⟩
  | c m e r =>
    obtain ⟨be, oe, ce, ds', hds, hate, hce, hcm, htr⟩ := h2.2.2.2.1
    have y0 : w.cell? ⟨g2, 0, none⟩ = some (.int .i64 m) := by rw [h2.2.2.2.2.2 0 (by simp [T.cnt] at hn2; omega), hds]; rfl
    have y1 : w.cell? ⟨g2, 1, none⟩ = some (.slice (some ⟨be, oe, none⟩) e.enc.length ce) := by rw [h2.2.2.2.2.2 1 (by simp [T.cnt] at hn2; omega), hds]; rfl
    have hp2 : 0 < n2 := by simp [T.cnt] at hn2; omega
    have hp2b : ((n2 : Int) == 0) = false := by simp; omega
    have Hate := Lib.hid hate
    have Hn1 := Lib.hid hn1
    have Hn2 := Lib.hid hn2
    have Hds := Lib.hid hds
    have hg1 : g1 < w.heap.size := h1.2.2.2.2.1
    have hg2 : g2 < w.heap.size := h2.2.2.2.2.1
    clear h1 h2 hn1 hn2 hate hds htr
    go_enter Try.func69, Try.ntmps69
    go_upto_block 0 with fail
    obtain ⟨wb, hwb⟩ : ∃ wb, wb = w.alloc (.cells #[.int .i64 m, .slice (some ⟨be, oe, none⟩) e.enc.length ce] 52) := ⟨_, rfl⟩
    rw [← hwb]
    have hBel : Below w.heap.size w wb := by rw [hwb]; exact (Below.refl _ _).alloc (Nat.le_refl _) _
    have hB1 : w.heap.size < wb.heap.size := by rw [hwb, World.size_alloc]; omega
    have hz0 : wb.cell? ⟨w.heap.size, 0, none⟩ = some (.int .i64 m) := by rw [hwb, Joins.cell_alloc_mark_at _ _ _ _ _ _ rfl]; rfl
    have hz1 : wb.cell? ⟨w.heap.size, 1, none⟩ = some (.slice (some ⟨be, oe, none⟩) e.enc.length ce) := by rw [hwb, Joins.cell_alloc_mark_at _ _ _ _ _ _ rfl]; rfl
    have hf0 : wb.frozen? ⟨w.heap.size, 0, none⟩ = false := by rw [hwb]; exact Joins.unfrozen_of_block (heap_alloc_new w _) 0
    have HBel := Lib.hid hBel
    have Hz0 := Lib.hid hz0
    have Hz1 := Lib.hid hz1
    have Hf0 := Lib.hid hf0
    clear hwb hBel hz0 hz1 hf0 y0 y1
    have hfl : ∀ (d : T) (n : Int) (f r : T), d.app (.c n f r) = s → f.enc.length ≤ 5000 := by
      intro d n f r h
      have h1 := congrArg (fun x => T.body x) h
      have h2 := congrArg List.length h1
      simp only [T.app_body, T.body_c, List.length_append, List.length_cons] at h2
      have := T.enc_len s
      omega
    have HFL := Lib.hid hfl
    have hel5 : e.enc.length ≤ 5000 := by
      have h1 := T.enc_len (T.c m e r)
      rw [T.body_c] at h1
      simp at h1
      omega
    clear hfl
    go_cut [6] (fun v6 wx => AddAt wb s e v6 wx)
    case first =>
      go_wp2_with fail
      go_loopg [6] (s.cnt) (fun gk v6 wr => AddLoop wb s e gk v6 wr)
      case atStart => exact ⟨0, .z, s, rfl, rfl, rfl, rfl, rfl, rfl, Below.refl _ _⟩
      case round =>
        obtain ⟨k, d, u, rfl, hgk, hdu, hdk, ht1, ht2, hbq⟩ := hrel
        have Hgk := Lib.hid hgk
        have HU := Lib.hid (show d.app u = s ∧ d.cnt = k ∧ T.takeGt e s = d.app (T.takeGt e u) ∧ T.dropGt e s = T.dropGt e u from ⟨hdu, hdk, ht1, ht2⟩)
        have hct : s.cnt = k + u.cnt := by rw [← hdu, T.app_cnt, hdk]
        have Hct := Lib.hid hct
        have hkn : k ≤ n1 := by have := Hn1.out; omega
        have Hbq := Lib.hid hbq
        have Hbw := Lib.hid (HBel.out.trans (hbq.mono HBel.out.size))
        clear hgk hdu hdk ht1 ht2 hct hbq
        by_cases hu : u = .z
        · have hkz : n1 ≤ k := by have h1 := Hct.out; rw [hu] at h1; simp [T.cnt] at h1; have := Hn1.out; omega
          have hkd : decide ((k : Int) < n1) = false := by simp; omega
          have hkd2 : decide (k < n1) = false := by simp; omega
          have Hu := Lib.hid hu
          have hfin : ∀ wx, Below wb.heap.size wb wx → AddAt wb s e (.int .i64 k) wx := fun wx hb => ⟨k, d, u, rfl, by have := Hct.out; omega, HU.out.1, HU.out.2.1, by rw [HU.out.2.2.1, hu, T.takeGt, T.app_z], by rw [HU.out.2.2.2, hu]; rfl, (fun n f r h => by rw [hu] at h; cases h), hb⟩
          have Hfin := Lib.hid hfin
          clear hu hfin
          go_wp2_with fail
          go_quiet (fail)
          go_wp2_with fail
          go_meet
          exact Hfin.out _ (Hbq.out.trans (Joins.below_draws _ _ _))
        · obtain ⟨n, f, q, hu2⟩ : ∃ n f q, u = .c n f q := by
            cases u with
            | z => exact absurd rfl hu
            | c n f q => exact ⟨n, f, q, rfl⟩
          have hlt : k < n1 := by have h1 := Hct.out; rw [hu2] at h1; simp [T.cnt] at h1; have := Hn1.out; omega
          have hd2 : d.app (.c n f q) = s := by rw [← hu2]; exact HU.out.1
          obtain ⟨bf, of, cf, p1, p2, p3, p4, p5⟩ := H1.out.2.2.2.1.pick hd2 HU.out.2.1
          have x2 : wr.cell? ⟨g1, k * 2 + 1, none⟩ = some (.slice (some ⟨bf, of, none⟩) f.enc.length cf) := (Hbw.out.cell (p := ⟨g1, k * 2 + 1, none⟩) hg1).trans (by rw [H1.out.2.2.2.2.2 _ (by omega), Nat.mul_comm]; exact p2)
          have z1 : wr.cell? ⟨w.heap.size, 1, none⟩ = some (.slice (some ⟨be, oe, none⟩) e.enc.length ce) := (Hbq.out.cell (p := ⟨w.heap.size, 1, none⟩) hB1).trans Hz1.out
          have hff := HFL.out d n f q hd2
          have kc := Lib.hid (compareOrds_any (f.body.length + 1) bf of cf be oe ce f.enc.length e.enc.length f e wr.drew (by omega) rfl rfl (by omega) (by omega) p4 p5 hce hcm (p3.below Hbw.out.drew (p3.lt (T.enc_ne f))) (Hate.out.below Hbw.out.drew (Hate.out.lt (T.enc_ne e))))
          have Hu2 := Lib.hid hu2
          obtain ⟨cv, hcv⟩ : ∃ cv, cv = f.cmp e := ⟨_, rfl⟩
          rw [← hcv] at kc
          have Hcv := Lib.hid hcv
          clear hu hu2 hd2 p1 p2 p3 p4 p5 hcv
          go_wp2_with fail
          go_still_tail 12, (by kernel_rfl)
          change wpList _ _ _ _ _ wr.drew
          go_wp2_with fail
          refine (kc.out).mono ?_
          rintro ee w3 ⟨rfl, hb3⟩
          have Hb3 := Lib.hid ((Hbq.out.drew).trans (hb3.mono (Hbq.out.drew).size))
          clear hb3 x2 z1
          by_cases hc1 : 0 < cv
          · have hc1' : f.cmp e = 1 := by have h1 := Hcv.out; rcases T.cmp_vals f e with h | h | h <;> omega
            have hst := T.take_step (e := e) n q hc1'
            have hfin : AddLoop wb s e (gk - 1) (.int .i64 ((k + 1 : Nat) : Int)) w3 :=
              ⟨k + 1, d.app (.c n f .z), q, rfl, by have := Hgk.out; have := Hn1.out; omega, by rw [T.app_assoc, ← HU.out.1, Hu2.out]; rfl, by rw [T.app_cnt, HU.out.2.1]; rfl,
                by rw [HU.out.2.2.1, Hu2.out, hst.1, T.app_assoc]; rfl, by rw [HU.out.2.2.2, Hu2.out, hst.2], Hb3.out⟩
            have Hfin := Lib.hid hfin
            clear hc1' hst hfin
            go_wp2_with fail
            go_roundg (gk - 1)
            case measure => have := Hgk.out; have := Hn1.out; omega
            case rel => exact Hfin.out
          · have hc1' : ¬ f.cmp e = 1 := by have h1 := Hcv.out; omega
            have hst := T.take_stop (e := e) n q hc1'
            have hfin : AddAt wb s e (.int .i64 k) w3 :=
              ⟨k, d, u, rfl, by have := Hn1.out; omega, HU.out.1, HU.out.2.1, by rw [HU.out.2.2.1, Hu2.out, hst.1, T.app_z], by rw [HU.out.2.2.2, Hu2.out, hst.2], (fun n' f' r' h => by rw [Hu2.out] at h; cases h; exact hc1'), Hb3.out⟩
            have Hfin := Lib.hid hfin
            clear hc1' hst hfin
            go_wp2_with fail
            go_meet
            exact Hfin.out
    case rest =>
      obtain ⟨k, d, u, rfl, hks, hdu, hdk, ht1, ht2, hfirst, hbz⟩ := hcut
      go_step
      obtain ⟨wz, rfl⟩ : ∃ wz : World, wz = wc := ⟨_, rfl⟩
      have HU := Lib.hid (show d.app u = s ∧ d.cnt = k ∧ T.takeGt e s = d ∧ T.dropGt e s = u from ⟨hdu, hdk, ht1, ht2⟩)
      have hct : s.cnt = k + u.cnt := by rw [← hdu, T.app_cnt, hdk]
      have Hct := Lib.hid hct
      have Hbz := Lib.hid hbz
      have Hbw := Lib.hid (HBel.out.trans (hbz.mono HBel.out.size))
      have hz1 := (hbz.cell (p := ⟨w.heap.size, 1, none⟩) hB1).trans Hz1.out
      have hz0 := (hbz.cell (p := ⟨w.heap.size, 0, none⟩) hB1).trans Hz0.out
      have hkn : k ≤ n1 := by have := Hn1.out; omega
      clear hdu hdk ht1 ht2 hct hbz hfirst
      go_upto_region 7 with fail
      go_cut [44] (fun v44 wx => AddTest wz m e r u v44 wx)
      case first =>
        by_cases hu : u = .z
        · have hkz : n1 ≤ k := by have h1 := Hct.out; rw [hu] at h1; simp [T.cnt] at h1; have := Hn1.out; omega
          have hkd : decide ((k : Int) < n1) = false := by simp; omega
          have hkd2 : decide (k < n1) = false := by simp; omega
          have hfin : ∀ wx, Below wz.heap.size wz wx → AddTest wz m e r u (.bool false) wx := fun wx hb => ⟨false, rfl, (fun h => by cases h), (fun _ => by rw [hu]; rfl), hb⟩
          have Hfin := Lib.hid hfin
          clear hu hfin
          go_wp2_with fail
          go_quiet (fail)
          go_wp2_with fail
          go_meet
          exact Hfin.out _ (Joins.below_draws _ _ _)
        · obtain ⟨n, f, q, hu2⟩ : ∃ n f q, u = .c n f q := by
            cases u with
            | z => exact absurd rfl hu
            | c n f q => exact ⟨n, f, q, rfl⟩
          have hlt : k < n1 := by have h1 := Hct.out; rw [hu2] at h1; simp [T.cnt] at h1; have := Hn1.out; omega
          have hd2 : d.app (.c n f q) = s := by rw [← hu2]; exact HU.out.1
          obtain ⟨bf, of, cf, p1, p2, p3, p4, p5⟩ := H1.out.2.2.2.1.pick hd2 HU.out.2.1
          have x2 : wz.cell? ⟨g1, k * 2 + 1, none⟩ = some (.slice (some ⟨bf, of, none⟩) f.enc.length cf) := (Hbw.out.cell (p := ⟨g1, k * 2 + 1, none⟩) hg1).trans (by rw [H1.out.2.2.2.2.2 _ (by omega), Nat.mul_comm]; exact p2)
          have hff := HFL.out d n f q hd2
          have ke := Lib.hid (slicesEqual_any (some ⟨bf, of, none⟩) (some ⟨be, oe, none⟩) f.enc.length cf e.enc.length ce f.enc e.enc wz.drew (by omega)
            ⟨rfl, p4, p5, fun _ => ⟨bf, of, rfl, p3.below Hbw.out.drew (p3.lt (T.enc_ne f))⟩⟩ ⟨rfl, hce, hcm, fun _ => ⟨be, oe, rfl, Hate.out.below Hbw.out.drew (Hate.out.lt (T.enc_ne e))⟩⟩)
          have hfin : ∀ wx, Below wz.heap.size wz wx → AddTest wz m e r u (.bool (eqB f.enc e.enc)) wx := fun wx hb => ⟨eqB f.enc e.enc, rfl,
            (fun h => ⟨n, q, by rw [hu2, T.enc_inj' (eqB_true.1 h)]⟩),
            (fun h => by
              rw [hu2, T.addTail, if_neg]
              intro h2
              have h3 := T.cmp_eq h2
              rw [h3, eqB_refl] at h
              cases h), hb⟩
          have Hfin := Lib.hid hfin
          clear hu hu2 hd2 p1 p2 p3 p4 p5 hfin
          go_wp2_with fail
          go_still_tail 12, (by kernel_rfl)
          change wpList _ _ _ _ _ wz.drew
          go_wp2_with fail
          refine (ke.out).mono ?_
          rintro ee w3 ⟨rfl, hb3⟩
          have Hb3 := Lib.hid (((Below.refl wz.heap.size wz).drew).trans hb3)
          clear hb3 x2
          go_wp2_with fail
          go_meet
          exact Hfin.out _ Hb3.out
      case rest =>
        obtain ⟨bq, rfl, hq1, hq2, hbt⟩ := hcut
        go_step
        obtain ⟨wt, rfl⟩ : ∃ wt : World, wt = wc := ⟨_, rfl⟩
        have Hq1 := Lib.hid hq1
        have Hq2 := Lib.hid hq2
        have Hbt := Lib.hid hbt
        have Hbwt := Lib.hid (Hbw.out.trans (hbt.mono Hbw.out.size))
        have hBz : w.heap.size < wz.heap.size := by have := Hbz.out.size; omega
        have yz1 := (hbt.cell (p := ⟨w.heap.size, 1, none⟩) hBz).trans hz1
        have yz0 := (hbt.cell (p := ⟨w.heap.size, 0, none⟩) hBz).trans hz0
        have yf0 : wt.frozen? ⟨w.heap.size, 0, none⟩ = false := (hbt.frozen (p := ⟨w.heap.size, 0, none⟩) hBz).trans ((Hbz.out.frozen (p := ⟨w.heap.size, 0, none⟩) hB1).trans Hf0.out)
        clear hq1 hq2 hbt hz0 hz1
        go_upto_if 44 with fail
        go_cut [] (fun wx => AddBox w s m e r d be oe ce wx)
        case first =>
          cases bq with
          | false =>
            have hfin : AddBox w s m e r d be oe ce wt := ⟨m, yz0, yz1, by rw [T.add, HU.out.2.2.1, HU.out.2.2.2, Hq2.out rfl], Hbwt.out, by have := Hbt.out.size; omega⟩
            have Hfin := Lib.hid hfin
            clear hfin
            go_wp2_with fail
            go_meet
            exact Hfin.out
          | true =>
            obtain ⟨n, q, hu2⟩ := Hq1.out rfl
            have hd2 : d.app (.c n e q) = s := by rw [← hu2]; exact HU.out.1
            obtain ⟨bf, of, cf, p1, p2, p3, p4, p5⟩ := H1.out.2.2.2.1.pick hd2 HU.out.2.1
            have hlt : k < n1 := by have h1 := Hct.out; rw [hu2] at h1; simp [T.cnt] at h1; have := Hn1.out; omega
            have x1 : wt.cell? ⟨g1, k * 2, none⟩ = some (.int .i64 n) := (Hbwt.out.cell (p := ⟨g1, k * 2, none⟩) hg1).trans (by rw [H1.out.2.2.2.2.2 _ (by omega), Nat.mul_comm]; exact p1)
            have hb1' := Htm.out n (by rw [← hd2, T.times_app]; simp [T.times])
            have hb2' := Htm2.out m (by simp [T.times])
            have hm1 := hb2'.1
            have hm2 := hb2'.2
            have hn1' := hb1'.1
            have hn2' := hb1'.2
            have q1 : IntKind.i64.wrap (m + n) = m + n := IntWalk.i64_in _ (by omega)
            have hfin : AddBox w s m e r d be oe ce (wt.drew.setCell ⟨w.heap.size, 0, none⟩ (.int .i64 (m + n))) := by
              refine ⟨m + n, ?_, ?_, ?_, Hbwt.out.drew.setCell (Nat.le_refl _) _, ?_⟩
              · exact set_same yz0 _
              · rw [World.cell?_setCell_other _ _ _ _ (by simp)]; exact yz1
              · rw [T.add, HU.out.2.2.1, HU.out.2.2.2, hu2, T.addTail, if_pos (T.cmp_refl e)]
              · have := Hbt.out.size
                have h2 : (wt.drew.setCell ⟨w.heap.size, 0, none⟩ (.int .i64 (m + n))).heap.size = wt.heap.size := by simp
                omega
            have Hfin := Lib.hid hfin
            clear hu2 hd2 p1 p2 p3 p4 p5 hfin hb1' hb2'
            go_wp2_with fail
            go_still_tail 9, (by kernel_rfl)
            change wpList _ _ _ _ _ wt.drew
            go_wp2_with fail
            go_meet
            exact Hfin.out
        case rest =>
          obtain ⟨x, hx0, hx1, hadd, hbx, hsx⟩ := hcut
          go_step
          obtain ⟨wq, rfl⟩ : ∃ wq : World, wq = wc := ⟨_, rfl⟩
          have Hadd := Lib.hid hadd
          have Hbx := Lib.hid hbx
          have hbs := hbx.size
          clear hadd hbx
          have hi1 : (0 : Int) ≤ (k : Int) := by omega
          have hi2 : (k : Int) ≤ (c1 : Int) := by have := H1.out.2.1; omega
          have hi3 : k ≤ c1 := by omega
          have hc2 : n2 ≤ c2 := H2.out.2.1
          have hi4 : (1 : Int) ≤ (n2 : Int) := by omega
          have hi5 : (n2 : Int) ≤ (c2 : Int) := by omega
          have hi6 : (1 : Int) ≤ (c2 : Int) := by omega
          have hrc : r.cnt = n2 - 1 := by have := Hn2.out; simp [T.cnt] at this; omega
          have Hrc := Lib.hid hrc
          clear hrc
          by_cases hc21 : c2 = 1
          · obtain rfl : 1 = c2 := hc21.symm
            obtain rfl : 1 = n2 := by omega
            have HBW := Lib.hid ((((Hbx.out.alloc hbs (.cells #[.int .i64 x, .slice (some ⟨be, oe, none⟩) e.enc.length ce] 52)).alloc (by simp; omega) (.cells #[.slice (some ⟨g1, 0, none⟩) k c1, .slice (some ⟨wq.heap.size, 0, none⟩) 1 1, .slice (some ⟨g2, 0, none⟩) (0) (0)] 48)).drew))
            have HBQ := Lib.hid ((((Below.refl wq.heap.size wq).alloc (Nat.le_refl _) (.cells #[.int .i64 x, .slice (some ⟨be, oe, none⟩) e.enc.length ce] 52)).alloc (by simp) (.cells #[.slice (some ⟨g1, 0, none⟩) k c1, .slice (some ⟨wq.heap.size, 0, none⟩) 1 1, .slice (some ⟨g2, 0, none⟩) (0) (0)] 48)).drew)
            have HC := Lib.hid (cat_cells wq x (.slice (some ⟨be, oe, none⟩) e.enc.length ce) (.slice (some ⟨g1, 0, none⟩) k c1) (.slice (some ⟨wq.heap.size, 0, none⟩) 1 1) (.slice (some ⟨g2, 0, none⟩) (0) (0)) 52 48 rfl)
            have HR1 := Lib.hid (Rd.below (l := cs.take (k * 2)) (n := k) (c := c1) (a := some ⟨g1, 0, none⟩) (by
              have h := H1.out
              rw [← HU.out.1] at h
              have h2 := h.rd_front
              rw [HU.out.2.1] at h2
              exact h2) HBW.out)
            have HR3 := Lib.hid (Rd.below (l := []) (n := 0) (c := 0) (a := some ⟨g2, 0, none⟩) (by
              exact ⟨rfl, (fun u hu => by cases hu), .inr ⟨g2, 0, rfl, fun j u hj => by simp at hj⟩⟩) HBW.out)
            go_wp2_with fail
            go_region_held3 (fun w' => w'.cell? ⟨w.heap.size, 0, none⟩ = some (.int .i64 x) ∧ w'.cell? ⟨w.heap.size, 1, none⟩ = some (.slice (some ⟨be, oe, none⟩) e.enc.length ce)) (first | go_keep | exact ⟨kS0, kS1⟩)
              ((first
                | (go_at_call 85; (refine (concat3_any (wq.heap.size + 1) 3 (some ⟨g1, 0, none⟩) (some ⟨wq.heap.size, 0, none⟩) (some ⟨g2, 0, none⟩) k c1 1 1 (0) (0) (cs.take (k * 2)) [.int .i64 x, .slice (some ⟨be, oe, none⟩) e.enc.length ce] ([]) _ HC.out.1 HC.out.2.1 HC.out.2.2.1 HR1.out HC.out.2.2.2 HR3.out (by omega) (by omega) (by omega)).mono ?_); rintro ee w5 ⟨a5, c5, rfl, ho5, hb5⟩; have kS0 := (hb5.cell (p := ⟨w.heap.size, 0, none⟩) (by simp; omega)).trans ((HBQ.out.cell (p := ⟨w.heap.size, 0, none⟩) hsx).trans hx0); have kS1 := (hb5.cell (p := ⟨w.heap.size, 1, none⟩) (by simp; omega)).trans ((HBQ.out.cell (p := ⟨w.heap.size, 1, none⟩) hsx).trans hx1))))
            have hfin : TzPost w (T.add s (.c m e r)) (.returned (.slice a5 (k + 1 + 0) c5)) w5 := by
              have hbt := HBW.out.trans (hb5.mono HBW.out.size)
              obtain ⟨g5, c5', hform⟩ := Joins.ownsRow_form ho5 (by omega)
              simp at hform
              obtain ⟨rfl, rfl⟩ := hform
              refine ⟨g5, _, c5, _, rfl, Tz.of_own' ho5 ?_ ?_, hbt⟩
              · rw [Hadd.out]
                have hj := H1.out.2.2.2.1
                rw [← HU.out.1] at hj
                have hjf := hj.front
                rw [HU.out.2.1] at hjf
                have hy := H2.out.2.2.2.1
                obtain ⟨be', oe', ce', ds', hds, _, _, _, htr⟩ := hy
                rw [Nat.mul_comm k 2]
                have hone := hjf.join (u := .c x e r) (ds := .int .i64 x :: .slice (some ⟨be, oe, none⟩) e.enc.length ce :: ds') ⟨be, oe, ce, ds', rfl, Hate.out, hce, hcm, htr⟩
                have hl : cs.take (2 * k) ++ [.int .i64 x, .slice (some ⟨be, oe, none⟩) e.enc.length ce] ++ [] = cs.take (2 * k) ++ .int .i64 x :: .slice (some ⟨be, oe, none⟩) e.enc.length ce :: ds' := by
                  have h0 : ds'.length = 0 := by
                    have h1 := htr.length
                    have := Hrc.out
                    omega
                  rw [List.length_eq_zero_iff.1 h0]; simp
                rw [hl]
                exact hone.below hbt
              · rw [Hadd.out, T.app_cnt, HU.out.2.1]
                have := Hrc.out
                simp [T.cnt]
                omega
            have Hfin := Lib.hid hfin
            clear hfin ho5 hb5 kS0 kS1
            go_wp2_with fail
            go_ret
            exact Hfin.out
          · have hc2' : ¬ (c2 : Int) = 1 := by omega
            have HBW := Lib.hid ((((Hbx.out.alloc hbs (.cells #[.int .i64 x, .slice (some ⟨be, oe, none⟩) e.enc.length ce] 52)).alloc (by simp; omega) (.cells #[.slice (some ⟨g1, 0, none⟩) k c1, .slice (some ⟨wq.heap.size, 0, none⟩) 1 1, .slice (some ⟨g2, 2, none⟩) (n2 - 1) (c2 - 1)] 48)).drew))
            have HBQ := Lib.hid ((((Below.refl wq.heap.size wq).alloc (Nat.le_refl _) (.cells #[.int .i64 x, .slice (some ⟨be, oe, none⟩) e.enc.length ce] 52)).alloc (by simp) (.cells #[.slice (some ⟨g1, 0, none⟩) k c1, .slice (some ⟨wq.heap.size, 0, none⟩) 1 1, .slice (some ⟨g2, 2, none⟩) (n2 - 1) (c2 - 1)] 48)).drew)
            have HC := Lib.hid (cat_cells wq x (.slice (some ⟨be, oe, none⟩) e.enc.length ce) (.slice (some ⟨g1, 0, none⟩) k c1) (.slice (some ⟨wq.heap.size, 0, none⟩) 1 1) (.slice (some ⟨g2, 2, none⟩) (n2 - 1) (c2 - 1)) 52 48 rfl)
            have HR1 := Lib.hid (Rd.below (l := cs.take (k * 2)) (n := k) (c := c1) (a := some ⟨g1, 0, none⟩) (by
              have h := H1.out
              rw [← HU.out.1] at h
              have h2 := h.rd_front
              rw [HU.out.2.1] at h2
              exact h2) HBW.out)
            have HR3 := Lib.hid (Rd.below (l := ds.drop 2) (n := n2 - 1) (c := c2 - 1) (a := some ⟨g2, 2, none⟩) (by
              have h := H2.out.rd_tail; rw [if_neg hc21, Hrc.out] at h; exact h) HBW.out)
            go_wp2_with fail
            go_region_held3 (fun w' => w'.cell? ⟨w.heap.size, 0, none⟩ = some (.int .i64 x) ∧ w'.cell? ⟨w.heap.size, 1, none⟩ = some (.slice (some ⟨be, oe, none⟩) e.enc.length ce)) (first | go_keep | exact ⟨kS0, kS1⟩)
              ((first
                | (go_at_call 85; (refine (concat3_any (wq.heap.size + 1) 3 (some ⟨g1, 0, none⟩) (some ⟨wq.heap.size, 0, none⟩) (some ⟨g2, 2, none⟩) k c1 1 1 (n2 - 1) (c2 - 1) (cs.take (k * 2)) [.int .i64 x, .slice (some ⟨be, oe, none⟩) e.enc.length ce] (ds.drop 2) _ HC.out.1 HC.out.2.1 HC.out.2.2.1 HR1.out HC.out.2.2.2 HR3.out (by omega) (by omega) (by omega)).mono ?_); rintro ee w5 ⟨a5, c5, rfl, ho5, hb5⟩; have kS0 := (hb5.cell (p := ⟨w.heap.size, 0, none⟩) (by simp; omega)).trans ((HBQ.out.cell (p := ⟨w.heap.size, 0, none⟩) hsx).trans hx0); have kS1 := (hb5.cell (p := ⟨w.heap.size, 1, none⟩) (by simp; omega)).trans ((HBQ.out.cell (p := ⟨w.heap.size, 1, none⟩) hsx).trans hx1))))
            have hfin : TzPost w (T.add s (.c m e r)) (.returned (.slice a5 (k + 1 + (n2 - 1)) c5)) w5 := by
              have hbt := HBW.out.trans (hb5.mono HBW.out.size)
              obtain ⟨g5, c5', hform⟩ := Joins.ownsRow_form ho5 (by omega)
              simp at hform
              obtain ⟨rfl, rfl⟩ := hform
              refine ⟨g5, _, c5, _, rfl, Tz.of_own' ho5 ?_ ?_, hbt⟩
              · rw [Hadd.out]
                have hj := H1.out.2.2.2.1
                rw [← HU.out.1] at hj
                have hjf := hj.front
                rw [HU.out.2.1] at hjf
                have hy := H2.out.2.2.2.1
                obtain ⟨be', oe', ce', ds', hds, _, _, _, htr⟩ := hy
                rw [Nat.mul_comm k 2]
                have hone := hjf.join (u := .c x e r) (ds := .int .i64 x :: .slice (some ⟨be, oe, none⟩) e.enc.length ce :: ds') ⟨be, oe, ce, ds', rfl, Hate.out, hce, hcm, htr⟩
                have hl : cs.take (2 * k) ++ [.int .i64 x, .slice (some ⟨be, oe, none⟩) e.enc.length ce] ++ ds.drop 2 = cs.take (2 * k) ++ .int .i64 x :: .slice (some ⟨be, oe, none⟩) e.enc.length ce :: ds' := by
                  rw [hds]; simp
                rw [hl]
                exact hone.below hbt
              · rw [Hadd.out, T.app_cnt, HU.out.2.1]
                have := Hrc.out
                simp [T.cnt]
                omega
            have Hfin := Lib.hid hfin
            clear hfin ho5 hb5 kS0 kS1
            go_wp2_with fail
            go_ret
            exact Hfin.out


end Go.Proofs.Ytgkcpmhgmhioiaa

/- BagJ -/
/- The program's sums with nil in front. -/
namespace Go.Proofs.Ytgkcpmhgmhioiaa
set_option maxRecDepth 100000
open Go.RowKit

set_option maxHeartbeats 4000000 in
theorem addedTermsN_any (g2 : Nat) (m : Int) (e : T) (ds : List Value) (w : World) (h2 : Tz w g2 1 1 (.c m e .z) ds) :
    Calls Try.prog 69 #[.slice none 0 0, .slice (some ⟨g2, 0, none⟩) 1 1] w (TzPost w (.c m e .z)) := by
  obtain ⟨be, oe, ce, ds', hds, hate, hce, hcm, htr⟩ := h2.2.2.2.1
  have y0 : w.cell? ⟨g2, 0, none⟩ = some (.int .i64 m) := by rw [h2.2.2.2.2.2 0 (by omega), hds]; rfl
  have y1 : w.cell? ⟨g2, 1, none⟩ = some (.slice (some ⟨be, oe, none⟩) e.enc.length ce) := by rw [h2.2.2.2.2.2 1 (by omega), hds]; rfl
  have H2 := Lib.hid h2
  have Hate := Lib.hid hate
  clear h2 hate hds htr
  go_enter Try.func69, Try.ntmps69
  go_upto_block 0 with fail
  obtain ⟨wb, hwb⟩ : ∃ wb, wb = w.alloc (.cells #[.int .i64 m, .slice (some ⟨be, oe, none⟩) e.enc.length ce] 52) := ⟨_, rfl⟩
  rw [← hwb]
  have hBel : Below w.heap.size w wb := by rw [hwb]; exact (Below.refl _ _).alloc (Nat.le_refl _) _
  have hB1 : w.heap.size < wb.heap.size := by rw [hwb, World.size_alloc]; omega
  have hz0 : wb.cell? ⟨w.heap.size, 0, none⟩ = some (.int .i64 m) := by rw [hwb, Joins.cell_alloc_mark_at _ _ _ _ _ _ rfl]; rfl
  have hz1 : wb.cell? ⟨w.heap.size, 1, none⟩ = some (.slice (some ⟨be, oe, none⟩) e.enc.length ce) := by rw [hwb, Joins.cell_alloc_mark_at _ _ _ _ _ _ rfl]; rfl
  have HBel := Lib.hid hBel
  clear hwb hBel y0 y1
  go_cut [6] (fun v6 wx => v6 = .int .i64 (0 : Nat) ∧ Below wb.heap.size wb wx)
  case first =>
    go_wp2_with fail
    go_loopw [6] (fun v6 wr => v6 = .int .i64 (0 : Nat) ∧ wb = wr) (fun _ _ => 0)
    case atStart => exact ⟨rfl, rfl⟩
    case round =>
      obtain ⟨rfl, rfl⟩ := hrel
      go_wp2_with fail
      go_quiet (fail)
      go_wp2_with fail
      go_meet
      exact ⟨rfl, Joins.below_draws _ _ _⟩
  case rest =>
    obtain ⟨rfl, hbz⟩ := hcut
    go_step
    obtain ⟨wz, rfl⟩ : ∃ wz : World, wz = wc := ⟨_, rfl⟩
    have Hbz := Lib.hid hbz
    have Hbw := Lib.hid (HBel.out.trans (hbz.mono HBel.out.size))
    have yz1 := (hbz.cell (p := ⟨w.heap.size, 1, none⟩) hB1).trans hz1
    have yz0 := (hbz.cell (p := ⟨w.heap.size, 0, none⟩) hB1).trans hz0
    clear hbz hz0 hz1
    go_upto_region 7 with fail
    go_cut [44] (fun v44 wx => v44 = .bool false ∧ Below wz.heap.size wz wx)
    case first =>
      go_wp2_with fail
      go_quiet (fail)
      go_wp2_with fail
      go_meet
      exact ⟨rfl, Joins.below_draws _ _ _⟩
    case rest =>
      obtain ⟨rfl, hbt⟩ := hcut
      go_step
      obtain ⟨wq, rfl⟩ : ∃ wq : World, wq = wc := ⟨_, rfl⟩
      have hBz : w.heap.size < wz.heap.size := by have := Hbz.out.size; omega
      have hx1 := (hbt.cell (p := ⟨w.heap.size, 1, none⟩) hBz).trans yz1
      have hx0 := (hbt.cell (p := ⟨w.heap.size, 0, none⟩) hBz).trans yz0
      have Hbx := Lib.hid (Hbw.out.trans (hbt.mono Hbw.out.size))
      have hbs := Hbx.out.size
      have hsx : w.heap.size < wq.heap.size := by have := hbt.size; omega
      clear hbt yz0 yz1
      have HBW := Lib.hid ((((Hbx.out.alloc hbs (.cells #[.int .i64 m, .slice (some ⟨be, oe, none⟩) e.enc.length ce] 52)).alloc (by simp; omega) (.cells #[.slice none 0 0, .slice (some ⟨wq.heap.size, 0, none⟩) 1 1, .slice (some ⟨g2, 0, none⟩) (0) (0)] 48)).drew))
      have HBQ := Lib.hid ((((Below.refl wq.heap.size wq).alloc (Nat.le_refl _) (.cells #[.int .i64 m, .slice (some ⟨be, oe, none⟩) e.enc.length ce] 52)).alloc (by simp) (.cells #[.slice none 0 0, .slice (some ⟨wq.heap.size, 0, none⟩) 1 1, .slice (some ⟨g2, 0, none⟩) (0) (0)] 48)).drew)
      have HC := Lib.hid (cat_cells wq m (.slice (some ⟨be, oe, none⟩) e.enc.length ce) (.slice none 0 0) (.slice (some ⟨wq.heap.size, 0, none⟩) 1 1) (.slice (some ⟨g2, 0, none⟩) (0) (0)) 52 48 rfl)
      have HR3 := Lib.hid (Rd.below (l := []) (n := 0) (c := 0) (a := some ⟨g2, 0, none⟩) (w := w) ⟨rfl, (fun u hu => by cases hu), .inr ⟨g2, 0, rfl, fun j u hj => by simp at hj⟩⟩ HBW.out)
      have HR1 := Lib.hid (Rd.below (l := []) (n := 0) (c := 0) (a := none) (w := w) ⟨rfl, (fun u hu => by cases hu), .inl ⟨rfl, rfl, rfl⟩⟩ HBW.out)
      go_wp2_with fail
      go_region_held3 (fun w' => w'.cell? ⟨w.heap.size, 0, none⟩ = some (.int .i64 m) ∧ w'.cell? ⟨w.heap.size, 1, none⟩ = some (.slice (some ⟨be, oe, none⟩) e.enc.length ce)) (first | go_keep | exact ⟨kS0, kS1⟩)
        ((first
          | (go_at_call 85; (refine (concat3_any (wq.heap.size + 1) 3 none (some ⟨wq.heap.size, 0, none⟩) (some ⟨g2, 0, none⟩) 0 0 1 1 (0) (0) [] [.int .i64 m, .slice (some ⟨be, oe, none⟩) e.enc.length ce] ([]) _ HC.out.1 HC.out.2.1 HC.out.2.2.1 HR1.out HC.out.2.2.2 HR3.out (by omega) (by omega) (by omega)).mono ?_); rintro ee w5 ⟨a5, c5, rfl, ho5, hb5⟩; have kS0 := (hb5.cell (p := ⟨w.heap.size, 0, none⟩) (by simp; omega)).trans ((HBQ.out.cell (p := ⟨w.heap.size, 0, none⟩) hsx).trans hx0); have kS1 := (hb5.cell (p := ⟨w.heap.size, 1, none⟩) (by simp; omega)).trans ((HBQ.out.cell (p := ⟨w.heap.size, 1, none⟩) hsx).trans hx1))))
      have hfin : TzPost w (.c m e .z) (.returned (.slice a5 (0 + 1 + 0) c5)) w5 := by
        have hbt := HBW.out.trans (hb5.mono HBW.out.size)
        obtain ⟨g5, c5', hform⟩ := Joins.ownsRow_form ho5 (by omega)
        simp at hform
        obtain ⟨rfl, rfl⟩ := hform
        refine ⟨g5, _, c5, _, rfl, Tz.of_own' ho5 ?_ rfl, hbt⟩
        exact TC.below (t := .c m e .z) ⟨be, oe, ce, [], rfl, Hate.out, hce, hcm, rfl⟩ hbt
      have Hfin := Lib.hid hfin
      clear hfin ho5 hb5 kS0 kS1
      go_wp2_with fail
      go_ret
      exact Hfin.out

end Go.Proofs.Ytgkcpmhgmhioiaa

/- BagPM -/
/- Multisets: one more number of the least value is one more term. -/
namespace Go.Proofs.Ytgkcpmhgmhioiaa
set_option maxRecDepth 100000
namespace T

theorem cts_none {xs : List Int} : ∀ k, (∀ j : Nat, j < k → xs.count (j : Int) = 0) → cts xs k = z
  | 0, _ => rfl
  | k + 1, h => by rw [cts_skip (h k (by omega))]; exact cts_none k (fun j hj => h j (by omega))
theorem nT_gt {a b : Nat} (h : a < b) : (nT b).cmp (nT a) = 1 := by
  have h1 := nT_lt h
  have h2 := cmp_swap (nT b) (nT a)
  omega
theorem cts_put {xs ys : List Int} {t : Nat} (hlow : ∀ j : Nat, j < t → xs.count (j : Int) = 0) (hy : ∀ j : Nat, ys.count (j : Int) = xs.count (j : Int) + if j = t then 1 else 0) :
    ∀ k, t < k → add (cts xs k) (c 1 (nT t) z) = cts ys k
  | 0, h => by omega
  | k + 1, h => by
    by_cases hk : t = k
    · subst hk
      have h0 := cts_none t hlow
      have h1 := cts_none (xs := ys) t (fun j hj => by rw [hy j, hlow j hj, if_neg (by omega)])
      have hc := hy t
      rw [if_pos rfl] at hc
      rw [cts_next (xs := ys) (by omega), h1, hc]
      by_cases hx : xs.count (t : Int) = 0
      · rw [cts_skip hx, h0, hx]; rfl
      · rw [cts_next hx, h0, add]
        have hs := take_stop (e := nT t) (f := nT t) (xs.count (t : Int) : Nat) z (by rw [cmp_refl]; decide)
        rw [hs.1, hs.2, addTail, if_pos (cmp_refl _), app]
        congr 1
        omega
    · have ih := cts_put hlow hy k (by omega)
      have hc := hy k
      rw [if_neg (by omega)] at hc
      by_cases hx : xs.count (k : Int) = 0
      · rw [cts_skip hx, cts_skip (xs := ys) (by omega)]; exact ih
      · have hs := take_step (e := nT t) (f := nT k) (xs.count (k : Int) : Nat) (cts xs k) (nT_gt (by omega))
        rw [cts_next hx, cts_next (xs := ys) (by omega), hc, ← ih, add, hs.1, hs.2, add]
        rfl
/-- A number that is not greater than those before. -/
theorem cts_snoc {xs : List Int} {t : Nat} (h : ∀ x ∈ xs, (t : Int) ≤ x) (ht : t < 10) : add (cts xs 10) (c 1 (nT t) z) = cts (xs ++ [(t : Int)]) 10 := by
  refine cts_put (fun j hj => ?_) (fun j => ?_) 10 ht
  · rw [List.count_eq_zero]
    intro h9
    have := h _ h9
    omega
  · rw [List.count_append]
    by_cases hj : j = t
    · subst hj; simp
    · rw [if_neg hj, List.count_singleton, if_neg (by simp; omega)]
end T

end Go.Proofs.Ytgkcpmhgmhioiaa

/- BagK -/
/- Multisets: their ordinals, by the program. -/
namespace Go.Proofs.Ytgkcpmhgmhioiaa
set_option maxRecDepth 100000
open Go.RowKit

/-- The sum of the first numbers: nil at first. -/
def BoL (w : World) (xs : List Int) (k : Nat) (v : Value) (wr : World) : Prop :=
  (∃ (a : Option Addr) (n c : Nat), v = .slice a n c ∧ ((k = 0 ∧ a = none ∧ n = 0 ∧ c = 0) ∨ ∃ (g : Nat) (cs : List Value), a = some ⟨g, 0, none⟩ ∧ Tz wr g n c (T.cts (xs.take k) 10) cs)) ∧ Below w.heap.size w wr
theorem T.nf_times' {t : T} (h : t.Nf) : ∀ x ∈ t.times, 1 ≤ x ∧ x ≤ 9999 := by
  induction t with
  | z => intro x hx; cases hx
  | c n e r _ ih =>
    intro x hx
    rcases List.mem_cons.1 (show x ∈ n :: r.times from hx) with rfl | hx
    · exact ⟨h.1, h.2.1⟩
    · exact ih h.2.2.2.1 x hx
theorem cts_nil : T.cts [] 10 = .z := by simp [T.cts]
theorem take_snoc {xs : List Int} {k : Nat} {x : Int} {t : List Int} (h : xs.drop k = x :: t) : xs.take (k + 1) = xs.take k ++ [x] := by
  have hk : k < xs.length := by
    have := congrArg List.length h
    simp at this
    omega
  have hx : xs[k] = x := by
    have h5 := List.drop_eq_getElem_cons hk
    rw [h] at h5
    exact (List.cons.inj h5).1.symm
  rw [List.take_add_one, List.getElem?_eq_getElem hk, hx]
  rfl
theorem desc_low {xs : List Int} {k : Nat} {x : Int} {t : List Int} (hp : xs.Pairwise (fun a b => b ≤ a)) (h : xs.drop k = x :: t) : ∀ y ∈ xs.take k, x ≤ y := by
  intro y hy
  rw [← List.take_append_drop k xs, List.pairwise_append, h] at hp
  exact hp.2.2 y hy x List.mem_cons_self
theorem Tz.one {w : World} {b o c : Nat} {e : T} (hat : At w b o e.enc) (h1 : e.enc.length ≤ c) (h2 : c ≤ maxLen) :
    Tz (w.alloc (.cells #[.int .i64 1, .slice (some ⟨b, o, none⟩) e.enc.length c] 52)) w.heap.size 1 1 (.c 1 e .z) [.int .i64 1, .slice (some ⟨b, o, none⟩) e.enc.length c] := by
  refine ⟨rfl, Nat.le_refl _, by decide, ⟨b, o, c, [], rfl, hat.alloc (T.enc_ne e) _, h1, h2, rfl⟩, by simp, fun j _ => ?_⟩
  rw [Joins.cell_alloc_mark_at _ _ _ _ _ _ rfl]
  simp

set_option maxHeartbeats 4000000 in
theorem impl_BagOrd (ao : Option Addr) (n c : Nat) (xs : List Int) (w : World) (h : Sl w ao n c xs) :
    Calls Try.prog 32 #[.slice ao n c] w (IntPost w (T.bagOrd xs)) := by
  have k1 := Lib.hid (impl_BagValid ao n c xs w h)
  rcases bag_tf xs with h1 | h1
  · rw [h1] at k1
    have hl := (itemsB_true.1 (bagB_true.1 h1).1).1
    rw [h.1] at hl
    have HS := Lib.hid h
    have X1 := Lib.hid h.1
    have HP := Lib.hid (desc_pw xs (bagB_true.1 h1).2)
    have HU := Lib.hid (upTo_true.1 (itemsB_true.1 (bagB_true.1 h1).1).2)
    have HFF := Lib.hid (show ∀ (e : Nat) (wr : World), e ≤ 9999 → Calls Try.prog 43 #[.int .i64 e] wr (IntPost wr (T.nT e).enc) from fun e wr he => by
      have h1 := T.nT_row (e := e) (by omega)
      rw [← h1]
      refine (impl_OrdOf e wr (by omega) (by omega)).mono ?_
      rintro ee wx ⟨a, c, rfl, ho, hbx⟩
      exact ⟨a, c, rfl, ho, hbx⟩)
    obtain ⟨res, hres⟩ : ∃ res, res = T.cts xs 10 := ⟨_, rfl⟩
    have hll := T.cts_len xs 10
    rw [T.bagOrd_in h1, ← hres]
    rw [← hres] at hll
    have HR := Lib.hid hres
    have Hlen := Lib.hid hll
    clear h h1 hres hll
    go_enter Try.func32, Try.ntmps32
    go_wp2_with fail
    refine (k1.out).mono ?_
    rintro ee w1 ⟨rfl, hb1⟩
    have Hb1 := Lib.hid hb1
    clear hb1
    go_wp2_with fail
    go_loopg [3, 5, 11] n (fun gk v3 _ v8 wr => ∃ k : Nat, gk + k = n ∧ v8 = .int .i64 k ∧ BoL w xs k v3 wr)
    case atStart => exact ⟨0, rfl, rfl, ⟨none, 0, 0, rfl, .inl ⟨rfl, rfl, rfl, rfl⟩⟩, Hb1.out⟩
    case round =>
      obtain ⟨k, hgk, rfl, ⟨aS, nS, cS, rfl, hv⟩, hb⟩ := hrel
      obtain ⟨gA, rfl⟩ : ∃ gA, gA = gk := ⟨_, rfl⟩
      obtain ⟨wB, rfl⟩ : ∃ wB : World, wB = wr := ⟨_, rfl⟩
      have Hgk := Lib.hid hgk
      have Hb := Lib.hid hb
      have Hv := Lib.hid hv
      have hwB := hb.size
      by_cases hlt : k < n
      · obtain ⟨b, off, rfl, hat⟩ := HS.out.2.2.2 (by omega)
        obtain ⟨x, xt, hdx, hdx1⟩ := drop_cons (xs := xs) (a := k) (by rw [X1.out]; exact hlt)
        have hbl : b < w.heap.size := hat.lt (by intro h9; rw [h9] at hdx; simp at hdx)
        have y0 := (hat.below hb hbl).get hdx
        have hxm : x ∈ xs := List.mem_of_mem_drop (by rw [hdx]; exact List.mem_cons_self)
        have hx9 := HU.out x hxm
        have hlow := desc_low HP.out hdx
        have htk := take_snoc hdx
        obtain ⟨t, rfl⟩ := Int.eq_ofNat_of_zero_le hx9.1
        have ht9 : t < 10 := by omega
        have hsn := T.cts_snoc hlow ht9
        rw [← htk] at hsn
        have Hsn := Lib.hid hsn
        have hsl : (xs.take k).length ≤ 9999 := by rw [List.length_take]; omega
        have Hnf := Lib.hid (T.cts_nf hsl 10 (by omega))
        have Hk0 := Lib.hid (show k = 0 → T.cts (xs.take (k + 1)) 10 = .c 1 (T.nT t) .z from fun h9 => by rw [← hsn, h9, List.take_zero, cts_nil]; rfl)
        have kF := Lib.hid (HFF.out t wB (by omega))
        clear hgk hv hb hat hdx hdx1 hxm hx9 hlow htk hsn hsl
        go_wp2_with fail
        refine (kF.out).mono ?_
        rintro ee wb ⟨aN, cN, rfl, hoN, hbN⟩
        obtain ⟨LN, hLN⟩ : ∃ LN, LN = (T.nT t).enc.length := ⟨_, rfl⟩
        rw [← hLN] at hoN ⊢
        have hL0 : 0 < LN := by rw [hLN, T.enc_len]; omega
        obtain ⟨gN, cN', hform⟩ := Joins.ownsRow_form hoN hL0
        simp only [Value.slice.injEq] at hform
        obtain ⟨rfl, _, rfl⟩ := hform
        have hslN := Sl.of_own hoN
        obtain ⟨bN, oN, heN, hatN⟩ := hslN.2.2.2 hL0
        simp only [Option.some.injEq, Addr.mk.injEq, and_true] at heN
        obtain ⟨rfl, rfl⟩ := heN
        have hz1 := Tz.one hatN (by rw [← hLN]; exact hslN.2.1) hslN.2.2.1
        rw [← hLN] at hz1
        have hbA := (Hb.out.trans (hbN.mono hwB)).alloc (Nat.le_trans hwB hbN.size) (.cells #[.int .i64 1, .slice (some ⟨gN, 0, none⟩) LN cN] 52)
        have HbA := Lib.hid hbA
        have hel := T.nT_len t
        have hfin : ∀ (g n' c' : Nat) (cs : List Value) (w' : World), Tz w' g n' c' (T.cts (xs.take (k + 1)) 10) cs → Below (wb.alloc (.cells #[.int .i64 1, .slice (some ⟨gN, 0, none⟩) LN cN] 52)).heap.size (wb.alloc (.cells #[.int .i64 1, .slice (some ⟨gN, 0, none⟩) LN cN] 52)) w' → BoL w xs (k + 1) (.slice (some ⟨g, 0, none⟩) n' c') w' :=
          fun g n' c' cs w' hz hb' => ⟨⟨_, n', c', rfl, .inr ⟨g, cs, rfl, hz⟩⟩, HbA.out.trans (hb'.mono HbA.out.size)⟩
        have Hfin := Lib.hid hfin
        rcases Hv.out with ⟨hk0, rfl, rfl, rfl⟩ | ⟨gS, cs, rfl, hzS⟩
        · have ka := Lib.hid (addedTermsN_any wb.heap.size 1 (T.nT t) _ _ hz1)
          rw [← Hk0.out hk0] at ka
          clear hLN hL0 hslN hatN hoN hbN hz1 hbA hel hfin hk0
          go_wp2_with fail
          refine (ka.out).mono ?_
          rintro ee w5 ⟨g5, n5, c5, cs5, rfl, hz5, hb5⟩
          have Hr := Lib.hid (Hfin.out g5 n5 c5 cs5 w5 hz5 hb5)
          clear hz5 hb5
          go_wp2_with fail
          go_roundg (gA - 1)
          case measure => have := Hgk.out; omega
          case rel => exact ⟨k + 1, by have := Hgk.out; omega, by go_num, Hr.out⟩
        · have hsl := T.cts_len (xs.take k) 10
          have hzS' := (hzS.below hbN).below ((Below.refl wb.heap.size wb).alloc (Nat.le_refl _) (.cells #[.int .i64 1, .slice (some ⟨gN, 0, none⟩) LN cN] 52))
          have ka := Lib.hid (addedTermsC_any gS nS cS wb.heap.size 1 1 _ _ _ _ _ hzS' hz1 (by omega) (by simp [T.enc, T.body] at hel ⊢; omega) (fun y hy => by have := T.nf_times' Hnf.out y hy; omega) (fun y hy => by simp [T.times] at hy; omega))
          rw [Hsn.out] at ka
          clear hLN hL0 hslN hatN hoN hbN hz1 hbA hel hfin hsl hzS hzS'
          go_wp2_with fail
          refine (ka.out).mono ?_
          rintro ee w5 ⟨g5, n5, c5, cs5, rfl, hz5, hb5⟩
          have Hr := Lib.hid (Hfin.out g5 n5 c5 cs5 w5 hz5 hb5)
          clear hz5 hb5
          go_wp2_with fail
          go_roundg (gA - 1)
          case measure => have := Hgk.out; omega
          case rel => exact ⟨k + 1, by have := Hgk.out; omega, by go_num, Hr.out⟩
      · obtain rfl : k = n := by omega
        have htm : Tm wB aS nS res := by
          have htk : xs.take k = xs := List.take_of_length_le (by rw [X1.out]; exact Nat.le_refl _)
          rcases Hv.out with ⟨hk0, rfl, rfl, rfl⟩ | ⟨gS, cs, rfl, hzS⟩
          · have hx0 : xs = [] := List.length_eq_zero_iff.1 (by rw [X1.out]; exact hk0)
            rw [HR.out, hx0, cts_nil]
            exact ⟨rfl, [], rfl, fun h9 => by omega⟩
          · rw [htk, ← HR.out] at hzS
            exact hzS.tm
        have k5 := Lib.hid (ordOfTerms_any aS nS cS res wB (by have := Hlen.out; omega) htm)
        clear hgk hv hb htm Hv
        go_wp2_with fail
        refine (k5.out).mono ?_
        rintro ee w5 ⟨a3, c3, rfl, ho3, hb5⟩
        have hfin : IntPost w res.enc (.returned (.slice a3 res.enc.length c3)) w5 :=
          ⟨a3, c3, rfl, Joins.ownsRow_le ho3 hwB, Hb.out.trans (hb5.mono hwB)⟩
        have Hfin := Lib.hid hfin
        clear ho3 hb5 hfin
        go_wp2_with fail
        go_ret
        exact Hfin.out
  · rw [h1] at k1
    rw [T.bagOrd_out h1]
    clear h h1
    go_enter Try.func32, Try.ntmps32
    go_wp2_with fail
    refine (k1.out).mono ?_
    rintro ee w1 ⟨rfl, hb1⟩
    have Hb1 := Lib.hid hb1
    clear hb1
    go_wp2_with fail
    go_ret
    exact ⟨none, 0, rfl, nil_own w w1, Hb1.out⟩

end Go.Proofs.Ytgkcpmhgmhioiaa

/- LFnBagPut -/
/- FnBagPut: the walk of the law. -/
namespace Go.Proofs.Ytgkcpmhgmhioiaa
set_option maxRecDepth 100000
open Go.RowKit

set_option maxHeartbeats 4000000 in
theorem fnBagPut_walk (a : Option Addr) (len cap : Nat) (w : World) (h : By w a len cap) :
    Calls Try.prog 7 #[.slice a len cap] w fun e w' => e = .returned (.bool true) ∧ Below w.heap.size w w' := by
  have hlm : len ≤ 9223372036854775807 := by have := h.1; have := h.2.1; unfold maxLen at this; omega
  by_cases hbig : 1048576 < len
  · clear h
    go_enter Try.func7, Try.ntmps7
    go_wp2_with fail
    go_ret
    exact ⟨rfl, Below.refl _ _⟩
  have k0 := Lib.hid (drawBagPut_any a len cap w h)
  clear h
  go_enter Try.func7, Try.ntmps7
  go_wp2_with fail
  refine (k0.out).mono ?_
  rintro ee w1 ⟨xs, ys, V, g, n, c, g2, n2, c2, hn, hn2, rfl, ho, hoy, hl, hl2, hV0, hV1, hb0⟩
  have Hn := Lib.hid hn
  have Hn2 := Lib.hid hn2
  clear hn hn2
  have X_0 := Lib.hid (Sl.of_own ho)
  have Y_0 := Lib.hid hoy
  have Ht0 := Lib.hid hb0
  have hws := hb0.size
  clear ho hoy hb0
  have hrl := putRow_len xs V ys
  have hol := T.bagOrd_len xs
  have hpl := T.bagOrd_len (putRow xs V ys)
  have hck : putOk xs V ys = true → (bagB (putRow xs V ys) = true ∧ ((putRow xs V ys).length : Int) = (n : Int) - 1 + (n2 : Int) ∧ bagCmp (putRow xs V ys) xs = -1 ∧ bagBel (putRow xs V ys) xs = true ∧ T.cmpRow (T.bagOrd (putRow xs V ys)) (T.bagOrd xs) = -1) :=
    fun h => ⟨put_bag h, by rw [Hn.out, Hn2.out]; exact put_cnt h, put_less h, put_below h, put_ord h⟩
  have hno : putOk xs V ys = false → putRow xs V ys = [] := fun h => putRow_no h
  obtain ⟨r, hr⟩ : ∃ r, r = putRow xs V ys := ⟨_, rfl⟩
  obtain ⟨o, hq⟩ : ∃ o, o = putOk xs V ys := ⟨_, rfl⟩
  rw [← hr] at hrl hck hno hpl
  rw [← hq] at hck hno
  have Hr := Lib.hid hr.symm
  have Ho := Lib.hid hq.symm
  have Hck := Lib.hid hck
  have Hno := Lib.hid hno
  obtain ⟨ox, hox⟩ : ∃ ox, ox = T.bagOrd xs := ⟨_, rfl⟩
  obtain ⟨op, hop⟩ : ∃ op, op = T.bagOrd r := ⟨_, rfl⟩
  rw [← hox] at hol
  rw [← hop] at hpl
  have Hox := Lib.hid hox.symm
  have Hop := Lib.hid hop.symm
  clear hr hq hck hno hox hop
  have hne : ∀ x : Bool, (x != x) = false := by decide
  have k1 := Lib.hid (impl_BagPut (some ⟨g, 0, none⟩) (some ⟨g2, 0, none⟩) n c n2 c2 xs V ys w1 X_0.out (Sl.of_own Y_0.out) (by omega) (by omega))
  unfold OrdOkPost at k1
  rw [Hr.out, Ho.out] at k1
  go_wp2_with fail
  refine (k1.out).mono ?_
  rintro ee w101 ⟨aB, cB, rfl, ho, hb1⟩
  have Ht1 := Lib.hid (Ht0.out.trans (hb1.mono (by have h1 := Ht0.out.size; omega)))
  have X_1 := Lib.hid (X_0.out.below hb1)
  have Y_1 := Lib.hid (ownsRow_below' Y_0.out hb1)
  have B_1 := Lib.hid (Sl.of_own ho)
  clear hb1 ho
  have k2 := Lib.hid (spec_BagPut (some ⟨g, 0, none⟩) n c g2 n2 c2 _ xs ys V w101 X_1.out Y_1.out (by omega) (by omega) (by omega) (by omega))
  unfold OrdOkPost at k2
  rw [Hr.out, Ho.out] at k2
  go_wp2_with fail
  refine (k2.out).mono ?_
  rintro ee w102 ⟨aQ, cQ, rfl, ho, hb2⟩
  have Ht2 := Lib.hid (Ht1.out.trans (hb2.mono (by have h1 := Ht1.out.size; omega)))
  have X_2 := Lib.hid (X_1.out.below hb2)
  have B_2 := Lib.hid (B_1.out.below hb2)
  have Q_2 := Lib.hid (Sl.of_own ho)
  clear hb2 ho
  have k3 := Lib.hid (sameInts_any aB aQ r.length cB r.length cQ r r w102 (by omega) B_2.out Q_2.out)
  rw [eqB_refl] at k3
  go_wp2_with fail
  refine (k3.out).mono ?_
  rintro ee w103 ⟨rfl, hb3⟩
  have Ht3 := Lib.hid (Ht2.out.trans (hb3.mono (by have h1 := Ht2.out.size; omega)))
  have X_3 := Lib.hid (X_2.out.below hb3)
  have B_3 := Lib.hid (B_2.out.below hb3)
  clear hb3
  cases o with
  | false =>
    obtain rfl := Hno.out rfl
    have k4 := Lib.hid (alive_any w103)
    go_wp2_with fail
    refine (k4.out).mono ?_
    rintro ee w104 ⟨rfl, hb4⟩
    have Ht4 := Lib.hid (Ht3.out.trans (hb4.mono (by have h1 := Ht3.out.size; omega)))
    clear hb4
    go_wp2_with fail
    go_ret
    exact ⟨rfl, Ht4.out⟩
  | true =>
    obtain ⟨c1, c2', c3, c4, c5⟩ := Hck.out rfl
    have C1 := Lib.hid c1
    have C3 := Lib.hid c3
    have C4 := Lib.hid c4
    have C5 := Lib.hid c5
    have hlen : ((r.length : Int) == (n : Int) - 1 + (n2 : Int)) = true := by simpa using c2'
    clear c1 c3 c4 c5
    have k4 := Lib.hid (impl_BagValid aB r.length cB r w103 B_3.out)
    rw [C1.out] at k4
    go_wp2_with fail
    refine (k4.out).mono ?_
    rintro ee w104 ⟨rfl, hb4⟩
    have Ht4 := Lib.hid (Ht3.out.trans (hb4.mono (by have h1 := Ht3.out.size; omega)))
    have X_4 := Lib.hid (X_3.out.below hb4)
    have B_4 := Lib.hid (B_3.out.below hb4)
    clear hb4
    have k5 := Lib.hid (impl_BagCompare aB (some ⟨g, 0, none⟩) r.length cB n c r xs w104 B_4.out X_4.out)
    rw [C3.out] at k5
    go_wp2_with fail
    refine (k5.out).mono ?_
    rintro ee w105 ⟨rfl, hb5⟩
    have Ht5 := Lib.hid (Ht4.out.trans (hb5.mono (by have h1 := Ht4.out.size; omega)))
    have X_5 := Lib.hid (X_4.out.below hb5)
    have B_5 := Lib.hid (B_4.out.below hb5)
    clear hb5
    have k6 := Lib.hid (impl_BagBelow aB (some ⟨g, 0, none⟩) r.length cB n c r xs w105 B_5.out X_5.out)
    rw [C4.out] at k6
    go_wp2_with fail
    refine (k6.out).mono ?_
    rintro ee w106 ⟨rfl, hb6⟩
    have Ht6 := Lib.hid (Ht5.out.trans (hb6.mono (by have h1 := Ht5.out.size; omega)))
    have X_6 := Lib.hid (X_5.out.below hb6)
    have B_6 := Lib.hid (B_5.out.below hb6)
    clear hb6
    have k7 := Lib.hid (impl_BagOrd aB r.length cB r w106 B_6.out)
    unfold IntPost at k7
    rw [Hop.out] at k7
    go_wp2_with fail
    refine (k7.out).mono ?_
    rintro ee w107 ⟨aO, cO, rfl, ho, hb7⟩
    have Ht7 := Lib.hid (Ht6.out.trans (hb7.mono (by have h1 := Ht6.out.size; omega)))
    have X_7 := Lib.hid (X_6.out.below hb7)
    have O_7 := Lib.hid (Sl.of_own ho)
    clear hb7 ho
    have k8 := Lib.hid (impl_BagOrd (some ⟨g, 0, none⟩) n c xs w107 X_7.out)
    unfold IntPost at k8
    rw [Hox.out] at k8
    go_wp2_with fail
    refine (k8.out).mono ?_
    rintro ee w108 ⟨aU, cU, rfl, ho, hb8⟩
    have Ht8 := Lib.hid (Ht7.out.trans (hb8.mono (by have h1 := Ht7.out.size; omega)))
    have O_8 := Lib.hid (O_7.out.below hb8)
    have U_8 := Lib.hid (Sl.of_own ho)
    clear hb8 ho
    have k9 := Lib.hid (impl_OrdCompare aO aU op.length cO ox.length cU op ox w108 O_8.out U_8.out)
    rw [show T.cmpRow op ox = -1 by rw [← Hop.out, ← Hox.out]; exact C5.out] at k9
    go_wp2_with fail
    refine (k9.out).mono ?_
    rintro ee w109 ⟨rfl, hb9⟩
    have Ht9 := Lib.hid (Ht8.out.trans (hb9.mono (by have h1 := Ht8.out.size; omega)))
    clear hb9
    go_wp2_with fail
    go_ret
    exact ⟨rfl, Ht9.out⟩

end Go.Proofs.Ytgkcpmhgmhioiaa
