/- FnHydraValid: the walk of the law. -/
import Derived.Test.YtibdacanbappnaaHydD
import Derived.Test.YtibdacanbappnaaHydV
import Derived.Test.YtibdacanbappnaaHydF
namespace Go.Proofs.Ytibdacanbappnaa
set_option maxRecDepth 100000
open Go.RowKit

theorem hydv_news {w : World} {g n c : Nat} {xs : List Int} (h : Sl w (some ⟨g, 0, none⟩) n c xs) : ∀ j u, (ints xs)[j]? = some u → w.cell? ((⟨g, 0, none⟩ : Addr).add j) = some u := by
  intro j u hj
  have hl := (List.getElem?_eq_some_iff.1 hj).1
  rw [ints_len, h.1] at hl
  obtain ⟨b, off, h0, h1⟩ := h.2.2.2 (by omega)
  cases h0
  exact h1.news j u hj

set_option maxHeartbeats 4000000 in
theorem fnHydraValid_walk (a : Option Addr) (len cap : Nat) (w : World) (h : By w a len cap) :
    Calls Try.prog 3 #[.slice a len cap] w fun e w' => e = .returned (.bool true) ∧ Below w.heap.size w w' := by
  have hlm : len ≤ 9223372036854775807 := by have := h.1; have := h.2.1; unfold maxLen at this; omega
  by_cases hbig : 1048576 < len
  · clear h
    go_enter Try.func3, Try.ntmps3
    go_wp2_with fail
    go_ret
    exact ⟨rfl, Below.refl _ _⟩
  have k0 := Lib.hid (drawHydraValid_any a len cap w h)
  clear h
  go_enter Try.func3, Try.ntmps3
  go_wp2_with fail
  refine (k0.out).mono ?_
  rintro ee w1 ⟨xs, g, n, c, hn, rfl, ho, hl, hb0⟩
  have Hn := Lib.hid hn
  clear hn
  have X_0 := Lib.hid (Sl.of_own ho)
  have Ht0 := Lib.hid hb0
  have hws := hb0.size
  clear ho hb0
  obtain ⟨i0, hi, hz0, hz1, hz2⟩ := info_parts info_int
  have hne : ∀ x : Bool, (x != x) = false := by decide
  rcases H.hv_tf xs with hv | hv
  · have Hv := Lib.hid hv
    clear hv
    have k1 := Lib.hid (impl_HydraValid_b (some ⟨g, 0, none⟩) n c xs w1 X_0.out)
    rw [Hv.out] at k1
    go_wp2_with fail
    refine (k1.out).mono ?_
    rintro ee w101 ⟨rfl, hb1⟩
    have Ht1 := Lib.hid (Ht0.out.trans (hb1.mono (by have h1 := Ht0.out.size; omega)))
    have X_1 := Lib.hid (X_0.out.below hb1)
    clear hb1
    have k2 := Lib.hid (spec_HydraValid_b (some ⟨g, 0, none⟩) n c xs w101 X_1.out)
    rw [Hv.out] at k2
    go_wp2_with fail
    refine (k2.out).mono ?_
    rintro ee w102 ⟨rfl, hb2⟩
    have Ht2 := Lib.hid (Ht1.out.trans (hb2.mono (by have h1 := Ht1.out.size; omega)))
    have X_2 := Lib.hid (X_1.out.below hb2)
    clear hb2
    have HX := Lib.hid (show (ints xs).length = n * 1 by rw [ints_len]; have := Hn.out; omega)
    have HN := Lib.hid (hydv_news (X_2.out.below (Joins.below_alloc1 w102 (.cells #[] 3))))
    go_upto_region 8 with (first
      | (at_builtin; refine wpList_append_own _ rfl (.tmp 18) (.tmp 19) 23 rfl w102.heap.size 3 i0 (.int .i64 0) 1 8 Try.underlying23 hi hz0 hz1 hz2 rfl (by decide) _ 0 [] rfl (World.ownsRow_lit w102 #[] 0 (Nat.le_refl _) (by simp [maxLen]) rfl) ⟨g, 0, none⟩ n c (ints xs) rfl HX.out HN.out (ints_one _) (by unfold maxLen; omega) (by omega) (by simp) ?_; intro v1 wa ho1 hg1 _)
      | (at_builtin; refine wpList_append_own _ rfl (.tmp 20) (.tmp 21) 23 rfl w102.heap.size 3 i0 (.int .i64 0) 1 8 Try.underlying23 hi hz0 hz1 hz2 rfl (by decide) _ n (ints xs) rfl ((own0 ho1).alloc _) ⟨wa.heap.size, 0, none⟩ 1 1 [.int .i64 0] rfl rfl (cell_one_new _ _ _) (ints_oneCell _ [0]) (by unfold maxLen; omega) (by omega) (by have h1 : w102.heap.size + 1 ≤ wa.heap.size := hyd_le hg1; simp; omega) ?_; intro v2 wb ho2 hg2 _))
    have hsA : w102.heap.size + 1 ≤ wa.heap.size := hyd_le hg1
    have hbA := ((Below.refl w102.heap.size w102).alloc (Nat.le_refl _) _).grown hg1 (by simp) (fun r e => by cases e; exact Nat.le_refl _)
    have hb2 := (hbA.alloc (by omega) _).grown hg2 (by simp; omega) (fun r e => ((own0 ho1).lt r e).1)
    obtain ⟨g5, c5, rfl⟩ := Joins.ownsRow_form ho2 (by omega)
    have ho5 : wb.ownsRow w102.heap.size 3 1 (.slice (some ⟨g5, 0, none⟩) (n + 1) c5) (n + 1) (ints (xs ++ [0])) := by simpa [ints] using ho2
    clear hg1 hg2 ho1 ho2 hbA hsA HN
    have Ht3 := Lib.hid (Ht2.out.trans (hb2.mono (by have h1 := Ht2.out.size; omega)))
    have X_3 := Lib.hid (X_2.out.below hb2)
    have M_3 := Lib.hid (Sl.of_own ho5)
    clear hb2 ho5
    have HN := Lib.hid (hydv_news (X_3.out.below (Joins.below_alloc1 wb (.cells #[.int .i64 1] 3))))
    have HW := Lib.hid (World.ownsRow_lit (base := wb.heap.size) (e := 3) (size := 1) wb #[.int .i64 1] 1 (Nat.le_refl _) (by simp [maxLen]) rfl)
    go_upto_region 9 with (first
      | (at_builtin; refine wpList_append_own _ rfl (.tmp 23) (.tmp 24) 23 rfl wb.heap.size 3 i0 (.int .i64 0) 1 8 Try.underlying23 hi hz0 hz1 hz2 rfl (by decide) _ 1 (ints [1]) rfl HW.out ⟨g, 0, none⟩ n c (ints xs) rfl HX.out HN.out (ints_one _) (by unfold maxLen; omega) (by omega) (by simp) ?_; intro v3 wd ho3 hg3 _))
    have hb3 := ((Below.refl wb.heap.size wb).alloc (Nat.le_refl _) _).grown hg3 (by simp) (fun r e => (HW.out.lt r e).1)
    obtain ⟨g6, c6, rfl⟩ := Joins.ownsRow_form ho3 (by omega)
    have ho6 : wd.ownsRow wb.heap.size 3 1 (.slice (some ⟨g6, 0, none⟩) (1 + n) c6) (1 + n) (ints (1 :: xs)) := by simpa [ints] using ho3
    clear hg3 ho3 HN HW
    have Ht4 := Lib.hid (Ht3.out.trans (hb3.mono (by have h1 := Ht3.out.size; omega)))
    have X_4 := Lib.hid (X_3.out.below hb3)
    have M_4 := Lib.hid (M_3.out.below hb3)
    have O_4 := Lib.hid (Sl.of_own ho6)
    clear hb3 ho6
    have k5 := Lib.hid (impl_HydraValid_b (some ⟨g5, 0, none⟩) (n + 1) c5 (xs ++ [0]) wd M_4.out)
    rw [H.hv_snoc 0 Hv.out] at k5
    go_wp2_with fail
    refine (k5.out).mono ?_
    rintro ee w105 ⟨rfl, hb5⟩
    have Ht5 := Lib.hid (Ht4.out.trans (hb5.mono (by have h1 := Ht4.out.size; omega)))
    have X_5 := Lib.hid (X_4.out.below hb5)
    have M_5 := Lib.hid (M_4.out.below hb5)
    have O_5 := Lib.hid (O_4.out.below hb5)
    clear hb5
    have hbig3 : ¬ (60 : Int) < 1 + (n : Int) := by omega
    have k6 := Lib.hid (impl_HydraValid_b (some ⟨g6, 0, none⟩) (1 + n) c6 (1 :: xs) w105 O_5.out)
    rw [H.hv_branch Hv.out (by have := Hn.out; omega)] at k6
    go_wp2_with fail
    refine (k6.out).mono ?_
    rintro ee w106 ⟨rfl, hb6⟩
    have Ht6 := Lib.hid (Ht5.out.trans (hb6.mono (by have h1 := Ht5.out.size; omega)))
    have X_6 := Lib.hid (X_5.out.below hb6)
    have M_6 := Lib.hid (M_5.out.below hb6)
    have O_6 := Lib.hid (O_5.out.below hb6)
    clear hb6
    have k7 := Lib.hid (impl_HydraValid_b none 0 0 [] w106 ⟨rfl, Nat.le_refl _, Nat.zero_le _, fun h => by omega⟩)
    rw [H.hv_nil] at k7
    go_wp2_with fail
    refine (k7.out).mono ?_
    rintro ee w107 ⟨rfl, hb7⟩
    have Ht7 := Lib.hid (Ht6.out.trans (hb7.mono (by have h1 := Ht6.out.size; omega)))
    have X_7 := Lib.hid (X_6.out.below hb7)
    have M_7 := Lib.hid (M_6.out.below hb7)
    have O_7 := Lib.hid (O_6.out.below hb7)
    clear hb7
    have k8 := Lib.hid (alive_any w107)
    go_wp2_with fail
    refine (k8.out).mono ?_
    rintro ee w108 ⟨rfl, hb8⟩
    have Ht8 := Lib.hid (Ht7.out.trans (hb8.mono (by have h1 := Ht7.out.size; omega)))
    have X_8 := Lib.hid (X_7.out.below hb8)
    have M_8 := Lib.hid (M_7.out.below hb8)
    have O_8 := Lib.hid (O_7.out.below hb8)
    clear hb8
    go_wp2_with fail
    go_ret
    exact ⟨rfl, Ht8.out⟩
  · have Hv := Lib.hid hv
    clear hv
    have k9 := Lib.hid (impl_HydraValid_b (some ⟨g, 0, none⟩) n c xs w1 X_0.out)
    rw [Hv.out] at k9
    go_wp2_with fail
    refine (k9.out).mono ?_
    rintro ee w109 ⟨rfl, hb9⟩
    have Ht9 := Lib.hid (Ht0.out.trans (hb9.mono (by have h1 := Ht0.out.size; omega)))
    have X_9 := Lib.hid (X_0.out.below hb9)
    clear hb9
    have k10 := Lib.hid (spec_HydraValid_b (some ⟨g, 0, none⟩) n c xs w109 X_9.out)
    rw [Hv.out] at k10
    go_wp2_with fail
    refine (k10.out).mono ?_
    rintro ee w110 ⟨rfl, hb10⟩
    have Ht10 := Lib.hid (Ht9.out.trans (hb10.mono (by have h1 := Ht9.out.size; omega)))
    have X_10 := Lib.hid (X_9.out.below hb10)
    clear hb10
    have HX := Lib.hid (show (ints xs).length = n * 1 by rw [ints_len]; have := Hn.out; omega)
    have HN := Lib.hid (hydv_news (X_10.out.below (Joins.below_alloc1 w110 (.cells #[] 3))))
    go_upto_region 8 with (first
      | (at_builtin; refine wpList_append_own _ rfl (.tmp 18) (.tmp 19) 23 rfl w110.heap.size 3 i0 (.int .i64 0) 1 8 Try.underlying23 hi hz0 hz1 hz2 rfl (by decide) _ 0 [] rfl (World.ownsRow_lit w110 #[] 0 (Nat.le_refl _) (by simp [maxLen]) rfl) ⟨g, 0, none⟩ n c (ints xs) rfl HX.out HN.out (ints_one _) (by unfold maxLen; omega) (by omega) (by simp) ?_; intro v1 wa ho1 hg1 _)
      | (at_builtin; refine wpList_append_own _ rfl (.tmp 20) (.tmp 21) 23 rfl w110.heap.size 3 i0 (.int .i64 0) 1 8 Try.underlying23 hi hz0 hz1 hz2 rfl (by decide) _ n (ints xs) rfl ((own0 ho1).alloc _) ⟨wa.heap.size, 0, none⟩ 1 1 [.int .i64 0] rfl rfl (cell_one_new _ _ _) (ints_oneCell _ [0]) (by unfold maxLen; omega) (by omega) (by have h1 : w110.heap.size + 1 ≤ wa.heap.size := hyd_le hg1; simp; omega) ?_; intro v2 wb ho2 hg2 _))
    have hsA : w110.heap.size + 1 ≤ wa.heap.size := hyd_le hg1
    have hbA := ((Below.refl w110.heap.size w110).alloc (Nat.le_refl _) _).grown hg1 (by simp) (fun r e => by cases e; exact Nat.le_refl _)
    have hb2 := (hbA.alloc (by omega) _).grown hg2 (by simp; omega) (fun r e => ((own0 ho1).lt r e).1)
    obtain ⟨g5, c5, rfl⟩ := Joins.ownsRow_form ho2 (by omega)
    have ho5 : wb.ownsRow w110.heap.size 3 1 (.slice (some ⟨g5, 0, none⟩) (n + 1) c5) (n + 1) (ints (xs ++ [0])) := by simpa [ints] using ho2
    clear hg1 hg2 ho1 ho2 hbA hsA HN
    have Ht11 := Lib.hid (Ht10.out.trans (hb2.mono (by have h1 := Ht10.out.size; omega)))
    have X_11 := Lib.hid (X_10.out.below hb2)
    have M_11 := Lib.hid (Sl.of_own ho5)
    clear hb2 ho5
    have HN := Lib.hid (hydv_news (X_11.out.below (Joins.below_alloc1 wb (.cells #[.int .i64 1] 3))))
    have HW := Lib.hid (World.ownsRow_lit (base := wb.heap.size) (e := 3) (size := 1) wb #[.int .i64 1] 1 (Nat.le_refl _) (by simp [maxLen]) rfl)
    go_upto_region 9 with (first
      | (at_builtin; refine wpList_append_own _ rfl (.tmp 23) (.tmp 24) 23 rfl wb.heap.size 3 i0 (.int .i64 0) 1 8 Try.underlying23 hi hz0 hz1 hz2 rfl (by decide) _ 1 (ints [1]) rfl HW.out ⟨g, 0, none⟩ n c (ints xs) rfl HX.out HN.out (ints_one _) (by unfold maxLen; omega) (by omega) (by simp) ?_; intro v3 wd ho3 hg3 _))
    have hb3 := ((Below.refl wb.heap.size wb).alloc (Nat.le_refl _) _).grown hg3 (by simp) (fun r e => (HW.out.lt r e).1)
    obtain ⟨g6, c6, rfl⟩ := Joins.ownsRow_form ho3 (by omega)
    have ho6 : wd.ownsRow wb.heap.size 3 1 (.slice (some ⟨g6, 0, none⟩) (1 + n) c6) (1 + n) (ints (1 :: xs)) := by simpa [ints] using ho3
    clear hg3 ho3 HN HW
    have Ht12 := Lib.hid (Ht11.out.trans (hb3.mono (by have h1 := Ht11.out.size; omega)))
    have X_12 := Lib.hid (X_11.out.below hb3)
    have M_12 := Lib.hid (M_11.out.below hb3)
    have O_12 := Lib.hid (Sl.of_own ho6)
    clear hb3 ho6
    have k13 := Lib.hid (impl_HydraValid_b none 0 0 [] wd ⟨rfl, Nat.le_refl _, Nat.zero_le _, fun h => by omega⟩)
    rw [H.hv_nil] at k13
    go_wp2_with fail
    refine (k13.out).mono ?_
    rintro ee w113 ⟨rfl, hb13⟩
    have Ht13 := Lib.hid (Ht12.out.trans (hb13.mono (by have h1 := Ht12.out.size; omega)))
    have X_13 := Lib.hid (X_12.out.below hb13)
    have M_13 := Lib.hid (M_12.out.below hb13)
    have O_13 := Lib.hid (O_12.out.below hb13)
    clear hb13
    have k14 := Lib.hid (alive_any w113)
    go_wp2_with fail
    refine (k14.out).mono ?_
    rintro ee w114 ⟨rfl, hb14⟩
    have Ht14 := Lib.hid (Ht13.out.trans (hb14.mono (by have h1 := Ht13.out.size; omega)))
    have X_14 := Lib.hid (X_13.out.below hb14)
    have M_14 := Lib.hid (M_13.out.below hb14)
    have O_14 := Lib.hid (O_13.out.below hb14)
    clear hb14
    go_wp2_with fail
    go_ret
    exact ⟨rfl, Ht14.out⟩

end Go.Proofs.Ytibdacanbappnaa
