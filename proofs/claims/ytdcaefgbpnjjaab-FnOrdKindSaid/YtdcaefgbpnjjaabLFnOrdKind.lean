/- FnOrdKind: the walk of the law. -/
import Derived.Test.YtdcaefgbpnjjaabDraw2
import Derived.Test.YtdcaefgbpnjjaabNextS
import Derived.Test.YtdcaefgbpnjjaabBeforeS
namespace Go.Proofs.Ytdcaefgbpnjjaab
open Go.RowKit

theorem kind_four (xs : List Int) : T.kindRow xs = -1 ∨ T.kindRow xs = 0 ∨ T.kindRow xs = 1 ∨ T.kindRow xs = 2 := by
  have := T.kindRow_bnd xs
  omega

set_option maxHeartbeats 4000000 in
theorem fnOrdKind_walk (a : Option Addr) (len cap : Nat) (w : World) (h : By w a len cap) :
    Calls Try.prog 8 #[.slice a len cap] w fun e w' => e = .returned (.bool true) ∧ Below w.heap.size w w' := by
  have hlm : len ≤ 9223372036854775807 := by have := h.1; have := h.2.1; unfold maxLen at this; omega
  by_cases hbig : 1048576 < len
  · clear h
    go_enter Try.func8, Try.ntmps8
    go_wp2_with fail
    go_ret
    exact ⟨rfl, Below.refl _ _⟩
  have k0 := Lib.hid (drawOrdKind_any a len cap w h)
  clear h
  go_enter Try.func8, Try.ntmps8
  go_wp2_with fail
  refine (k0.out).mono ?_
  rintro ee w1 ⟨xs, g, n, c, hn, rfl, ho, hl, hb0⟩
  have Hn := Lib.hid hn
  clear hn
  have X_0 := Lib.hid (Sl.of_own ho)
  have Ht0 := Lib.hid hb0
  have hws := hb0.size
  clear ho hb0
  rcases kind_four xs with hk | hk | hk | hk
  · have hbe : T.befOk xs = false := by rw [T.befOk_kind, hk]; rfl
    have hz : eqB xs [0] = false := by
      rw [eqB, decide_eq_false_iff_not]; intro h; have := (T.kindRow_zero xs).2 h; omega
    have Hz := Lib.hid hz
    have Hbe := Lib.hid hbe
    have Hk := Lib.hid hk
    clear hz hbe hk
    have k1 := Lib.hid (impl_OrdKind (some ⟨g, 0, none⟩) n c xs w1 X_0.out)
    rw [Hk.out] at k1
    go_wp2_with fail
    refine (k1.out).mono ?_
    rintro ee w101 ⟨rfl, hb1⟩
    have Ht1 := Lib.hid (Ht0.out.trans (hb1.mono (by have h1 := Ht0.out.size; omega)))
    have X_1 := Lib.hid (X_0.out.below hb1)
    clear hb1
    have k2 := Lib.hid (spec_OrdKind (some ⟨g, 0, none⟩) n c xs w101 X_1.out)
    rw [Hk.out] at k2
    go_wp2_with fail
    refine (k2.out).mono ?_
    rintro ee w102 ⟨rfl, hb2⟩
    have Ht2 := Lib.hid (Ht1.out.trans (hb2.mono (by have h1 := Ht1.out.size; omega)))
    have X_2 := Lib.hid (X_1.out.below hb2)
    clear hb2
    have k3 := Lib.hid (impl_OrdBefore (some ⟨g, 0, none⟩) n c xs w102 X_2.out)
    rw [Hbe.out] at k3
    obtain ⟨bl, hbl⟩ : ∃ bl, bl = (T.befRow xs).length := ⟨_, rfl⟩
    rw [← hbl] at k3
    clear hbl
    go_wp2_with fail
    refine (k3.out).mono ?_
    rintro ee w103 ⟨aB, cB, rfl, _, hb3⟩
    have Ht3 := Lib.hid (Ht2.out.trans (hb3.mono (by have h1 := Ht2.out.size; omega)))
    have X_3 := Lib.hid (X_2.out.below hb3)
    clear hb3
    cases hok : T.nextOk xs with
    | false =>
      have Hok := Lib.hid hok
      clear hok
      have k4 := Lib.hid (impl_OrdNext (some ⟨g, 0, none⟩) n c xs w103 X_3.out)
      rw [Hok.out] at k4
      go_wp2_with fail
      refine (k4.out).mono ?_
      rintro ee w104 ⟨aN, cN, rfl, ho, hb4⟩
      have Ht4 := Lib.hid (Ht3.out.trans (hb4.mono (by have h1 := Ht3.out.size; omega)))
      have X_4 := Lib.hid (X_3.out.below hb4)
      have N_4 := Lib.hid (Sl.of_own ho)
      clear hb4 ho
      have k5 := Lib.hid (sameInts_any (some ⟨g, 0, none⟩) (some ⟨w104.heap.size, 0, none⟩) n c 1 1 xs [0] (w104.alloc (.cells #[.int .i64 0] 3)) (by omega) (X_4.out.below (Joins.below_alloc1 _ _)) (Sl.of_own (World.ownsRow_lit w104 #[.int .i64 0] 1 (Nat.le_refl _) (by simp [maxLen]) rfl)))
      rw [Hz.out] at k5
      go_wp2_with fail
      refine (k5.out).mono ?_
      rintro ee w105 ⟨rfl, hb5⟩
      have hbl5 := (Joins.below_alloc1 w104 _).trans (hb5.mono (by simp))
      clear hb5
      have Ht5 := Lib.hid (Ht4.out.trans (hbl5.mono (by have h1 := Ht4.out.size; omega)))
      have X_5 := Lib.hid (X_4.out.below hbl5)
      have N_5 := Lib.hid (N_4.out.below hbl5)
      clear hbl5
      have k6 := Lib.hid (alive_any w105)
      go_wp2_with fail
      refine (k6.out).mono ?_
      rintro ee w106 ⟨rfl, hb6⟩
      have Ht6 := Lib.hid (Ht5.out.trans (hb6.mono (by have h1 := Ht5.out.size; omega)))
      have X_6 := Lib.hid (X_5.out.below hb6)
      have N_6 := Lib.hid (N_5.out.below hb6)
      clear hb6
      go_wp2_with fail
      go_ret
      exact ⟨rfl, Ht6.out⟩
    | true =>
      have Hok := Lib.hid hok
      clear hok
      have k7 := Lib.hid (impl_OrdNext (some ⟨g, 0, none⟩) n c xs w103 X_3.out)
      rw [Hok.out] at k7
      go_wp2_with fail
      refine (k7.out).mono ?_
      rintro ee w107 ⟨aN, cN, rfl, ho, hb7⟩
      have Ht7 := Lib.hid (Ht3.out.trans (hb7.mono (by have h1 := Ht3.out.size; omega)))
      have X_7 := Lib.hid (X_3.out.below hb7)
      have N_7 := Lib.hid (Sl.of_own ho)
      clear hb7 ho
      have k8 := Lib.hid (sameInts_any (some ⟨g, 0, none⟩) (some ⟨w107.heap.size, 0, none⟩) n c 1 1 xs [0] (w107.alloc (.cells #[.int .i64 0] 3)) (by omega) (X_7.out.below (Joins.below_alloc1 _ _)) (Sl.of_own (World.ownsRow_lit w107 #[.int .i64 0] 1 (Nat.le_refl _) (by simp [maxLen]) rfl)))
      rw [Hz.out] at k8
      go_wp2_with fail
      refine (k8.out).mono ?_
      rintro ee w108 ⟨rfl, hb8⟩
      have hbl8 := (Joins.below_alloc1 w107 _).trans (hb8.mono (by simp))
      clear hb8
      have Ht8 := Lib.hid (Ht7.out.trans (hbl8.mono (by have h1 := Ht7.out.size; omega)))
      have X_8 := Lib.hid (X_7.out.below hbl8)
      have N_8 := Lib.hid (N_7.out.below hbl8)
      clear hbl8
      have hkn := T.nextRow_kind Hok.out
      have k9 := Lib.hid (impl_OrdKind aN (T.nextRow xs).length cN (T.nextRow xs) w108 N_8.out)
      rw [hkn] at k9
      clear hkn
      go_wp2_with fail
      refine (k9.out).mono ?_
      rintro ee w109 ⟨rfl, hb9⟩
      have Ht9 := Lib.hid (Ht8.out.trans (hb9.mono (by have h1 := Ht8.out.size; omega)))
      have X_9 := Lib.hid (X_8.out.below hb9)
      have N_9 := Lib.hid (N_8.out.below hb9)
      clear hb9
      have k10 := Lib.hid (alive_any w109)
      go_wp2_with fail
      refine (k10.out).mono ?_
      rintro ee w110 ⟨rfl, hb10⟩
      have Ht10 := Lib.hid (Ht9.out.trans (hb10.mono (by have h1 := Ht9.out.size; omega)))
      have X_10 := Lib.hid (X_9.out.below hb10)
      have N_10 := Lib.hid (N_9.out.below hb10)
      clear hb10
      go_wp2_with fail
      go_ret
      exact ⟨rfl, Ht10.out⟩
  · have hbe : T.befOk xs = false := by rw [T.befOk_kind, hk]; rfl
    have hz : eqB xs [0] = true := by
      rw [eqB_true]; exact (T.kindRow_zero xs).1 hk
    have Hz := Lib.hid hz
    have Hbe := Lib.hid hbe
    have Hk := Lib.hid hk
    clear hz hbe hk
    have k11 := Lib.hid (impl_OrdKind (some ⟨g, 0, none⟩) n c xs w1 X_0.out)
    rw [Hk.out] at k11
    go_wp2_with fail
    refine (k11.out).mono ?_
    rintro ee w111 ⟨rfl, hb11⟩
    have Ht11 := Lib.hid (Ht0.out.trans (hb11.mono (by have h1 := Ht0.out.size; omega)))
    have X_11 := Lib.hid (X_0.out.below hb11)
    clear hb11
    have k12 := Lib.hid (spec_OrdKind (some ⟨g, 0, none⟩) n c xs w111 X_11.out)
    rw [Hk.out] at k12
    go_wp2_with fail
    refine (k12.out).mono ?_
    rintro ee w112 ⟨rfl, hb12⟩
    have Ht12 := Lib.hid (Ht11.out.trans (hb12.mono (by have h1 := Ht11.out.size; omega)))
    have X_12 := Lib.hid (X_11.out.below hb12)
    clear hb12
    have k13 := Lib.hid (impl_OrdBefore (some ⟨g, 0, none⟩) n c xs w112 X_12.out)
    rw [Hbe.out] at k13
    obtain ⟨bl, hbl⟩ : ∃ bl, bl = (T.befRow xs).length := ⟨_, rfl⟩
    rw [← hbl] at k13
    clear hbl
    go_wp2_with fail
    refine (k13.out).mono ?_
    rintro ee w113 ⟨aB, cB, rfl, _, hb13⟩
    have Ht13 := Lib.hid (Ht12.out.trans (hb13.mono (by have h1 := Ht12.out.size; omega)))
    have X_13 := Lib.hid (X_12.out.below hb13)
    clear hb13
    cases hok : T.nextOk xs with
    | false =>
      have Hok := Lib.hid hok
      clear hok
      have k14 := Lib.hid (impl_OrdNext (some ⟨g, 0, none⟩) n c xs w113 X_13.out)
      rw [Hok.out] at k14
      go_wp2_with fail
      refine (k14.out).mono ?_
      rintro ee w114 ⟨aN, cN, rfl, ho, hb14⟩
      have Ht14 := Lib.hid (Ht13.out.trans (hb14.mono (by have h1 := Ht13.out.size; omega)))
      have X_14 := Lib.hid (X_13.out.below hb14)
      have N_14 := Lib.hid (Sl.of_own ho)
      clear hb14 ho
      have k15 := Lib.hid (sameInts_any (some ⟨g, 0, none⟩) (some ⟨w114.heap.size, 0, none⟩) n c 1 1 xs [0] (w114.alloc (.cells #[.int .i64 0] 3)) (by omega) (X_14.out.below (Joins.below_alloc1 _ _)) (Sl.of_own (World.ownsRow_lit w114 #[.int .i64 0] 1 (Nat.le_refl _) (by simp [maxLen]) rfl)))
      rw [Hz.out] at k15
      go_wp2_with fail
      refine (k15.out).mono ?_
      rintro ee w115 ⟨rfl, hb15⟩
      have hbl15 := (Joins.below_alloc1 w114 _).trans (hb15.mono (by simp))
      clear hb15
      have Ht15 := Lib.hid (Ht14.out.trans (hbl15.mono (by have h1 := Ht14.out.size; omega)))
      have X_15 := Lib.hid (X_14.out.below hbl15)
      have N_15 := Lib.hid (N_14.out.below hbl15)
      clear hbl15
      have k16 := Lib.hid (alive_any w115)
      go_wp2_with fail
      refine (k16.out).mono ?_
      rintro ee w116 ⟨rfl, hb16⟩
      have Ht16 := Lib.hid (Ht15.out.trans (hb16.mono (by have h1 := Ht15.out.size; omega)))
      have X_16 := Lib.hid (X_15.out.below hb16)
      have N_16 := Lib.hid (N_15.out.below hb16)
      clear hb16
      go_wp2_with fail
      go_ret
      exact ⟨rfl, Ht16.out⟩
    | true =>
      have Hok := Lib.hid hok
      clear hok
      have k17 := Lib.hid (impl_OrdNext (some ⟨g, 0, none⟩) n c xs w113 X_13.out)
      rw [Hok.out] at k17
      go_wp2_with fail
      refine (k17.out).mono ?_
      rintro ee w117 ⟨aN, cN, rfl, ho, hb17⟩
      have Ht17 := Lib.hid (Ht13.out.trans (hb17.mono (by have h1 := Ht13.out.size; omega)))
      have X_17 := Lib.hid (X_13.out.below hb17)
      have N_17 := Lib.hid (Sl.of_own ho)
      clear hb17 ho
      have k18 := Lib.hid (sameInts_any (some ⟨g, 0, none⟩) (some ⟨w117.heap.size, 0, none⟩) n c 1 1 xs [0] (w117.alloc (.cells #[.int .i64 0] 3)) (by omega) (X_17.out.below (Joins.below_alloc1 _ _)) (Sl.of_own (World.ownsRow_lit w117 #[.int .i64 0] 1 (Nat.le_refl _) (by simp [maxLen]) rfl)))
      rw [Hz.out] at k18
      go_wp2_with fail
      refine (k18.out).mono ?_
      rintro ee w118 ⟨rfl, hb18⟩
      have hbl18 := (Joins.below_alloc1 w117 _).trans (hb18.mono (by simp))
      clear hb18
      have Ht18 := Lib.hid (Ht17.out.trans (hbl18.mono (by have h1 := Ht17.out.size; omega)))
      have X_18 := Lib.hid (X_17.out.below hbl18)
      have N_18 := Lib.hid (N_17.out.below hbl18)
      clear hbl18
      have hkn := T.nextRow_kind Hok.out
      have k19 := Lib.hid (impl_OrdKind aN (T.nextRow xs).length cN (T.nextRow xs) w118 N_18.out)
      rw [hkn] at k19
      clear hkn
      go_wp2_with fail
      refine (k19.out).mono ?_
      rintro ee w119 ⟨rfl, hb19⟩
      have Ht19 := Lib.hid (Ht18.out.trans (hb19.mono (by have h1 := Ht18.out.size; omega)))
      have X_19 := Lib.hid (X_18.out.below hb19)
      have N_19 := Lib.hid (N_18.out.below hb19)
      clear hb19
      have k20 := Lib.hid (alive_any w119)
      go_wp2_with fail
      refine (k20.out).mono ?_
      rintro ee w120 ⟨rfl, hb20⟩
      have Ht20 := Lib.hid (Ht19.out.trans (hb20.mono (by have h1 := Ht19.out.size; omega)))
      have X_20 := Lib.hid (X_19.out.below hb20)
      have N_20 := Lib.hid (N_19.out.below hb20)
      clear hb20
      go_wp2_with fail
      go_ret
      exact ⟨rfl, Ht20.out⟩
  · have hbe : T.befOk xs = true := by rw [T.befOk_kind, hk]; rfl
    have hz : eqB xs [0] = false := by
      rw [eqB, decide_eq_false_iff_not]; intro h; have := (T.kindRow_zero xs).2 h; omega
    have Hz := Lib.hid hz
    have Hbe := Lib.hid hbe
    have Hk := Lib.hid hk
    clear hz hbe hk
    have k21 := Lib.hid (impl_OrdKind (some ⟨g, 0, none⟩) n c xs w1 X_0.out)
    rw [Hk.out] at k21
    go_wp2_with fail
    refine (k21.out).mono ?_
    rintro ee w121 ⟨rfl, hb21⟩
    have Ht21 := Lib.hid (Ht0.out.trans (hb21.mono (by have h1 := Ht0.out.size; omega)))
    have X_21 := Lib.hid (X_0.out.below hb21)
    clear hb21
    have k22 := Lib.hid (spec_OrdKind (some ⟨g, 0, none⟩) n c xs w121 X_21.out)
    rw [Hk.out] at k22
    go_wp2_with fail
    refine (k22.out).mono ?_
    rintro ee w122 ⟨rfl, hb22⟩
    have Ht22 := Lib.hid (Ht21.out.trans (hb22.mono (by have h1 := Ht21.out.size; omega)))
    have X_22 := Lib.hid (X_21.out.below hb22)
    clear hb22
    have k23 := Lib.hid (impl_OrdBefore (some ⟨g, 0, none⟩) n c xs w122 X_22.out)
    rw [Hbe.out] at k23
    obtain ⟨bl, hbl⟩ : ∃ bl, bl = (T.befRow xs).length := ⟨_, rfl⟩
    rw [← hbl] at k23
    clear hbl
    go_wp2_with fail
    refine (k23.out).mono ?_
    rintro ee w123 ⟨aB, cB, rfl, _, hb23⟩
    have Ht23 := Lib.hid (Ht22.out.trans (hb23.mono (by have h1 := Ht22.out.size; omega)))
    have X_23 := Lib.hid (X_22.out.below hb23)
    clear hb23
    cases hok : T.nextOk xs with
    | false =>
      have Hok := Lib.hid hok
      clear hok
      have k24 := Lib.hid (impl_OrdNext (some ⟨g, 0, none⟩) n c xs w123 X_23.out)
      rw [Hok.out] at k24
      go_wp2_with fail
      refine (k24.out).mono ?_
      rintro ee w124 ⟨aN, cN, rfl, ho, hb24⟩
      have Ht24 := Lib.hid (Ht23.out.trans (hb24.mono (by have h1 := Ht23.out.size; omega)))
      have X_24 := Lib.hid (X_23.out.below hb24)
      have N_24 := Lib.hid (Sl.of_own ho)
      clear hb24 ho
      have k25 := Lib.hid (sameInts_any (some ⟨g, 0, none⟩) (some ⟨w124.heap.size, 0, none⟩) n c 1 1 xs [0] (w124.alloc (.cells #[.int .i64 0] 3)) (by omega) (X_24.out.below (Joins.below_alloc1 _ _)) (Sl.of_own (World.ownsRow_lit w124 #[.int .i64 0] 1 (Nat.le_refl _) (by simp [maxLen]) rfl)))
      rw [Hz.out] at k25
      go_wp2_with fail
      refine (k25.out).mono ?_
      rintro ee w125 ⟨rfl, hb25⟩
      have hbl25 := (Joins.below_alloc1 w124 _).trans (hb25.mono (by simp))
      clear hb25
      have Ht25 := Lib.hid (Ht24.out.trans (hbl25.mono (by have h1 := Ht24.out.size; omega)))
      have X_25 := Lib.hid (X_24.out.below hbl25)
      have N_25 := Lib.hid (N_24.out.below hbl25)
      clear hbl25
      have k26 := Lib.hid (alive_any w125)
      go_wp2_with fail
      refine (k26.out).mono ?_
      rintro ee w126 ⟨rfl, hb26⟩
      have Ht26 := Lib.hid (Ht25.out.trans (hb26.mono (by have h1 := Ht25.out.size; omega)))
      have X_26 := Lib.hid (X_25.out.below hb26)
      have N_26 := Lib.hid (N_25.out.below hb26)
      clear hb26
      go_wp2_with fail
      go_ret
      exact ⟨rfl, Ht26.out⟩
    | true =>
      have Hok := Lib.hid hok
      clear hok
      have k27 := Lib.hid (impl_OrdNext (some ⟨g, 0, none⟩) n c xs w123 X_23.out)
      rw [Hok.out] at k27
      go_wp2_with fail
      refine (k27.out).mono ?_
      rintro ee w127 ⟨aN, cN, rfl, ho, hb27⟩
      have Ht27 := Lib.hid (Ht23.out.trans (hb27.mono (by have h1 := Ht23.out.size; omega)))
      have X_27 := Lib.hid (X_23.out.below hb27)
      have N_27 := Lib.hid (Sl.of_own ho)
      clear hb27 ho
      have k28 := Lib.hid (sameInts_any (some ⟨g, 0, none⟩) (some ⟨w127.heap.size, 0, none⟩) n c 1 1 xs [0] (w127.alloc (.cells #[.int .i64 0] 3)) (by omega) (X_27.out.below (Joins.below_alloc1 _ _)) (Sl.of_own (World.ownsRow_lit w127 #[.int .i64 0] 1 (Nat.le_refl _) (by simp [maxLen]) rfl)))
      rw [Hz.out] at k28
      go_wp2_with fail
      refine (k28.out).mono ?_
      rintro ee w128 ⟨rfl, hb28⟩
      have hbl28 := (Joins.below_alloc1 w127 _).trans (hb28.mono (by simp))
      clear hb28
      have Ht28 := Lib.hid (Ht27.out.trans (hbl28.mono (by have h1 := Ht27.out.size; omega)))
      have X_28 := Lib.hid (X_27.out.below hbl28)
      have N_28 := Lib.hid (N_27.out.below hbl28)
      clear hbl28
      have hkn := T.nextRow_kind Hok.out
      have k29 := Lib.hid (impl_OrdKind aN (T.nextRow xs).length cN (T.nextRow xs) w128 N_28.out)
      rw [hkn] at k29
      clear hkn
      go_wp2_with fail
      refine (k29.out).mono ?_
      rintro ee w129 ⟨rfl, hb29⟩
      have Ht29 := Lib.hid (Ht28.out.trans (hb29.mono (by have h1 := Ht28.out.size; omega)))
      have X_29 := Lib.hid (X_28.out.below hb29)
      have N_29 := Lib.hid (N_28.out.below hb29)
      clear hb29
      have k30 := Lib.hid (alive_any w129)
      go_wp2_with fail
      refine (k30.out).mono ?_
      rintro ee w130 ⟨rfl, hb30⟩
      have Ht30 := Lib.hid (Ht29.out.trans (hb30.mono (by have h1 := Ht29.out.size; omega)))
      have X_30 := Lib.hid (X_29.out.below hb30)
      have N_30 := Lib.hid (N_29.out.below hb30)
      clear hb30
      go_wp2_with fail
      go_ret
      exact ⟨rfl, Ht30.out⟩
  · have hbe : T.befOk xs = false := by rw [T.befOk_kind, hk]; rfl
    have hz : eqB xs [0] = false := by
      rw [eqB, decide_eq_false_iff_not]; intro h; have := (T.kindRow_zero xs).2 h; omega
    have Hz := Lib.hid hz
    have Hbe := Lib.hid hbe
    have Hk := Lib.hid hk
    clear hz hbe hk
    have k31 := Lib.hid (impl_OrdKind (some ⟨g, 0, none⟩) n c xs w1 X_0.out)
    rw [Hk.out] at k31
    go_wp2_with fail
    refine (k31.out).mono ?_
    rintro ee w131 ⟨rfl, hb31⟩
    have Ht31 := Lib.hid (Ht0.out.trans (hb31.mono (by have h1 := Ht0.out.size; omega)))
    have X_31 := Lib.hid (X_0.out.below hb31)
    clear hb31
    have k32 := Lib.hid (spec_OrdKind (some ⟨g, 0, none⟩) n c xs w131 X_31.out)
    rw [Hk.out] at k32
    go_wp2_with fail
    refine (k32.out).mono ?_
    rintro ee w132 ⟨rfl, hb32⟩
    have Ht32 := Lib.hid (Ht31.out.trans (hb32.mono (by have h1 := Ht31.out.size; omega)))
    have X_32 := Lib.hid (X_31.out.below hb32)
    clear hb32
    have k33 := Lib.hid (impl_OrdBefore (some ⟨g, 0, none⟩) n c xs w132 X_32.out)
    rw [Hbe.out] at k33
    obtain ⟨bl, hbl⟩ : ∃ bl, bl = (T.befRow xs).length := ⟨_, rfl⟩
    rw [← hbl] at k33
    clear hbl
    go_wp2_with fail
    refine (k33.out).mono ?_
    rintro ee w133 ⟨aB, cB, rfl, _, hb33⟩
    have Ht33 := Lib.hid (Ht32.out.trans (hb33.mono (by have h1 := Ht32.out.size; omega)))
    have X_33 := Lib.hid (X_32.out.below hb33)
    clear hb33
    cases hok : T.nextOk xs with
    | false =>
      have Hok := Lib.hid hok
      clear hok
      have k34 := Lib.hid (impl_OrdNext (some ⟨g, 0, none⟩) n c xs w133 X_33.out)
      rw [Hok.out] at k34
      go_wp2_with fail
      refine (k34.out).mono ?_
      rintro ee w134 ⟨aN, cN, rfl, ho, hb34⟩
      have Ht34 := Lib.hid (Ht33.out.trans (hb34.mono (by have h1 := Ht33.out.size; omega)))
      have X_34 := Lib.hid (X_33.out.below hb34)
      have N_34 := Lib.hid (Sl.of_own ho)
      clear hb34 ho
      have k35 := Lib.hid (sameInts_any (some ⟨g, 0, none⟩) (some ⟨w134.heap.size, 0, none⟩) n c 1 1 xs [0] (w134.alloc (.cells #[.int .i64 0] 3)) (by omega) (X_34.out.below (Joins.below_alloc1 _ _)) (Sl.of_own (World.ownsRow_lit w134 #[.int .i64 0] 1 (Nat.le_refl _) (by simp [maxLen]) rfl)))
      rw [Hz.out] at k35
      go_wp2_with fail
      refine (k35.out).mono ?_
      rintro ee w135 ⟨rfl, hb35⟩
      have hbl35 := (Joins.below_alloc1 w134 _).trans (hb35.mono (by simp))
      clear hb35
      have Ht35 := Lib.hid (Ht34.out.trans (hbl35.mono (by have h1 := Ht34.out.size; omega)))
      have X_35 := Lib.hid (X_34.out.below hbl35)
      have N_35 := Lib.hid (N_34.out.below hbl35)
      clear hbl35
      have k36 := Lib.hid (alive_any w135)
      go_wp2_with fail
      refine (k36.out).mono ?_
      rintro ee w136 ⟨rfl, hb36⟩
      have Ht36 := Lib.hid (Ht35.out.trans (hb36.mono (by have h1 := Ht35.out.size; omega)))
      have X_36 := Lib.hid (X_35.out.below hb36)
      have N_36 := Lib.hid (N_35.out.below hb36)
      clear hb36
      go_wp2_with fail
      go_ret
      exact ⟨rfl, Ht36.out⟩
    | true =>
      have Hok := Lib.hid hok
      clear hok
      have k37 := Lib.hid (impl_OrdNext (some ⟨g, 0, none⟩) n c xs w133 X_33.out)
      rw [Hok.out] at k37
      go_wp2_with fail
      refine (k37.out).mono ?_
      rintro ee w137 ⟨aN, cN, rfl, ho, hb37⟩
      have Ht37 := Lib.hid (Ht33.out.trans (hb37.mono (by have h1 := Ht33.out.size; omega)))
      have X_37 := Lib.hid (X_33.out.below hb37)
      have N_37 := Lib.hid (Sl.of_own ho)
      clear hb37 ho
      have k38 := Lib.hid (sameInts_any (some ⟨g, 0, none⟩) (some ⟨w137.heap.size, 0, none⟩) n c 1 1 xs [0] (w137.alloc (.cells #[.int .i64 0] 3)) (by omega) (X_37.out.below (Joins.below_alloc1 _ _)) (Sl.of_own (World.ownsRow_lit w137 #[.int .i64 0] 1 (Nat.le_refl _) (by simp [maxLen]) rfl)))
      rw [Hz.out] at k38
      go_wp2_with fail
      refine (k38.out).mono ?_
      rintro ee w138 ⟨rfl, hb38⟩
      have hbl38 := (Joins.below_alloc1 w137 _).trans (hb38.mono (by simp))
      clear hb38
      have Ht38 := Lib.hid (Ht37.out.trans (hbl38.mono (by have h1 := Ht37.out.size; omega)))
      have X_38 := Lib.hid (X_37.out.below hbl38)
      have N_38 := Lib.hid (N_37.out.below hbl38)
      clear hbl38
      have hkn := T.nextRow_kind Hok.out
      have k39 := Lib.hid (impl_OrdKind aN (T.nextRow xs).length cN (T.nextRow xs) w138 N_38.out)
      rw [hkn] at k39
      clear hkn
      go_wp2_with fail
      refine (k39.out).mono ?_
      rintro ee w139 ⟨rfl, hb39⟩
      have Ht39 := Lib.hid (Ht38.out.trans (hb39.mono (by have h1 := Ht38.out.size; omega)))
      have X_39 := Lib.hid (X_38.out.below hb39)
      have N_39 := Lib.hid (N_38.out.below hb39)
      clear hb39
      have k40 := Lib.hid (alive_any w139)
      go_wp2_with fail
      refine (k40.out).mono ?_
      rintro ee w140 ⟨rfl, hb40⟩
      have Ht40 := Lib.hid (Ht39.out.trans (hb40.mono (by have h1 := Ht39.out.size; omega)))
      have X_40 := Lib.hid (X_39.out.below hb40)
      have N_40 := Lib.hid (N_39.out.below hb40)
      clear hb40
      go_wp2_with fail
      go_ret
      exact ⟨rfl, Ht40.out⟩

end Go.Proofs.Ytdcaefgbpnjjaab
