/- FnBagValid: the walk of the law. -/
import Derived.Test.YtobiaglmfdfepaaDrawBag
import Derived.Test.YtobiaglmfdfepaaBagD
namespace Go.Proofs.Ytobiaglmfdfepaa
set_option maxRecDepth 100000
open Go.RowKit

theorem bag_tail {x : Int} {t : List Int} (h : bagB (x :: t) = true) : bagB t = true := by
  obtain ⟨h1, h2⟩ := bagB_true.1 h
  obtain ⟨h3, h4⟩ := itemsB_true.1 h1
  refine bagB_true.2 ⟨itemsB_true.2 ⟨by simp at h3; omega, upTo_true.2 (fun y hy => upTo_true.1 h4 y (List.mem_cons_of_mem _ hy))⟩, fun j hj => ?_⟩
  have := h2 (j + 1) (by simp; omega)
  simpa using this
theorem bag_nil : bagB [] = true := bagB_true.2 ⟨by decide, fun j hj => by simp at hj⟩

set_option maxHeartbeats 4000000 in
theorem fnBagValid_walk (a : Option Addr) (len cap : Nat) (w : World) (h : By w a len cap) :
    Calls Try.prog 3 #[.slice a len cap] w fun e w' => e = .returned (.bool true) ∧ Below w.heap.size w w' := by
  have hlm : len ≤ 9223372036854775807 := by have := h.1; have := h.2.1; unfold maxLen at this; omega
  by_cases hbig : 1048576 < len
  · clear h
    go_enter Try.func3, Try.ntmps3
    go_wp2_with fail
    go_ret
    exact ⟨rfl, Below.refl _ _⟩
  have k0 := Lib.hid (drawBagValid_any a len cap w h)
  clear h
  go_enter Try.func3, Try.ntmps3
  go_wp2_with fail
  refine (k0.out).mono ?_
  rintro ee w1 ⟨xs, g, n, c, hn, rfl, ho, hl, hb0⟩
  have Hn := Lib.hid hn
  clear hn
  have X_0 := Lib.hid (Sl.of_own ho)
  have Ht0 := Lib.hid hb0
  have hws := hb0.size
  clear ho hb0
  have hne : ∀ x : Bool, (x != x) = false := by decide
  rcases bag_tf xs with hv | hv
  · cases xs with
    | nil =>
      obtain rfl : n = 0 := Hn.out
      clear hv
      have k5 := Lib.hid (impl_BagValid (some ⟨g, 0, none⟩) 0 c [] w1 X_0.out)
      rw [bag_nil] at k5
      go_wp2_with fail
      refine (k5.out).mono ?_
      rintro ee w105 ⟨rfl, hb5⟩
      have Ht5 := Lib.hid (Ht0.out.trans (hb5.mono (by have h1 := Ht0.out.size; omega)))
      have X_5 := Lib.hid (X_0.out.below hb5)
      clear hb5
      have k6 := Lib.hid (spec_BagValid (some ⟨g, 0, none⟩) 0 c [] w105 X_5.out)
      rw [bag_nil] at k6
      go_wp2_with fail
      refine (k6.out).mono ?_
      rintro ee w106 ⟨rfl, hb6⟩
      have Ht6 := Lib.hid (Ht5.out.trans (hb6.mono (by have h1 := Ht5.out.size; omega)))
      have X_6 := Lib.hid (X_5.out.below hb6)
      clear hb6
      have k7 := Lib.hid (impl_BagValid none 0 0 [] w106 ⟨rfl, Nat.le_refl _, Nat.zero_le _, fun h => by omega⟩)
      rw [bag_nil] at k7
      go_wp2_with fail
      refine (k7.out).mono ?_
      rintro ee w107 ⟨rfl, hb7⟩
      have Ht7 := Lib.hid (Ht6.out.trans (hb7.mono (by have h1 := Ht6.out.size; omega)))
      have X_7 := Lib.hid (X_6.out.below hb7)
      clear hb7
      have k8 := Lib.hid (alive_any w107)
      go_wp2_with fail
      refine (k8.out).mono ?_
      rintro ee w108 ⟨rfl, hb8⟩
      have Ht8 := Lib.hid (Ht7.out.trans (hb8.mono (by have h1 := Ht7.out.size; omega)))
      have X_8 := Lib.hid (X_7.out.below hb8)
      clear hb8
      go_wp2_with fail
      go_ret
      exact ⟨rfl, Ht8.out⟩
    | cons x t =>
      obtain ⟨q, rfl⟩ : ∃ q, n = q + 1 := ⟨n - 1, by have := Hn.out; simp at this; omega⟩
      have Hv := Lib.hid hv
      have Ht := Lib.hid (bag_tail hv)
      have hq0 : (((q + 1 : Nat) : Int) == 0) = false := by simp; omega
      have hqc := X_0.out.2.1
      have hcm := X_0.out.2.2.1
      have h1c : (1 : Int) ≤ (c : Int) := by omega
      clear hv
      have k9 := Lib.hid (impl_BagValid (some ⟨g, 0, none⟩) (q + 1) c (x :: t) w1 X_0.out)
      rw [Hv.out] at k9
      go_wp2_with fail
      refine (k9.out).mono ?_
      rintro ee w109 ⟨rfl, hb9⟩
      have Ht9 := Lib.hid (Ht0.out.trans (hb9.mono (by have h1 := Ht0.out.size; omega)))
      have X_9 := Lib.hid (X_0.out.below hb9)
      clear hb9
      have k10 := Lib.hid (spec_BagValid (some ⟨g, 0, none⟩) (q + 1) c (x :: t) w109 X_9.out)
      rw [Hv.out] at k10
      go_wp2_with fail
      refine (k10.out).mono ?_
      rintro ee w110 ⟨rfl, hb10⟩
      have Ht10 := Lib.hid (Ht9.out.trans (hb10.mono (by have h1 := Ht9.out.size; omega)))
      have X_10 := Lib.hid (X_9.out.below hb10)
      clear hb10
      by_cases hc1 : c = 1
      · have hs0 := X_10.out.tail1 hc1
        obtain rfl := hs0.2
        have HS := Lib.hid hs0.1
        subst hc1
        clear hs0
        have k11 := Lib.hid (impl_BagValid (some ⟨g, 0, none⟩) 0 0 t w110 HS.out)
        rw [Ht.out] at k11
        go_wp2_with fail
        refine (k11.out).mono ?_
        rintro ee w111 ⟨rfl, hb11⟩
        have Ht11 := Lib.hid (Ht10.out.trans (hb11.mono (by have h1 := Ht10.out.size; omega)))
        clear hb11
        have k12 := Lib.hid (impl_BagValid none 0 0 [] w111 ⟨rfl, Nat.le_refl _, Nat.zero_le _, fun h => by omega⟩)
        rw [bag_nil] at k12
        go_wp2_with fail
        refine (k12.out).mono ?_
        rintro ee w112 ⟨rfl, hb12⟩
        have Ht12 := Lib.hid (Ht11.out.trans (hb12.mono (by have h1 := Ht11.out.size; omega)))
        clear hb12
        have k13 := Lib.hid (alive_any w112)
        go_wp2_with fail
        refine (k13.out).mono ?_
        rintro ee w113 ⟨rfl, hb13⟩
        have Ht13 := Lib.hid (Ht12.out.trans (hb13.mono (by have h1 := Ht12.out.size; omega)))
        clear hb13
        go_wp2_with fail
        go_ret
        exact ⟨rfl, Ht13.out⟩
      · have hc1' : ¬ (c : Int) = 1 := by omega
        have HS := Lib.hid (show Sl w110 (some ⟨g, 1, none⟩) q (c - 1) t from X_10.out.tail2)
        have k14 := Lib.hid (impl_BagValid (some ⟨g, 1, none⟩) q (c - 1) t w110 HS.out)
        rw [Ht.out] at k14
        go_wp2_with fail
        refine (k14.out).mono ?_
        rintro ee w114 ⟨rfl, hb14⟩
        have Ht14 := Lib.hid (Ht10.out.trans (hb14.mono (by have h1 := Ht10.out.size; omega)))
        clear hb14
        have k15 := Lib.hid (impl_BagValid none 0 0 [] w114 ⟨rfl, Nat.le_refl _, Nat.zero_le _, fun h => by omega⟩)
        rw [bag_nil] at k15
        go_wp2_with fail
        refine (k15.out).mono ?_
        rintro ee w115 ⟨rfl, hb15⟩
        have Ht15 := Lib.hid (Ht14.out.trans (hb15.mono (by have h1 := Ht14.out.size; omega)))
        clear hb15
        have k16 := Lib.hid (alive_any w115)
        go_wp2_with fail
        refine (k16.out).mono ?_
        rintro ee w116 ⟨rfl, hb16⟩
        have Ht16 := Lib.hid (Ht15.out.trans (hb16.mono (by have h1 := Ht15.out.size; omega)))
        clear hb16
        go_wp2_with fail
        go_ret
        exact ⟨rfl, Ht16.out⟩
  · have Hv := Lib.hid hv
    clear hv
    have k1 := Lib.hid (impl_BagValid (some ⟨g, 0, none⟩) n c xs w1 X_0.out)
    rw [Hv.out] at k1
    go_wp2_with fail
    refine (k1.out).mono ?_
    rintro ee w101 ⟨rfl, hb1⟩
    have Ht1 := Lib.hid (Ht0.out.trans (hb1.mono (by have h1 := Ht0.out.size; omega)))
    have X_1 := Lib.hid (X_0.out.below hb1)
    clear hb1
    have k2 := Lib.hid (spec_BagValid (some ⟨g, 0, none⟩) n c xs w101 X_1.out)
    rw [Hv.out] at k2
    go_wp2_with fail
    refine (k2.out).mono ?_
    rintro ee w102 ⟨rfl, hb2⟩
    have Ht2 := Lib.hid (Ht1.out.trans (hb2.mono (by have h1 := Ht1.out.size; omega)))
    have X_2 := Lib.hid (X_1.out.below hb2)
    clear hb2
    have k3 := Lib.hid (impl_BagValid none 0 0 [] w102 ⟨rfl, Nat.le_refl _, Nat.zero_le _, fun h => by omega⟩)
    rw [bag_nil] at k3
    go_wp2_with fail
    refine (k3.out).mono ?_
    rintro ee w103 ⟨rfl, hb3⟩
    have Ht3 := Lib.hid (Ht2.out.trans (hb3.mono (by have h1 := Ht2.out.size; omega)))
    have X_3 := Lib.hid (X_2.out.below hb3)
    clear hb3
    have k4 := Lib.hid (alive_any w103)
    go_wp2_with fail
    refine (k4.out).mono ?_
    rintro ee w104 ⟨rfl, hb4⟩
    have Ht4 := Lib.hid (Ht3.out.trans (hb4.mono (by have h1 := Ht3.out.size; omega)))
    have X_4 := Lib.hid (X_3.out.below hb4)
    clear hb4
    go_wp2_with fail
    go_ret
    exact ⟨rfl, Ht4.out⟩

end Go.Proofs.Ytobiaglmfdfepaa
