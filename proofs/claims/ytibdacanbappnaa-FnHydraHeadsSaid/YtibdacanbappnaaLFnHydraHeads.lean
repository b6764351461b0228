/- FnHydraHeads: the walk of the law. -/
import Derived.Test.YtibdacanbappnaaHydD
import Derived.Test.YtibdacanbappnaaHydV
import Derived.Test.YtibdacanbappnaaHydF
namespace Go.Proofs.Ytibdacanbappnaa
set_option maxRecDepth 100000
open Go.RowKit

set_option maxHeartbeats 4000000 in
theorem fnHydraHeads_walk (a : Option Addr) (len cap : Nat) (w : World) (h : By w a len cap) :
    Calls Try.prog 4 #[.slice a len cap] w fun e w' => e = .returned (.bool true) ∧ Below w.heap.size w w' := by
  have hlm : len ≤ 9223372036854775807 := by have := h.1; have := h.2.1; unfold maxLen at this; omega
  by_cases hbig : 1048576 < len
  · clear h
    go_enter Try.func4, Try.ntmps4
    go_wp2_with fail
    go_ret
    exact ⟨rfl, Below.refl _ _⟩
  have k0 := Lib.hid (drawHydraHeads_any a len cap w h)
  clear h
  go_enter Try.func4, Try.ntmps4
  go_wp2_with fail
  refine (k0.out).mono ?_
  rintro ee w1 ⟨xs, g, n, c, hn, rfl, ho, hl, hb0⟩
  have Hn := Lib.hid hn
  clear hn
  have X_0 := Lib.hid (Sl.of_own ho)
  have Ht0 := Lib.hid hb0
  have hws := hb0.size
  clear ho hb0
  have hne : ∀ x : Int, (x != x) = false := by simp
  rcases H.hv_tf xs with hv | hv
  · rcases H.heads_facts hv with ⟨hq1, hq2⟩ | ⟨hq1, hq2, hq3⟩
    · rw [← Hn.out] at hq1
      have Hq := Lib.hid hq2
      clear hq2 hv
      have hc2 : ((n : Int) == 1) = true := by simp; omega
      have hc3 : ¬ (2 : Int) ≤ (n : Int) := by omega
      clear hq1
      have k1 := Lib.hid (impl_HydraHeads_b (some ⟨g, 0, none⟩) n c xs w1 X_0.out)
      rw [Hq.out] at k1
      go_wp2_with fail
      refine (k1.out).mono ?_
      rintro ee w101 ⟨rfl, hb1⟩
      have Ht1 := Lib.hid (Ht0.out.trans (hb1.mono (by have h1 := Ht0.out.size; omega)))
      have X_1 := Lib.hid (X_0.out.below hb1)
      clear hb1
      have k2 := Lib.hid (spec_HydraHeads_b (some ⟨g, 0, none⟩) n c xs w101 X_1.out)
      rw [Hq.out] at k2
      go_wp2_with fail
      refine (k2.out).mono ?_
      rintro ee w102 ⟨rfl, hb2⟩
      have Ht2 := Lib.hid (Ht1.out.trans (hb2.mono (by have h1 := Ht1.out.size; omega)))
      have X_2 := Lib.hid (X_1.out.below hb2)
      clear hb2
      go_wp2_with fail
      go_ret
      exact ⟨rfl, Ht2.out⟩
    · obtain ⟨q, hq⟩ : ∃ q, q = H.headsRow xs := ⟨_, rfl⟩
      rw [← hq] at hq2 hq3
      rw [← Hn.out] at hq1 hq3
      have Hq := Lib.hid hq
      clear hq hv
      have hc0 : ¬ q < 0 := by omega
      have hc1 : (q == 0) = false := by simp; omega
      have hc2 : ((n : Int) == 1) = false := by simp; omega
      have hc3 : q < (n : Int) := by omega
      have hc4 : (2 : Int) ≤ (n : Int) := by omega
      have k3 := Lib.hid (impl_HydraHeads_b (some ⟨g, 0, none⟩) n c xs w1 X_0.out)
      rw [← Hq.out] at k3
      go_wp2_with fail
      refine (k3.out).mono ?_
      rintro ee w103 ⟨rfl, hb3⟩
      have Ht3 := Lib.hid (Ht0.out.trans (hb3.mono (by have h1 := Ht0.out.size; omega)))
      have X_3 := Lib.hid (X_0.out.below hb3)
      clear hb3
      have k4 := Lib.hid (spec_HydraHeads_b (some ⟨g, 0, none⟩) n c xs w103 X_3.out)
      rw [← Hq.out] at k4
      go_wp2_with fail
      refine (k4.out).mono ?_
      rintro ee w104 ⟨rfl, hb4⟩
      have Ht4 := Lib.hid (Ht3.out.trans (hb4.mono (by have h1 := Ht3.out.size; omega)))
      have X_4 := Lib.hid (X_3.out.below hb4)
      clear hb4
      go_wp2_with fail
      go_ret
      exact ⟨rfl, Ht4.out⟩
  · have hq := H.heads_bad hv
    have Hq := Lib.hid hq
    have Hv := Lib.hid hv
    clear hv hq
    have k5 := Lib.hid (impl_HydraHeads_b (some ⟨g, 0, none⟩) n c xs w1 X_0.out)
    rw [Hq.out] at k5
    go_wp2_with fail
    refine (k5.out).mono ?_
    rintro ee w105 ⟨rfl, hb5⟩
    have Ht5 := Lib.hid (Ht0.out.trans (hb5.mono (by have h1 := Ht0.out.size; omega)))
    have X_5 := Lib.hid (X_0.out.below hb5)
    clear hb5
    have k6 := Lib.hid (spec_HydraHeads_b (some ⟨g, 0, none⟩) n c xs w105 X_5.out)
    rw [Hq.out] at k6
    go_wp2_with fail
    refine (k6.out).mono ?_
    rintro ee w106 ⟨rfl, hb6⟩
    have Ht6 := Lib.hid (Ht5.out.trans (hb6.mono (by have h1 := Ht5.out.size; omega)))
    have X_6 := Lib.hid (X_5.out.below hb6)
    clear hb6
    have k7 := Lib.hid (impl_HydraValid_b (some ⟨g, 0, none⟩) n c xs w106 X_6.out)
    rw [Hv.out] at k7
    go_wp2_with fail
    refine (k7.out).mono ?_
    rintro ee w107 ⟨rfl, hb7⟩
    have Ht7 := Lib.hid (Ht6.out.trans (hb7.mono (by have h1 := Ht6.out.size; omega)))
    have X_7 := Lib.hid (X_6.out.below hb7)
    clear hb7
    have k8 := Lib.hid (alive_any w107)
    go_wp2_with fail
    refine (k8.out).mono ?_
    rintro ee w108 ⟨rfl, hb8⟩
    have Ht8 := Lib.hid (Ht7.out.trans (hb8.mono (by have h1 := Ht7.out.size; omega)))
    have X_8 := Lib.hid (X_7.out.below hb8)
    clear hb8
    go_wp2_with fail
    go_ret
    exact ⟨rfl, Ht8.out⟩

end Go.Proofs.Ytibdacanbappnaa
