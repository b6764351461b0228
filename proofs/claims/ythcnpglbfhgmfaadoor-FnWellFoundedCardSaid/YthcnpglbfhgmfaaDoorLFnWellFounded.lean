/- FnWellFounded: the walk of the law. -/
import Derived.Test.YthcnpglbfhgmfaaDoorDrawRelA
import Derived.Test.YthcnpglbfhgmfaaDoorRelZ
import Derived.Test.YthcnpglbfhgmfaaDoorRelY
import Derived.Test.YthcnpglbfhgmfaaDoorRelCj
namespace Go.Proofs.YthcnpglbfhgmfaaDoor
set_option maxRecDepth 100000
open Go.RowKit

theorem wf_closed {xs : List Int} (h : RelOk xs) : wfB (closedV xs) = wfB xs := by
  rw [Bool.eq_iff_iff, wfB_true, wfB_true, closed_ranks h, closed_len h]
  exact ⟨fun h1 => ⟨h, h1.2⟩, fun h1 => ⟨closed_ok h, h1.2⟩⟩
theorem wf_circle {xs : List Int} (h : RelOk xs) {ls : List Nat} {o : Bool} (hv : CirV xs ls o) : (wfB xs != o) = true := by
  rcases hv with ⟨rfl, _, h1⟩ | ⟨rfl, ms, a, t, h1, _⟩
  · rw [wfB_true.2 ⟨h, fun p hp => ?_⟩]
    · rfl
    · refine Classical.byContradiction (fun h2 => h1 ⟨p, hp, by omega⟩)
  · cases hw : wfB xs with
    | false => rfl
    | true =>
      have h2 := (wfB_true.1 hw).2 a h1.edl.1
      have h3 := h1.edl.2
      omega

set_option maxHeartbeats 4000000 in
theorem fnWellFounded_walk (a : Option Addr) (len cap : Nat) (w : World) (h : By w a len cap) (hT : Tab w) :
    Calls Tryd.prog 5 #[.slice a len cap] w fun e w' => e = .returned (.bool true) ∧ Below w.heap.size w w' := by
  have hlm : len ≤ 9223372036854775807 := by have := h.1; have := h.2.1; unfold maxLen at this; omega
  by_cases hbig : 1048576 < len
  · clear h hT
    go_enter Tryd.func5, Tryd.ntmps5
    go_wp2_with fail
    go_ret
    exact ⟨rfl, Below.refl _ _⟩
  have HT := Lib.hid hT
  have htl := hT.lt
  have k0 := Lib.hid (drawWellFounded_any a len cap w h)
  clear h hT
  go_enter Tryd.func5, Tryd.ntmps5
  go_wp2_with fail
  refine (k0.out).mono ?_
  rintro ee w1 ⟨xs, g, n, c, hn, rfl, ho, hl, hb0⟩
  have Hn := Lib.hid hn
  clear hn
  have X_0 := Lib.hid (Sl.of_own ho)
  have Ht0 := Lib.hid hb0
  have hws := hb0.size
  clear ho hb0
  obtain ⟨o, hq⟩ : ∃ o, o = wfB xs := ⟨_, rfl⟩
  have Hq := Lib.hid hq.symm
  have hne : (o != o) = false := by cases o <;> rfl
  have heq : (o == o) = true := by cases o <;> rfl
  clear hq
  have k1 := Lib.hid (impl_WellFounded (some ⟨g, 0, none⟩) n c xs w1 X_0.out (HT.out.below Ht0.out htl))
  rw [Hq.out] at k1
  go_wp2_with fail
  refine (k1.out).mono ?_
  rintro ee w101 ⟨rfl, hb1⟩
  have Ht1 := Lib.hid (Ht0.out.trans (hb1.mono (by have h1 := Ht0.out.size; omega)))
  have X_1 := Lib.hid (X_0.out.below hb1)
  clear hb1
  have k2 := Lib.hid (spec_WellFounded (some ⟨g, 0, none⟩) n c xs w101 X_1.out)
  rw [Hq.out] at k2
  go_wp2_with fail
  refine (k2.out).mono ?_
  rintro ee w102 ⟨rfl, hb2⟩
  have Ht2 := Lib.hid (Ht1.out.trans (hb2.mono (by have h1 := Ht1.out.size; omega)))
  have X_2 := Lib.hid (X_1.out.below hb2)
  clear hb2
  have k4 := Lib.hid (spec_RelValid (some ⟨g, 0, none⟩) n c xs w102 X_2.out)
  rcases rel_tf xs with hv | hv
  · have hR := relB_true.1 hv
    rw [hv] at k4
    have HR := Lib.hid hR
    clear hv hR
    go_wp2_with fail
    refine (k4.out).mono ?_
    rintro ee w103 ⟨rfl, hb3⟩
    have Ht3 := Lib.hid (Ht2.out.trans (hb3.mono (by have h1 := Ht2.out.size; omega)))
    have X_3 := Lib.hid (X_2.out.below hb3)
    clear hb3
    have k5 := Lib.hid (impl_CircleOf (some ⟨g, 0, none⟩) n c xs w103 X_3.out (HT.out.below Ht3.out htl))
    go_wp2_with fail
    refine (k5.out).mono ?_
    rintro ee w104 ⟨ls, oc, aC, cC, hcv, rfl, _, _, hb4⟩
    have hoc := wf_circle HR.out hcv
    rw [Hq.out] at hoc
    have Ht4 := Lib.hid (Ht3.out.trans (hb4.mono (by have h1 := Ht3.out.size; omega)))
    have X_4 := Lib.hid (X_3.out.below hb4)
    obtain rfl : oc = !o := by cases o <;> cases oc <;> first | rfl | (simp at hoc)
    clear hcv hb4 hoc hne heq
    cases o
    all_goals
      have k6 := Lib.hid (impl_RelClosed (some ⟨g, 0, none⟩) n c xs w104 X_4.out (HT.out.below Ht4.out htl))
      unfold RkPost at k6
      have hwc := wf_closed HR.out
      rw [Hq.out] at hwc
      obtain ⟨r, hr⟩ : ∃ r, r = closedV xs := ⟨_, rfl⟩
      rw [← hr] at k6 hwc
      have Hwc := Lib.hid hwc
      clear hr hwc
      go_wp2_with fail
      refine (k6.out).mono ?_
      rintro ee w105 ⟨aR, cR, rfl, ho, hb5⟩
      have Ht5 := Lib.hid (Ht4.out.trans (hb5.mono (by have h1 := Ht4.out.size; omega)))
      have R_5 := Lib.hid (Sl.of_own ho)
      clear hb5 ho
      have k7 := Lib.hid (impl_WellFounded aR r.length cR r w105 R_5.out (HT.out.below Ht5.out htl))
      rw [Hwc.out] at k7
      go_wp2_with fail
      refine (k7.out).mono ?_
      rintro ee w106 ⟨rfl, hb6⟩
      have Ht6 := Lib.hid (Ht5.out.trans (hb6.mono (by have h1 := Ht5.out.size; omega)))
      clear hb6
      go_wp2_with fail
      go_ret
      exact ⟨rfl, Ht6.out⟩
  · have ho : o = false := by rw [← Hq.out]; exact wfB_no hv
    rw [hv] at k4
    clear hv
    subst ho
    go_wp2_with fail
    refine (k4.out).mono ?_
    rintro ee w103 ⟨rfl, hb3⟩
    have Ht3 := Lib.hid (Ht2.out.trans (hb3.mono (by have h1 := Ht2.out.size; omega)))
    clear hb3
    have k5 := Lib.hid (alive_any w103)
    go_wp2_with fail
    refine (k5.out).mono ?_
    rintro ee w104 ⟨rfl, hb4⟩
    have Ht4 := Lib.hid (Ht3.out.trans (hb4.mono (by have h1 := Ht3.out.size; omega)))
    clear hb4
    go_wp2_with fail
    go_ret
    exact ⟨rfl, Ht4.out⟩

end Go.Proofs.YthcnpglbfhgmfaaDoor
