/- FnRelClosed: the walk of the law. -/
import Derived.Test.YthcnpglbfhgmfaaDoorDrawRelA
import Derived.Test.YthcnpglbfhgmfaaDoorRelZ
import Derived.Test.YthcnpglbfhgmfaaDoorRelY
import Derived.Test.YthcnpglbfhgmfaaDoorRelG
namespace Go.Proofs.YthcnpglbfhgmfaaDoor
set_option maxRecDepth 100000
open Go.RowKit

theorem shr_bit (s j : Nat) : ((s : Int) / 2 ^ j).tmod 2 = bitI s j := by
  have hb := bit_div s j
  have h0 : (0 : Int) ≤ (s : Int) / 2 ^ j := by
    have hd : ((s : Int) / 2 ^ j) = ((s / 2 ^ j : Nat) : Int) := by simp
    rw [hd]; exact Int.natCast_nonneg _
  rw [Int.tmod_eq_emod_of_nonneg h0, hb]; rfl
theorem shr_1 {s j : Nat} (h : s.testBit j = true) : (((s : Int) / 2 ^ j).tmod 2 == 1) = true := by rw [shr_bit, bitI_eq]; exact h
theorem shr_0 {s j : Nat} (h : s.testBit j = false) : (((s : Int) / 2 ^ j).tmod 2 == 1) = false := by rw [shr_bit, bitI_eq]; exact h
theorem shr_n {s j : Nat} (h : s.testBit j = true) : (((s : Int) / 2 ^ j).tmod 2 != 1) = false := by rw [bne, shr_1 h]; rfl

set_option maxHeartbeats 4000000 in
theorem fnRelClosed_walk (a : Option Addr) (len cap : Nat) (w : World) (h : By w a len cap) (hT : Tab w) :
    Calls Tryd.prog 10 #[.slice a len cap] w fun e w' => e = .returned (.bool true) ∧ Below w.heap.size w w' := by
  have hlm : len ≤ 9223372036854775807 := by have := h.1; have := h.2.1; unfold maxLen at this; omega
  by_cases hbig : 1048576 < len
  · clear h hT
    go_enter Tryd.func10, Tryd.ntmps10
    go_wp2_with fail
    go_ret
    exact ⟨rfl, Below.refl _ _⟩
  have HT := Lib.hid hT
  have htl := hT.lt
  have k0 := Lib.hid (drawRelClosed_any a len cap w h)
  clear h hT
  go_enter Tryd.func10, Tryd.ntmps10
  go_wp2_with fail
  refine (k0.out).mono ?_
  rintro ee w1 ⟨xs, g, n, c, hn, rfl, ho, hl, hb0⟩
  have Hn := Lib.hid hn
  clear hn
  have X_0 := Lib.hid (Sl.of_own ho)
  have Ht0 := Lib.hid hb0
  have hws := hb0.size
  clear ho hb0
  have hrl := closedV_len xs
  obtain ⟨r, hr⟩ : ∃ r, r = closedV xs := ⟨_, rfl⟩
  rw [← hr] at hrl
  have Hr := Lib.hid hr.symm
  clear hr
  have k1 := Lib.hid (impl_RelClosed (some ⟨g, 0, none⟩) n c xs w1 X_0.out (HT.out.below Ht0.out htl))
  unfold RkPost at k1
  rw [Hr.out] at k1
  go_wp2_with fail
  refine (k1.out).mono ?_
  rintro ee w101 ⟨aR, cR, rfl, ho, hb1⟩
  have Ht1 := Lib.hid (Ht0.out.trans (hb1.mono (by have h1 := Ht0.out.size; omega)))
  have X_1 := Lib.hid (X_0.out.below hb1)
  have R_1 := Lib.hid (Sl.of_own ho)
  clear hb1 ho
  have k2 := Lib.hid (spec_RelClosed (some ⟨g, 0, none⟩) n c xs w101 X_1.out)
  unfold RkPost at k2
  rw [Hr.out] at k2
  go_wp2_with fail
  refine (k2.out).mono ?_
  rintro ee w102 ⟨aQ, cQ, rfl, ho, hb2⟩
  have Ht2 := Lib.hid (Ht1.out.trans (hb2.mono (by have h1 := Ht1.out.size; omega)))
  have X_2 := Lib.hid (X_1.out.below hb2)
  have R_2 := Lib.hid (R_1.out.below hb2)
  have Q_2 := Lib.hid (Sl.of_own ho)
  clear hb2 ho
  have k3 := Lib.hid (sameInts_any aR aQ r.length cR r.length cQ r r w102 (by omega) R_2.out Q_2.out)
  rw [eqB_refl] at k3
  go_wp2_with fail
  refine (k3.out).mono ?_
  rintro ee w103 ⟨rfl, hb3⟩
  have Ht3 := Lib.hid (Ht2.out.trans (hb3.mono (by have h1 := Ht2.out.size; omega)))
  have X_3 := Lib.hid (X_2.out.below hb3)
  have R_3 := Lib.hid (R_2.out.below hb3)
  clear hb3
  have k4 := Lib.hid (spec_RelValid (some ⟨g, 0, none⟩) n c xs w103 X_3.out)
  rcases rel_tf xs with hv | hv
  · have hR := relB_true.1 hv
    rw [hv] at k4
    have hrn : r.length = n := by rw [Hn.out, ← Hr.out]; exact closed_len hR
    have hmore : ∀ k j, k < n → (rw' xs k).testBit j = true → (rw' r k).testBit j = true := fun k j hk hj => by rw [← Hr.out]; exact closed_more hR (by have := Hn.out; omega) hj
    have hR2 : RelOk r := by rw [← Hr.out]; exact closed_ok hR
    have htw : closedV r = r := by rw [← Hr.out]; exact closed_twice hR
    have hrk : ranks r = ranks xs := by rw [← Hr.out]; exact closed_ranks hR
    have hkl := ranks_len xs
    have HR := Lib.hid hR
    have HR2 := Lib.hid hR2
    have Htw := Lib.hid htw
    have Hrk := Lib.hid hrk
    have Hmore := Lib.hid hmore
    have hn12 : n ≤ 12 := by have := hR.1.2; have := Hn.out; omega
    clear hv hR hmore hR2 htw hrk
    go_wp2_with fail
    refine (k4.out).mono ?_
    rintro ee w104 ⟨rfl, hb4⟩
    have Ht4 := Lib.hid (Ht3.out.trans (hb4.mono (by have h1 := Ht3.out.size; omega)))
    have X_4 := Lib.hid (X_3.out.below hb4)
    have R_4 := Lib.hid (R_3.out.below hb4)
    clear hb4
    rw [hrn] at R_4
    have Hrn := Lib.hid hrn
    have hen : ((r.length : Int) == (n : Int)) = true := by rw [hrn]; simp
    clear hrn
    go_wp2_with fail
    go_loopw [5] (fun v5 wr => ∃ k : Nat, k ≤ n ∧ v5 = .int .i64 k ∧ w104 = wr) (fun v5 _ => n - (intOf v5).toNat)
    case atStart => exact ⟨0, Nat.zero_le _, rfl, rfl⟩
    case round =>
      obtain ⟨k, hkn, rfl, rfl⟩ := hrel
      by_cases hlt : k < n
      · obtain ⟨bR, oR, rfl, hat⟩ := R_4.out.2.2.2 (by omega)
        obtain ⟨bX, oX, he, hatx⟩ := X_4.out.2.2.2 (by omega)
        obtain ⟨rfl, rfl⟩ : bX = g ∧ oX = 0 := by simp at he; omega
        have hltR : (k : Int) < (r.length : Int) := by rw [Hrn.out]; omega
        obtain ⟨s, hs⟩ : ∃ s, s = rw' xs k := ⟨_, rfl⟩
        obtain ⟨u, hu⟩ : ∃ u, u = rw' r k := ⟨_, rfl⟩
        have y0 : w104.cell? ⟨bX, k, none⟩ = some (.int .i64 (s : Int)) := by
          have h9 := hatx k (by have := Hn.out; omega)
          rw [Nat.zero_add] at h9
          rw [h9, HR.out.row_int (by have := Hn.out; omega), hs]
        have y1 : w104.cell? ⟨bR, oR + k, none⟩ = some (.int .i64 (u : Int)) := by
          rw [hat k (by rw [Hrn.out]; exact hlt), HR2.out.row_int (by rw [Hrn.out]; exact hlt), hu]
        have Hsu := Lib.hid (fun j (hj : s.testBit j = true) => show u.testBit j = true by rw [hu]; exact Hmore.out k j hlt (by rw [← hs]; exact hj))
        clear hat hatx he hs hu
        go_wp2_with fail
        go_loopw [6] (fun v6 wr => ∃ j : Nat, j ≤ n ∧ v6 = .int .i64 j ∧ w104 = wr) (fun v6 _ => n - (intOf v6).toNat)
        case atStart => exact ⟨0, Nat.zero_le _, rfl, rfl⟩
        case round =>
          obtain ⟨j, hjn, rfl, rfl⟩ := hrel
          by_cases hjl : j < n
          · rcases bit_tf s j with hB | hB
            · have h1 := shr_1 hB
              have h2 := shr_n (Hsu.out j hB)
              clear hB
              go_wp2_with fail
              go_roundw
              case rel => exact ⟨j + 1, by omega, by go_num, by trivial⟩
              case measure => exact idx_measure hjl
            · have h1 := shr_0 hB
              clear hB
              go_wp2_with fail
              go_roundw
              case rel => exact ⟨j + 1, by omega, by go_num, by trivial⟩
              case measure => exact idx_measure hjl
          · obtain rfl : j = n := by omega
            go_wp2_with fail
            go_roundw
            case rel => exact ⟨k + 1, by omega, by go_num, by trivial⟩
            case measure => exact idx_measure hlt
      · obtain rfl : k = n := by omega
        obtain ⟨rk, hrk⟩ : ∃ rk, rk = ranks xs := ⟨_, rfl⟩
        rw [← hrk] at hkl
        have HRk := Lib.hid hrk.symm
        have hltR : ¬ (k : Int) < (r.length : Int) := by rw [Hrn.out]; omega
        clear hrk
        have k5 := Lib.hid (impl_RelClosed aR k cR r w104 R_4.out (HT.out.below Ht4.out htl))
        unfold RkPost at k5
        rw [Htw.out] at k5
        go_wp2_with fail
        refine (k5.out).mono ?_
        rintro ee w105 ⟨aC, cC, rfl, ho, hb5⟩
        have Ht5 := Lib.hid (Ht4.out.trans (hb5.mono (by have h1 := Ht4.out.size; omega)))
        have X_5 := Lib.hid (X_4.out.below hb5)
        have R_5 := Lib.hid (R_4.out.below hb5)
        have C_5 := Lib.hid (Sl.of_own ho)
        clear hb5 ho
        have k6 := Lib.hid (sameInts_any aC aR r.length cC k cR r r w105 (by omega) C_5.out R_5.out)
        rw [eqB_refl] at k6
        go_wp2_with fail
        refine (k6.out).mono ?_
        rintro ee w106 ⟨rfl, hb6⟩
        have Ht6 := Lib.hid (Ht5.out.trans (hb6.mono (by have h1 := Ht5.out.size; omega)))
        have X_6 := Lib.hid (X_5.out.below hb6)
        have R_6 := Lib.hid (R_5.out.below hb6)
        clear hb6
        have k7 := Lib.hid (impl_RanksOf aR k cR r w106 R_6.out (HT.out.below Ht6.out htl))
        unfold RkPost at k7
        rw [Hrk.out, HRk.out] at k7
        go_wp2_with fail
        refine (k7.out).mono ?_
        rintro ee w107 ⟨aD, cD, rfl, ho, hb7⟩
        have Ht7 := Lib.hid (Ht6.out.trans (hb7.mono (by have h1 := Ht6.out.size; omega)))
        have X_7 := Lib.hid (X_6.out.below hb7)
        have D_7 := Lib.hid (Sl.of_own ho)
        clear hb7 ho
        have k8 := Lib.hid (impl_RanksOf (some ⟨g, 0, none⟩) k c xs w107 X_7.out (HT.out.below Ht7.out htl))
        unfold RkPost at k8
        rw [HRk.out] at k8
        go_wp2_with fail
        refine (k8.out).mono ?_
        rintro ee w108 ⟨aE, cE, rfl, ho, hb8⟩
        have Ht8 := Lib.hid (Ht7.out.trans (hb8.mono (by have h1 := Ht7.out.size; omega)))
        have D_8 := Lib.hid (D_7.out.below hb8)
        have E_8 := Lib.hid (Sl.of_own ho)
        clear hb8 ho
        have k9 := Lib.hid (sameInts_any aD aE rk.length cD rk.length cE rk rk w108 (by omega) D_8.out E_8.out)
        rw [eqB_refl] at k9
        go_wp2_with fail
        refine (k9.out).mono ?_
        rintro ee w109 ⟨rfl, hb9⟩
        have Ht9 := Lib.hid (Ht8.out.trans (hb9.mono (by have h1 := Ht8.out.size; omega)))
        clear hb9
        go_wp2_with fail
        go_ret
        exact ⟨rfl, Ht9.out⟩
  · have hR : ¬ RelOk xs := relB_false hv
    rw [hv] at k4
    have hnil : r = [] := by rw [← Hr.out]; exact closedV_no hR
    clear hv hR
    subst hnil
    go_wp2_with fail
    refine (k4.out).mono ?_
    rintro ee w104 ⟨rfl, hb4⟩
    have Ht4 := Lib.hid (Ht3.out.trans (hb4.mono (by have h1 := Ht3.out.size; omega)))
    clear hb4
    have k5 := Lib.hid (alive_any w104)
    go_wp2_with fail
    refine (k5.out).mono ?_
    rintro ee w105 ⟨rfl, hb5⟩
    have Ht5 := Lib.hid (Ht4.out.trans (hb5.mono (by have h1 := Ht4.out.size; omega)))
    clear hb5
    go_wp2_with fail
    go_ret
    exact ⟨rfl, Ht5.out⟩

end Go.Proofs.YthcnpglbfhgmfaaDoor
