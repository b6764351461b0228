/- HeapsOrd of the program. -/
import Derived.Test.YtjkkopjmpmbapaaTrO
namespace Go.Proofs.Ytjkkopjmpmbapaa
set_option maxRecDepth 100000
open Go.RowKit

set_option maxHeartbeats 4000000 in
theorem impl_HeapsOrd (a0 : Option Addr) (n0 c0 : Nat) (h : List Int) (ao : Option Addr) (n c : Nat) (os : List (List Int)) (w : World) (hb0 : n0 ≤ 1048576) (hb : n ≤ 1048576) (h0 : Sl w a0 n0 c0 h) (hS : SlR w ao n c os) :
    Calls Try.prog 35 #[.slice a0 n0 c0, .slice ao n c] w (TdPost w (hordR h os) (hordB h os)) := by
  have kH := Lib.hid (impl_HeapsValid a0 n0 c0 h w (by omega) h0)
  have kW := Lib.hid (areWorths_any ao n c os w hb hS)
  have H0 := Lib.hid h0
  have HS := Lib.hid hS
  clear h0 hS
  rcases list_tf 40 h with hh | hh
  · rw [hh] at kH
    rcases worth_tf os with hw | hw
    · rw [hw] at kW
      obtain rfl : n0 = 3 := by rw [← H0.out.1]; exact (listB_true.1 hh).1
      obtain rfl : n = 3 := by rw [← HS.out.1]; exact (worthB_true.1 hw).1
      obtain ⟨r, hr⟩ : ∃ r, r = hordR h os := ⟨_, rfl⟩
      obtain ⟨o, ho⟩ : ∃ o, o = hordB h os := ⟨_, rfl⟩
      rw [← hr, ← ho]
      have Hr := Lib.hid hr
      have Ho := Lib.hid ho
      have Hh := Lib.hid hh
      have Hw := Lib.hid hw
      clear hr ho hh hw hb0 hb
      go_enter Try.func35, Try.ntmps35
      go_wp2_with fail
      refine (kH.out).mono ?_
      rintro ee wx ⟨rfl, rfl⟩
      go_wp2_with fail
      refine (kW.out).mono ?_
      rintro ee w1 ⟨rfl, hb1⟩
      have k0 := Lib.hid (impl_OrdOf 0 w1 (by decide) (by decide))
      rw [show T.num' 0 = [0] from rfl] at k0
      have Hb1 := Lib.hid hb1
      clear hb1
      go_wp2_with fail
      refine (k0.out).mono ?_
      rintro ee w2 ⟨a2, c2, rfl, ho2, hb2⟩
      have Ho2 := Lib.hid (Joins.ownsRow_le ho2 Hb1.out.size)
      have Hb2 := Lib.hid (Hb1.out.trans (hb2.mono Hb1.out.size))
      clear ho2 hb2
      go_wp2_with fail
      go_loopg [6, 21] 3 (fun gk v6 i wr => ∃ (k m : Nat) (s : List Int) (ak : Option Addr) (ck : Nat), gk + k = 3 ∧ i = .int .i64 k ∧ v6 = .slice ak m ck ∧ Hid (ordN (stackO h os k) = some s ∧ m = s.length) ∧ wr.ownsRow w.heap.size 3 1 (.slice ak m ck) m (ints s) ∧ Below w.heap.size w wr)
      case atStart => exact ⟨0, 1, [0], a2, c2, rfl, rfl, rfl, Lib.hid ⟨rfl, rfl⟩, Ho2.out, Hb2.out⟩
      case round =>
        obtain ⟨k, m, s, ak, ck, hgk, rfl, rfl, HR, hrow, hbel⟩ := hrel
        obtain ⟨GK, hGK⟩ : ∃ G, G = gk := ⟨_, rfl⟩
        rw [← hGK] at hgk
        have HGK := Lib.hid hGK
        clear hGK
        have Hgk := Lib.hid hgk
        have hk3 : k ≤ 3 := by omega
        clear hgk
        by_cases hlt : k < 3
        · obtain ⟨bh, oh, rfl, hath⟩ := (H0.out.below hbel).2.2.2 (by decide)
          have hxc := hath k (by rw [H0.out.1]; exact hlt)
          have hxb := listB_get Hh.out hlt
          obtain ⟨x, hx⟩ : ∃ x, x = h.getD k 0 := ⟨_, rfl⟩
          rw [← hx] at hxc hxb
          obtain ⟨X, hXX⟩ : ∃ X : Nat, x = X := ⟨x.toNat, by omega⟩
          have Hx := Lib.hid (hx.symm.trans hXX)
          have Hrow := Lib.hid hrow
          have Hbel := Lib.hid hbel
          have hx4 := hxb.2
          have hdk : decide ((k : Int) < 3) = true := decide_eq_true (by omega)
          clear hx hath hrow hbel hxb
          subst hXX
          go_wp2_with fail
          go_loopg [6, 27] X (fun gj v6 i wz => ∃ (j m : Nat) (s : List Int) (ak : Option Addr) (ck : Nat), gj + j = X ∧ i = .int .i64 j ∧ v6 = .slice ak m ck ∧ Hid (ordN (stackO h os k ++ List.replicate j (os.getD k [])) = some s ∧ m = s.length) ∧ wz.ownsRow w.heap.size 3 1 (.slice ak m ck) m (ints s) ∧ Below w.heap.size w wz)
          case atStart => exact ⟨0, m, s, ak, ck, by omega, rfl, rfl, Lib.hid (by simpa using HR.out), Hrow.out, Hbel.out⟩
          case round =>
            obtain ⟨j, m', s', ak', ck', hgj, rfl, rfl, HR', hrow', hbel'⟩ := hrel
            have Hgj := Lib.hid hgj
            by_cases hjx : j < X
            · obtain ⟨y, hy⟩ : ∃ y, os[k]? = some y := ⟨os[k]'(by rw [HS.out.1]; exact hlt), List.getElem?_eq_getElem _⟩
              obtain ⟨bo, oo, rfl, hato⟩ := (HS.out.below hbel').2.2.2 (by decide)
              obtain ⟨a1, n1, c1, e1, s1⟩ := hato k y hy
              have hgd : os.getD k [] = y := by simp [List.getD, hy]
              have kN := Lib.hid (impl_OrdNatural ak' a1 m' ck' n1 c1 s' y wr (Sl.of_own hrow') s1)
              unfold OrdOkPost at kN
              have hnext : ordN (stackO h os k ++ List.replicate (j + 1) (os.getD k [])) = addO (some s') y := by
                rw [List.replicate_succ', ← List.append_assoc, ordN_snoc, HR'.out.1, hgd]
              obtain ⟨rest, hrest⟩ := stackO_pre h os hlt (j := j + 1) (by rw [Hx.out]; push_cast; omega)
              have Hbel' := Lib.hid hbel'
              obtain ⟨q, hq⟩ : ∃ q, q = T.natOk s' y := ⟨_, rfl⟩
              obtain ⟨u, hu⟩ : ∃ u, u = T.natRow s' y := ⟨_, rfl⟩
              rw [← hq, ← hu] at kN
              cases q with
              | true =>
                have Hnx := Lib.hid (show ordN (stackO h os k ++ List.replicate (j + 1) (os.getD k [])) = some u by rw [hnext, addO_yes hq.symm, ← hu])
                clear hy hato s1 hgd hnext hrest hq hu hgj hrow' hbel'
                go_wp2_with fail
                refine (kN.out).mono ?_
                rintro ee w4 ⟨aR, cR, rfl, hoR, hb4⟩
                have HoR := Lib.hid (Joins.ownsRow_le hoR Hbel'.out.size)
                have Hb4 := Lib.hid (Hbel'.out.trans (hb4.mono Hbel'.out.size))
                clear hoR hb4
                go_wp2_with fail
                go_roundg (gk - 1)
                case measure => have := Hgj.out; omega
                case rel => exact ⟨j + 1, u.length, u, aR, cR, by have := Hgj.out; omega, by go_num, rfl, Lib.hid ⟨Hnx.out, rfl⟩, HoR.out, Hb4.out⟩
              | false =>
                have hn : ordN (stackO h os 3) = none := by rw [hrest]; exact ordN_fail (by rw [hnext]; exact addO_no hq.symm)
                have hoF : o = false := by rw [Ho.out]; exact hordB_n hn
                have hrN : r = [] := by rw [Hr.out]; exact hordR_no (by rw [← Ho.out]; exact hoF)
                subst hoF hrN
                clear hy hato s1 hgd hnext hrest hq hu hgj hrow' hbel' hn
                go_wp2_with fail
                refine (kN.out).mono ?_
                rintro ee w4 ⟨aR, cR, rfl, hoR, hb4⟩
                have Hb4 := Lib.hid (Hbel'.out.trans (hb4.mono Hbel'.out.size))
                clear hoR hb4
                go_wp2_with fail
                go_ret2
                exact td_nil Hb4.out
            · obtain rfl : j = X := by omega
              have HR2 := Lib.hid (show ordN (stackO h os (k + 1)) = some s' ∧ m' = s'.length by
                have h1 := HR'.out
                rw [stackO, Hx.out, Int.toNat_natCast]
                exact h1)
              have Hrow' := Lib.hid hrow'
              have Hbel' := Lib.hid hbel'
              clear hgj hrow' hbel'
              go_wp2_with fail
              go_roundg (GK - 1)
              case measure => have h1 := Hgk.out; have h2 := HGK.out; omega
              case rel => exact ⟨k + 1, m', s', ak', ck', by have := Hgk.out; omega, by go_num, rfl, HR2.out, Hrow'.out, Hbel'.out⟩
        · obtain rfl : k = 3 := by omega
          obtain ⟨hR1, hR2⟩ := HR.out
          obtain ⟨e1, e2⟩ := hordB_yes Hh.out Hw.out hR1
          rw [← Ho.out] at e1
          rw [← Hr.out] at e2
          subst hR2 e1 e2
          have HF := Lib.hid (show TdPost w r true (.returned (.tuple #[.slice ak r.length ck, .bool true])) wr from ⟨ak, ck, rfl, hrow, hbel⟩)
          clear hR1 hrow hbel
          go_wp2_with fail
          go_ret2
          exact HF.out
    · rw [hw] at kW
      rw [hordB_w hw, hordR_no (hordB_w hw)]
      go_enter Try.func35, Try.ntmps35
      go_wp2_with fail
      refine (kH.out).mono ?_
      rintro ee wx ⟨rfl, rfl⟩
      go_wp2_with fail
      refine (kW.out).mono ?_
      rintro ee w1 ⟨rfl, hb1⟩
      have Hb1 := Lib.hid hb1
      clear hb1
      go_wp2_with fail
      go_ret2
      exact td_nil Hb1.out
  · rw [hh] at kH
    rw [hordB_h hh, hordR_no (hordB_h hh)]
    go_enter Try.func35, Try.ntmps35
    go_wp2_with fail
    refine (kH.out).mono ?_
    rintro ee wx ⟨rfl, rfl⟩
    go_wp2_with fail
    go_ret2
    exact td_nil (Below.refl _ _)

end Go.Proofs.Ytjkkopjmpmbapaa
