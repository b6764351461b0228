/- EEndAll: one text out of TrOJ, TrOS, TrOX, TrP, TrPS, LawETradesEnd. -/
import Derived.Test.YtjkkopjmpmbapaaTrO
/- TrOJ -/
/- HeapsOrd of the program. -/
namespace Go.Proofs.Ytjkkopjmpmbapaa
set_option maxRecDepth 100000
open Go.RowKit

set_option maxHeartbeats 4000000 in
theorem impl_HeapsOrd (a0 : Option Addr) (n0 c0 : Nat) (h : List Int) (ao : Option Addr) (n c : Nat) (os : List (List Int)) (w : World) (hb0 : n0 ≤ 1048576) (hb : n ≤ 1048576) (h0 : Sl w a0 n0 c0 h) (hS : SlR w ao n c os) :
    Calls Try.prog 35 #[.slice a0 n0 c0, .slice ao n c] w (TdPost w (hordR h os) (hordB h os)) := by
  have kH := Lib.hid (impl_HeapsValid a0 n0 c0 h w (by omega) h0)
  have kW := Lib.hid (areWorths_any ao n c os w hb hS)
  have H0 := Lib.hid h0
  have HS := Lib.hid hS
  clear h0 hS
  rcases list_tf 40 h with hh | hh
  · rw [hh] at kH
    rcases worth_tf os with hw | hw
    · rw [hw] at kW
      obtain rfl : n0 = 3 := by rw [← H0.out.1]; exact (listB_true.1 hh).1
      obtain rfl : n = 3 := by rw [← HS.out.1]; exact (worthB_true.1 hw).1
      obtain ⟨r, hr⟩ : ∃ r, r = hordR h os := ⟨_, rfl⟩
      obtain ⟨o, ho⟩ : ∃ o, o = hordB h os := ⟨_, rfl⟩
      rw [← hr, ← ho]
      have Hr := Lib.hid hr
      have Ho := Lib.hid ho
      have Hh := Lib.hid hh
      have Hw := Lib.hid hw
      clear hr ho hh hw hb0 hb
      go_enter Try.func35, Try.ntmps35
      go_wp2_with fail
      refine (kH.out).mono ?_
      rintro ee wx ⟨rfl, rfl⟩
      go_wp2_with fail
      refine (kW.out).mono ?_
      rintro ee w1 ⟨rfl, hb1⟩
      have k0 := Lib.hid (impl_OrdOf 0 w1 (by decide) (by decide))
      rw [show T.num' 0 = [0] from rfl] at k0
      have Hb1 := Lib.hid hb1
      clear hb1
      go_wp2_with fail
      refine (k0.out).mono ?_
      rintro ee w2 ⟨a2, c2, rfl, ho2, hb2⟩
      have Ho2 := Lib.hid (Joins.ownsRow_le ho2 Hb1.out.size)
      have Hb2 := Lib.hid (Hb1.out.trans (hb2.mono Hb1.out.size))
      clear ho2 hb2
      go_wp2_with fail
      go_loopg [6, 21] 3 (fun gk v6 i wr => ∃ (k m : Nat) (s : List Int) (ak : Option Addr) (ck : Nat), gk + k = 3 ∧ i = .int .i64 k ∧ v6 = .slice ak m ck ∧ Hid (ordN (stackO h os k) = some s ∧ m = s.length) ∧ wr.ownsRow w.heap.size 3 1 (.slice ak m ck) m (ints s) ∧ Below w.heap.size w wr)
      case atStart => exact ⟨0, 1, [0], a2, c2, rfl, rfl, rfl, Lib.hid ⟨rfl, rfl⟩, Ho2.out, Hb2.out⟩
      case round =>
        obtain ⟨k, m, s, ak, ck, hgk, rfl, rfl, HR, hrow, hbel⟩ := hrel
        obtain ⟨GK, hGK⟩ : ∃ G, G = gk := ⟨_, rfl⟩
        rw [← hGK] at hgk
        have HGK := Lib.hid hGK
        clear hGK
        have Hgk := Lib.hid hgk
        have hk3 : k ≤ 3 := by omega
        clear hgk
        by_cases hlt : k < 3
        · obtain ⟨bh, oh, rfl, hath⟩ := (H0.out.below hbel).2.2.2 (by decide)
          have hxc := hath k (by rw [H0.out.1]; exact hlt)
          have hxb := listB_get Hh.out hlt
          obtain ⟨x, hx⟩ : ∃ x, x = h.getD k 0 := ⟨_, rfl⟩
          rw [← hx] at hxc hxb
          obtain ⟨X, hXX⟩ : ∃ X : Nat, x = X := ⟨x.toNat, by omega⟩
          have Hx := Lib.hid (hx.symm.trans hXX)
          have Hrow := Lib.hid hrow
          have Hbel := Lib.hid hbel
          have hx4 := hxb.2
          have hdk : decide ((k : Int) < 3) = true := decide_eq_true (by omega)
          clear hx hath hrow hbel hxb
          subst hXX
          go_wp2_with fail
          go_loopg [6, 27] X (fun gj v6 i wz => ∃ (j m : Nat) (s : List Int) (ak : Option Addr) (ck : Nat), gj + j = X ∧ i = .int .i64 j ∧ v6 = .slice ak m ck ∧ Hid (ordN (stackO h os k ++ List.replicate j (os.getD k [])) = some s ∧ m = s.length) ∧ wz.ownsRow w.heap.size 3 1 (.slice ak m ck) m (ints s) ∧ Below w.heap.size w wz)
          case atStart => exact ⟨0, m, s, ak, ck, by omega, rfl, rfl, Lib.hid (by simpa using HR.out), Hrow.out, Hbel.out⟩
          case round =>
            obtain ⟨j, m', s', ak', ck', hgj, rfl, rfl, HR', hrow', hbel'⟩ := hrel
            have Hgj := Lib.hid hgj
            by_cases hjx : j < X
            · obtain ⟨y, hy⟩ : ∃ y, os[k]? = some y := ⟨os[k]'(by rw [HS.out.1]; exact hlt), List.getElem?_eq_getElem _⟩
              obtain ⟨bo, oo, rfl, hato⟩ := (HS.out.below hbel').2.2.2 (by decide)
              obtain ⟨a1, n1, c1, e1, s1⟩ := hato k y hy
              have hgd : os.getD k [] = y := by simp [List.getD, hy]
              have kN := Lib.hid (impl_OrdNatural ak' a1 m' ck' n1 c1 s' y wr (Sl.of_own hrow') s1)
              unfold OrdOkPost at kN
              have hnext : ordN (stackO h os k ++ List.replicate (j + 1) (os.getD k [])) = addO (some s') y := by
                rw [List.replicate_succ', ← List.append_assoc, ordN_snoc, HR'.out.1, hgd]
              obtain ⟨rest, hrest⟩ := stackO_pre h os hlt (j := j + 1) (by rw [Hx.out]; push_cast; omega)
              have Hbel' := Lib.hid hbel'
              obtain ⟨q, hq⟩ : ∃ q, q = T.natOk s' y := ⟨_, rfl⟩
              obtain ⟨u, hu⟩ : ∃ u, u = T.natRow s' y := ⟨_, rfl⟩
              rw [← hq, ← hu] at kN
              cases q with
              | true =>
                have Hnx := Lib.hid (show ordN (stackO h os k ++ List.replicate (j + 1) (os.getD k [])) = some u by rw [hnext, addO_yes hq.symm, ← hu])
                clear hy hato s1 hgd hnext hrest hq hu hgj hrow' hbel'
                go_wp2_with fail
                refine (kN.out).mono ?_
                rintro ee w4 ⟨aR, cR, rfl, hoR, hb4⟩
                have HoR := Lib.hid (Joins.ownsRow_le hoR Hbel'.out.size)
                have Hb4 := Lib.hid (Hbel'.out.trans (hb4.mono Hbel'.out.size))
                clear hoR hb4
                go_wp2_with fail
                go_roundg (gk - 1)
                case measure => have := Hgj.out; omega
                case rel => exact ⟨j + 1, u.length, u, aR, cR, by have := Hgj.out; omega, by go_num, rfl, Lib.hid ⟨Hnx.out, rfl⟩, HoR.out, Hb4.out⟩
              | false =>
                have hn : ordN (stackO h os 3) = none := by rw [hrest]; exact ordN_fail (by rw [hnext]; exact addO_no hq.symm)
                have hoF : o = false := by rw [Ho.out]; exact hordB_n hn
                have hrN : r = [] := by rw [Hr.out]; exact hordR_no (by rw [← Ho.out]; exact hoF)
                subst hoF hrN
                clear hy hato s1 hgd hnext hrest hq hu hgj hrow' hbel' hn
                go_wp2_with fail
                refine (kN.out).mono ?_
                rintro ee w4 ⟨aR, cR, rfl, hoR, hb4⟩
                have Hb4 := Lib.hid (Hbel'.out.trans (hb4.mono Hbel'.out.size))
                clear hoR hb4
                go_wp2_with fail
                go_ret2
                exact td_nil Hb4.out
            · obtain rfl : j = X := by omega
              have HR2 := Lib.hid (show ordN (stackO h os (k + 1)) = some s' ∧ m' = s'.length by
                have h1 := HR'.out
                rw [stackO, Hx.out, Int.toNat_natCast]
                exact h1)
              have Hrow' := Lib.hid hrow'
              have Hbel' := Lib.hid hbel'
              clear hgj hrow' hbel'
              go_wp2_with fail
              go_roundg (GK - 1)
              case measure => have h1 := Hgk.out; have h2 := HGK.out; omega
              case rel => exact ⟨k + 1, m', s', ak', ck', by have := Hgk.out; omega, by go_num, rfl, HR2.out, Hrow'.out, Hbel'.out⟩
        · obtain rfl : k = 3 := by omega
          obtain ⟨hR1, hR2⟩ := HR.out
          obtain ⟨e1, e2⟩ := hordB_yes Hh.out Hw.out hR1
          rw [← Ho.out] at e1
          rw [← Hr.out] at e2
          subst hR2 e1 e2
          have HF := Lib.hid (show TdPost w r true (.returned (.tuple #[.slice ak r.length ck, .bool true])) wr from ⟨ak, ck, rfl, hrow, hbel⟩)
          clear hR1 hrow hbel
          go_wp2_with fail
          go_ret2
          exact HF.out
    · rw [hw] at kW
      rw [hordB_w hw, hordR_no (hordB_w hw)]
      go_enter Try.func35, Try.ntmps35
      go_wp2_with fail
      refine (kH.out).mono ?_
      rintro ee wx ⟨rfl, rfl⟩
      go_wp2_with fail
      refine (kW.out).mono ?_
      rintro ee w1 ⟨rfl, hb1⟩
      have Hb1 := Lib.hid hb1
      clear hb1
      go_wp2_with fail
      go_ret2
      exact td_nil Hb1.out
  · rw [hh] at kH
    rw [hordB_h hh, hordR_no (hordB_h hh)]
    go_enter Try.func35, Try.ntmps35
    go_wp2_with fail
    refine (kH.out).mono ?_
    rintro ee wx ⟨rfl, rfl⟩
    go_wp2_with fail
    go_ret2
    exact td_nil (Below.refl _ _)

end Go.Proofs.Ytjkkopjmpmbapaa

/- TrOS -/
/- HeapsOrd of the model. -/
namespace Go.Proofs.Ytjkkopjmpmbapaa
set_option maxRecDepth 100000
open Go.RowKit

set_option maxHeartbeats 4000000 in
theorem l8Ord_any (a0 : Option Addr) (c0 : Nat) (h : List Int) (ao : Option Addr) (c : Nat) (os : List (List Int)) (mx : Int) (hmx : mx ≤ 1000) (w : World) (hh : listB mx h = true) (h0 : Sl w a0 3 c0 h) (hS : SlR w ao 3 c os) :
    Calls Try.prog 54 #[.slice a0 3 c0, .slice ao 3 c] w fun e w' => ∃ a c', e = .returned (.slice a ((ordN (stackO h os 3)).getD []).length c') ∧ w'.ownsRow w.heap.size 3 1 (.slice a ((ordN (stackO h os 3)).getD []).length c') ((ordN (stackO h os 3)).getD []).length (ints ((ordN (stackO h os 3)).getD [])) ∧ Below w.heap.size w w' := by
  have H0 := Lib.hid h0
  have HS := Lib.hid hS
  have Hh := Lib.hid hh
  obtain ⟨r, hr⟩ : ∃ r, r = (ordN (stackO h os 3)).getD [] := ⟨_, rfl⟩
  rw [← hr]
  have Hr := Lib.hid hr
  have Ho2 := Lib.hid (show (w.alloc (.cells #[.int .i64 0] 3)).ownsRow w.heap.size 3 1 (.slice (some ⟨w.heap.size, 0, none⟩) 1 1) 1 (ints [0]) from World.ownsRow_lit w #[.int .i64 0] 1 (Nat.le_refl _) (by simp [maxLen]) rfl)
  have Hb2 := Lib.hid (show Below w.heap.size w (w.alloc (.cells #[.int .i64 0] 3)) from (Below.refl _ _).alloc (Nat.le_refl _) _)
  have Hmx := Lib.hid hmx
  clear hr hh h0 hS hmx
  go_enter Try.func54, Try.ntmps54
  go_wp2_with fail
  go_loopg [5, 6] 3 (fun gk v6 i wr => ∃ (k m : Nat) (s : List Int) (ak : Option Addr) (ck : Nat), gk + k = 3 ∧ i = .int .i64 k ∧ v6 = .slice ak m ck ∧ Hid (ordN (stackO h os k) = some s ∧ m = s.length) ∧ wr.ownsRow w.heap.size 3 1 (.slice ak m ck) m (ints s) ∧ Below w.heap.size w wr)
  case atStart => exact ⟨0, 1, [0], some ⟨w.heap.size, 0, none⟩, 1, rfl, rfl, rfl, Lib.hid ⟨rfl, rfl⟩, Ho2.out, Hb2.out⟩
  case round =>
    obtain ⟨k, m, s, ak, ck, hgk, rfl, rfl, HR, hrow, hbel⟩ := hrel
    obtain ⟨GK, hGK⟩ : ∃ G, G = gk := ⟨_, rfl⟩
    rw [← hGK] at hgk
    have HGK := Lib.hid hGK
    clear hGK
    have Hgk := Lib.hid hgk
    have hk3 : k ≤ 3 := by omega
    clear hgk
    by_cases hlt : k < 3
    · obtain ⟨bh, oh, rfl, hath⟩ := H0.out.2.2.2 (by decide)
      have hxb := listB_get Hh.out hlt
      have Hxc := Lib.hid (hath.below (Below.refl _ w) (hath.lt (by have h3 := (listB_true.1 Hh.out).1; intro h'; rw [h'] at h3; simp at h3)))
      obtain ⟨x, hx⟩ : ∃ x, x = h.getD k 0 := ⟨_, rfl⟩
      rw [← hx] at hxb
      obtain ⟨X, hXX⟩ : ∃ X : Nat, x = X := ⟨x.toNat, by omega⟩
      have Hx := Lib.hid (hx.symm.trans hXX)
      have HH := Lib.hid hath
      have Hrow := Lib.hid hrow
      have Hbel := Lib.hid hbel
      have hx4 : (X : Int) ≤ 1000 := by have := hxb.2; have := Hmx.out; omega
      have hdk : decide ((k : Int) < 3) = true := decide_eq_true (by omega)
      clear hx hath hrow hbel hxb
      subst hXX
      go_wp2_with fail
      go_loopg [5, 7] X (fun gj v6 i wz => ∃ (j m : Nat) (s : List Int) (ak : Option Addr) (ck : Nat), gj + j = X ∧ i = .int .i64 j ∧ v6 = .slice ak m ck ∧ Hid (ordN (stackO h os k ++ List.replicate j (os.getD k [])) = some s ∧ m = s.length) ∧ wz.ownsRow w.heap.size 3 1 (.slice ak m ck) m (ints s) ∧ Below w.heap.size w wz)
      case atStart => exact ⟨0, m, s, ak, ck, by omega, rfl, rfl, Lib.hid (by simpa using HR.out), Hrow.out, Hbel.out⟩
      case round =>
        obtain ⟨j, m', s', ak', ck', hgj, rfl, rfl, HR', hrow', hbel'⟩ := hrel
        have Hgj := Lib.hid hgj
        have hxc : wr.cell? ⟨bh, oh + k, none⟩ = some (.int .i64 X) := by
          have h1 := HH.out k (by rw [H0.out.1]; exact hlt)
          rw [Hx.out] at h1
          exact (hbel'.cell (cell_in h1)).trans h1
        by_cases hjx : j < X
        · obtain ⟨y, hy⟩ : ∃ y, os[k]? = some y := ⟨os[k]'(by rw [HS.out.1]; exact hlt), List.getElem?_eq_getElem _⟩
          obtain ⟨bo, oo, rfl, hato⟩ := (HS.out.below hbel').2.2.2 (by decide)
          obtain ⟨a1, n1, c1, e1, s1⟩ := hato k y hy
          have hgd : os.getD k [] = y := by simp [List.getD, hy]
          have kN := Lib.hid (spec_OrdNatural ak' a1 m' ck' n1 c1 s' y wr (Sl.of_own hrow') s1)
          unfold OrdOkPost at kN
          have hnext : ordN (stackO h os k ++ List.replicate (j + 1) (os.getD k [])) = addO (some s') y := by
            rw [List.replicate_succ', ← List.append_assoc, ordN_snoc, HR'.out.1, hgd]
          obtain ⟨rest, hrest⟩ := stackO_pre h os hlt (j := j + 1) (by rw [Hx.out]; push_cast; omega)
          have Hbel' := Lib.hid hbel'
          obtain ⟨q, hq⟩ : ∃ q, q = T.natOk s' y := ⟨_, rfl⟩
          obtain ⟨u, hu⟩ : ∃ u, u = T.natRow s' y := ⟨_, rfl⟩
          rw [← hq, ← hu] at kN
          cases q with
          | true =>
            have Hnx := Lib.hid (show ordN (stackO h os k ++ List.replicate (j + 1) (os.getD k [])) = some u by rw [hnext, addO_yes hq.symm, ← hu])
            clear hy hato s1 hgd hnext hrest hq hu hgj hrow' hbel'
            go_wp2_with fail
            refine (kN.out).mono ?_
            rintro ee w4 ⟨aR, cR, rfl, hoR, hb4⟩
            have HoR := Lib.hid (Joins.ownsRow_le hoR Hbel'.out.size)
            have Hb4 := Lib.hid (Hbel'.out.trans (hb4.mono Hbel'.out.size))
            clear hoR hb4
            go_wp2_with fail
            go_roundg (gk - 1)
            case measure => have := Hgj.out; omega
            case rel => exact ⟨j + 1, u.length, u, aR, cR, by have := Hgj.out; omega, by go_num, rfl, Lib.hid ⟨Hnx.out, rfl⟩, HoR.out, Hb4.out⟩
          | false =>
            have hn : ordN (stackO h os 3) = none := by rw [hrest]; exact ordN_fail (by rw [hnext]; exact addO_no hq.symm)
            have hrN : r = [] := by rw [Hr.out, hn]; rfl
            subst hrN
            clear hy hato s1 hgd hnext hrest hq hu hgj hrow' hbel' hn
            go_wp2_with fail
            refine (kN.out).mono ?_
            rintro ee w4 ⟨aR, cR, rfl, hoR, hb4⟩
            have Hb4 := Lib.hid (Hbel'.out.trans (hb4.mono Hbel'.out.size))
            clear hoR hb4
            go_wp2_with fail
            go_ret
            exact ⟨_, 0, rfl, World.ownsRow_lit w4 #[] 0 (by have := Hb4.out.size; omega) (by simp [maxLen]) rfl, Hb4.out.alloc (by have := Hb4.out.size; omega) _⟩
        · obtain rfl : j = X := by omega
          have HR2 := Lib.hid (show ordN (stackO h os (k + 1)) = some s' ∧ m' = s'.length by
            have h1 := HR'.out
            rw [stackO, Hx.out, Int.toNat_natCast]
            exact h1)
          have Hrow' := Lib.hid hrow'
          have Hbel' := Lib.hid hbel'
          clear hgj hrow' hbel'
          go_wp2_with fail
          go_roundg (GK - 1)
          case measure => have h1 := Hgk.out; have h2 := HGK.out; omega
          case rel => exact ⟨k + 1, m', s', ak', ck', by have := Hgk.out; omega, by go_num, rfl, HR2.out, Hrow'.out, Hbel'.out⟩
    · obtain rfl : k = 3 := by omega
      obtain ⟨hR1, hR2⟩ := HR.out
      have hrs : r = s := by rw [Hr.out, hR1]; rfl
      subst hR2 hrs
      have Hrow := Lib.hid hrow
      have Hbel := Lib.hid hbel
      clear hR1 hrow hbel
      go_wp2_with fail
      go_ret
      exact ⟨ak, ck, rfl, Hrow.out, Hbel.out⟩

set_option maxHeartbeats 4000000 in
theorem spec_HeapsOrd (a0 : Option Addr) (n0 c0 : Nat) (h : List Int) (ao : Option Addr) (n c : Nat) (os : List (List Int)) (w : World) (hb : n ≤ 1048576) (h0 : Sl w a0 n0 c0 h) (hS : SlR w ao n c os) :
    Calls Try.prog 33 #[.slice a0 n0 c0, .slice ao n c] w (TdPost w (hordR h os) (hordB h os)) := by
  have kH := Lib.hid (spec_HeapsValid a0 n0 c0 h w h0)
  have H0 := Lib.hid h0
  have HS := Lib.hid hS
  clear h0 hS
  rcases list_tf 40 h with hh | hh
  · rw [hh] at kH
    obtain rfl : n0 = 3 := by rw [← H0.out.1]; exact (listB_true.1 hh).1
    by_cases hn3 : n = 3
    · subst hn3
      obtain ⟨r, hr⟩ : ∃ r, r = hordR h os := ⟨_, rfl⟩
      obtain ⟨o, ho⟩ : ∃ o, o = hordB h os := ⟨_, rfl⟩
      rw [← hr, ← ho]
      have Hr := Lib.hid hr
      have Ho := Lib.hid ho
      have Hh := Lib.hid hh
      clear hr ho hh
      go_enter Try.func33, Try.ntmps33
      go_wp2_with fail
      refine (kH.out).mono ?_
      rintro ee wx ⟨rfl, rfl⟩
      go_wp2_with fail
      go_loopg [6] 3 (fun gk i wr => ∃ (k : Nat), gk + k = 3 ∧ i = .int .i64 k ∧ Hid (∀ j x, j < k → os[j]? = some x → T.vldB x = true) ∧ Below w.heap.size w wr)
      case atStart => exact ⟨0, rfl, rfl, fun j t hj => by omega, Below.refl _ _⟩
      case round =>
        obtain ⟨k, hgk, rfl, HE, hbel⟩ := hrel
        have Hgk := Lib.hid hgk
        have hk : k ≤ 3 := by omega
        clear hgk
        by_cases hlt : k < 3
        · obtain ⟨x, hx⟩ : ∃ x, os[k]? = some x := ⟨os[k]'(by rw [HS.out.1]; exact hlt), List.getElem?_eq_getElem _⟩
          obtain ⟨b, off, rfl, hat⟩ := (HS.out.below hbel).2.2.2 (by omega)
          obtain ⟨a1, n1, c1, e1, s1⟩ := hat k x hx
          have kV := Lib.hid (spec_OrdValid a1 n1 c1 x wr s1)
          have Hbel := Lib.hid hbel
          rcases vld_tf x with hv | hv
          · rw [hv] at kV
            have HV := Lib.hid hv
            have Hx := Lib.hid hx
            clear hx s1 hat hv hbel
            go_wp2_with fail
            refine (kV.out).mono ?_
            rintro ee w2 ⟨rfl, hb2⟩
            have Hb2 := Lib.hid (Hbel.out.trans (hb2.mono Hbel.out.size))
            clear hb2
            go_wp2_with fail
            go_roundg (gk - 1)
            case measure => have := Hgk.out; omega
            case rel =>
              refine ⟨k + 1, by have := Hgk.out; omega, by go_num, fun j x' hj hx' => ?_, Hb2.out⟩
              by_cases hjk : j = k
              · subst hjk
                have h9 := Hx.out.symm.trans hx'
                cases h9
                exact HV.out
              · exact HE.out j x' (by omega) hx'
          · rw [hv] at kV
            have hoF : o = false := by rw [Ho.out]; exact hordB_w (worthB_at hx hv)
            have hrN : r = [] := by rw [Hr.out]; exact hordR_no (by rw [← Ho.out]; exact hoF)
            subst hoF hrN
            clear hx s1 hat hv hbel
            go_wp2_with fail
            refine (kV.out).mono ?_
            rintro ee w2 ⟨rfl, hb2⟩
            have Hb2 := Lib.hid (Hbel.out.trans (hb2.mono Hbel.out.size))
            clear hb2
            go_wp2_with fail
            go_ret2
            exact td_lit Hb2.out
        · obtain rfl : k = 3 := by omega
          have hw := worthB_all HS.out.1 (fun j x hj => HE.out j x (by rw [← HS.out.1]; exact (List.getElem?_eq_some_iff.1 hj).1) hj)
          have kO := Lib.hid (l8Ord_any a0 c0 h ao c os 40 (by decide) wr Hh.out (H0.out.below hbel) (HS.out.below hbel))
          have Hbel := Lib.hid hbel
          cases hN : ordN (stackO h os 3) with
          | none =>
            have hoF : o = false := by rw [Ho.out]; exact hordB_n hN
            have hrN : r = [] := by rw [Hr.out]; exact hordR_no (by rw [← Ho.out]; exact hoF)
            rw [hN] at kO
            subst hoF hrN
            clear hN hw hbel
            go_wp2_with fail
            refine (kO.out).mono ?_
            rintro ee w2 ⟨a2, c2, rfl, ho2, hb2⟩
            have HF := Lib.hid (show TdPost w [] false (.returned (.tuple #[.slice a2 0 c2, .bool false])) w2 from ⟨a2, c2, rfl, Joins.ownsRow_le ho2 Hbel.out.size, Hbel.out.trans (hb2.mono Hbel.out.size)⟩)
            clear ho2 hb2
            go_wp2_with fail
            go_ret2
            exact HF.out
          | some s =>
            obtain ⟨e1, e2⟩ := hordB_yes Hh.out hw hN
            rw [← Ho.out] at e1
            rw [← Hr.out] at e2
            have hs1 := (vld_len (ordN_vld hN)).1
            rw [hN] at kO
            subst e1 e2
            have kO' : Hid (Calls Try.prog 54 #[.slice a0 3 c0, .slice ao 3 c] wr fun e w' => ∃ a c', e = .returned (.slice a r.length c') ∧ w'.ownsRow wr.heap.size 3 1 (.slice a r.length c') r.length (ints r) ∧ Below wr.heap.size wr w') := kO
            have hs2 : 0 < r.length := by omega
            clear hN hw hbel kO
            go_wp2_with fail
            refine (kO'.out).mono ?_
            rintro ee w2 ⟨a2, c2, rfl, ho2, hb2⟩
            have HF := Lib.hid (show TdPost w r true (.returned (.tuple #[.slice a2 r.length c2, .bool true])) w2 from ⟨a2, c2, rfl, Joins.ownsRow_le ho2 Hbel.out.size, Hbel.out.trans (hb2.mono Hbel.out.size)⟩)
            clear ho2 hb2
            go_wp2_with fail
            go_ret2
            exact HF.out
    · have hw : hordB h os = false := hordB_w (worthB_len (by rw [HS.out.1]; exact hn3))
      rw [hw, hordR_no hw]
      have hne : ((n : Int) != 3) = true := by simp; omega
      clear hw
      go_enter Try.func33, Try.ntmps33
      go_wp2_with fail
      refine (kH.out).mono ?_
      rintro ee wx ⟨rfl, rfl⟩
      go_wp2_with fail
      go_ret2
      exact td_lit (Below.refl _ _)
  · rw [hh] at kH
    rw [hordB_h hh, hordR_no (hordB_h hh)]
    go_enter Try.func33, Try.ntmps33
    go_wp2_with fail
    refine (kH.out).mono ?_
    rintro ee wx ⟨rfl, rfl⟩
    go_wp2_with fail
    go_ret2
    exact td_lit (Below.refl _ _)

end Go.Proofs.Ytjkkopjmpmbapaa

/- TrOX -/
/- HeapsOrd of both. -/
namespace Go.Proofs.Ytjkkopjmpmbapaa
set_option maxRecDepth 100000
end Go.Proofs.Ytjkkopjmpmbapaa

/- TrP -/
/- TradesEnd: without memory; the program's and the model's. -/
namespace Go.Proofs.Ytjkkopjmpmbapaa
set_option maxRecDepth 100000
open Go.RowKit

/-- What a rule gives is less than what it takes. -/
noncomputable def lessB (os : List (List Int)) (t : Tr) : Bool := decide (T.cmpRow (hordR t.give os) (hordR t.take os) = -1)
noncomputable def endB (ts : List Tr) (os : List (List Int)) : Bool := tradesB ts && (worthB os && ts.all (lessB os))
theorem endB_true {ts : List Tr} {os : List (List Int)} : endB ts os = true ↔ tradesB ts = true ∧ worthB os = true ∧ ∀ t ∈ ts, lessB os t = true := by
  rw [endB, Bool.and_eq_true, Bool.and_eq_true, List.all_eq_true]
theorem endB_t {ts : List Tr} {os : List (List Int)} (h : tradesB ts = false) : endB ts os = false := by rw [endB, h]; rfl
theorem endB_w {ts : List Tr} {os : List (List Int)} (h : worthB os = false) : endB ts os = false := by rw [endB, h, Bool.false_and, Bool.and_false]
theorem endB_at {ts : List Tr} {os : List (List Int)} {k : Nat} {t : Tr} (ht : ts[k]? = some t) (h : lessB os t = false) : endB ts os = false := by
  rw [Bool.eq_false_iff]
  intro h1
  have := (endB_true.1 h1).2.2 t (List.mem_of_getElem? ht)
  rw [h] at this
  cases this
theorem endB_all {ts : List Tr} {os : List (List Int)} (h1 : tradesB ts = true) (h2 : worthB os = true) (h : ∀ (k : Nat) (t : Tr), ts[k]? = some t → lessB os t = true) : endB ts os = true := by
  rw [endB_true]
  refine ⟨h1, h2, fun t ht => ?_⟩
  obtain ⟨k, hk⟩ := List.mem_iff_getElem?.1 ht
  exact h k t hk
theorem less_tf (os : List (List Int)) (t : Tr) : lessB os t = true ∨ lessB os t = false := by cases lessB os t <;> simp
theorem hordR_vld {h : List Int} {os : List (List Int)} (hb : hordB h os = true) : T.vldB (hordR h os) = true := by
  have hb' := hb
  simp only [hordB, Bool.and_eq_true] at hb
  obtain ⟨r, hr⟩ := Option.isSome_iff_exists.1 hb.2.2
  rw [hordR, if_pos hb', hr]
  exact ordN_vld hr
theorem vldB_none : T.vldB [] = false := by
  rw [Bool.eq_false_iff]
  intro h
  have := (vld_len h).1
  simp at this
theorem less_bad {os : List (List Int)} {t : Tr} (h : hordB t.give os = false ∨ hordB t.take os = false) : lessB os t = false := by
  rw [lessB, decide_eq_false_iff_not]
  have : T.cmpRow (hordR t.give os) (hordR t.take os) = -2 := T.cmpRow_bad (by
    rcases h with h | h
    · left; rw [hordR_no h]; exact vldB_none
    · right; rw [hordR_no h]; exact vldB_none)
  rw [this]
  decide
theorem hord_tf (h : List Int) (os : List (List Int)) : hordB h os = true ∨ hordB h os = false := by cases hordB h os <;> simp
theorem hordB_zero (os : List (List Int)) : hordB [0, 0, 0] os = worthB os := by
  have : ordN (stackO [0, 0, 0] os 3) = some [0] := rfl
  rw [hordB, this, show listB 40 [0, 0, 0] = true by decide]
  cases worthB os <;> rfl

set_option maxHeartbeats 4000000 in
theorem impl_TradesEnd (a0 : Option Addr) (n0 c0 : Nat) (ts : List Tr) (ao : Option Addr) (n c : Nat) (os : List (List Int)) (w : World) (hb0 : n0 ≤ 1048576) (hbl : ∀ t ∈ ts, t.take.length ≤ 1048576 ∧ t.give.length ≤ 1048576) (hb : n ≤ 1048576) (h0 : SlT w a0 n0 c0 ts) (hS : SlR w ao n c os) :
    Calls Try.prog 39 #[.slice a0 n0 c0, .slice ao n c] w fun e w' => e = .returned (.bool (endB ts os)) ∧ Below w.heap.size w w' := by
  have kT := Lib.hid (impl_TradesValid a0 n0 c0 ts w hb0 hbl h0)
  have H0 := Lib.hid h0
  have HS := Lib.hid hS
  have HBL := Lib.hid hbl
  clear h0 hS hbl
  rcases tradesB_tf ts with ht | ht
  · rw [ht] at kT
    obtain ⟨o, ho⟩ : ∃ o, o = endB ts os := ⟨_, rfl⟩
    rw [← ho]
    have Ho := Lib.hid ho
    have Ht := Lib.hid ht
    clear ho ht
    go_enter Try.func39, Try.ntmps39
    go_wp2_with fail
    refine (kT.out).mono ?_
    rintro ee w1 ⟨rfl, hb1⟩
    have kW := Lib.hid (areWorths_any ao n c os w1 hb (HS.out.below hb1))
    have Hb1 := Lib.hid hb1
    clear hb1
    rcases worth_tf os with hw | hw
    · rw [hw] at kW
      have Hw := Lib.hid hw
      clear hw
      go_wp2_with fail
      refine (kW.out).mono ?_
      rintro ee w2 ⟨rfl, hb2⟩
      have Hb2 := Lib.hid (Hb1.out.trans (hb2.mono Hb1.out.size))
      clear hb2
      go_wp2_with fail
      go_loopg [21] n0 (fun gk i wr => ∃ (k : Nat), gk + k = n0 ∧ i = .int .i64 k ∧ Hid (∀ j t, j < k → ts[j]? = some t → lessB os t = true) ∧ Below w.heap.size w wr)
      case atStart => exact ⟨0, rfl, rfl, fun j t hj => by omega, Hb2.out⟩
      case round =>
        obtain ⟨k, hgk, rfl, HE, hbel⟩ := hrel
        have Hgk := Lib.hid hgk
        have hk : k ≤ n0 := by omega
        clear hgk
        by_cases hlt : k < n0
        · obtain ⟨t, ht⟩ : ∃ t, ts[k]? = some t := ⟨ts[k]'(by rw [H0.out.1]; exact hlt), List.getElem?_eq_getElem _⟩
          obtain ⟨b, off, rfl, hat⟩ := (H0.out.below hbel).2.2.2 (by omega)
          obtain ⟨a1, n1, c1, a2, n2, c2, e1, e2, s1, s2⟩ := hat k t ht
          have hm := HBL.out t (List.mem_of_getElem? ht)
          obtain ⟨W, hW, hB, hbW, hsW⟩ := box_two wr (.slice a1 n1 c1) (.slice a2 n2 c2) 27
          have kG := Lib.hid (impl_HeapsOrd a2 n2 c2 t.give ao n c os W (by rw [← s2.1]; omega) hb (s2.below hbW) ((HS.out.below hbel).below hbW))
          unfold TdPost at kG
          obtain ⟨rg, hrg⟩ : ∃ r, r = hordR t.give os := ⟨_, rfl⟩
          obtain ⟨og, hog⟩ : ∃ o, o = hordB t.give os := ⟨_, rfl⟩
          rw [← hrg, ← hog] at kG
          have Hrg := Lib.hid hrg
          have S1 := Lib.hid (s1.below hbW)
          have Hm1 := Lib.hid (show n1 ≤ 1048576 by rw [← s1.1]; exact hm.1)
          have HB := Lib.hid hB
          have Hs := Lib.hid (show wr.heap.size < W.heap.size by omega)
          have Hbel := Lib.hid (hbel.trans (hbW.mono hbel.size))
          have Ht' := Lib.hid ht
          have y1 := hB.c1
          have y0 := hB.c0
          clear ht s1 s2 hat hbel hm hB hbW hsW hrg hog
          go_wp2_with fail
          refine (kG.out).mono ?_
          rintro ee w3 ⟨aG, cG, rfl, hoG, hb3⟩
          have kK := Lib.hid (impl_HeapsOrd a1 n1 c1 t.take ao n c os w3 Hm1.out hb (S1.out.below hb3) (HS.out.below (Hbel.out.trans (hb3.mono Hbel.out.size))))
          unfold TdPost at kK
          obtain ⟨rt, hrt⟩ : ∃ r, r = hordR t.take os := ⟨_, rfl⟩
          obtain ⟨ot, hot⟩ : ∃ o, o = hordB t.take os := ⟨_, rfl⟩
          rw [← hrt, ← hot] at kK
          have Hrt := Lib.hid hrt
          have Hb3 := Lib.hid (Hbel.out.trans (hb3.mono Hbel.out.size))
          have HG3 := Lib.hid (Sl.of_own hoG)
          have HB3 := Lib.hid (HB.out.below hb3 Hs.out)
          have z0 := HB3.out.c0
          clear hoG hb3 hrt hot y0 y1
          go_wp2_with fail
          refine (kK.out).mono ?_
          rintro ee w4 ⟨aT, cT, rfl, hoT, hb4⟩
          have kC := Lib.hid (impl_OrdCompare aG aT rg.length cG rt.length cT rg rt w4 (HG3.out.below hb4) (Sl.of_own hoT))
          have Hb4 := Lib.hid (Hb3.out.trans (hb4.mono Hb3.out.size))
          obtain ⟨cv, hcv⟩ : ∃ x, x = T.cmpRow rg rt := ⟨_, rfl⟩
          rw [← hcv] at kC
          have Hcv := Lib.hid (show cv = T.cmpRow (hordR t.give os) (hordR t.take os) by rw [hcv, Hrg.out, Hrt.out])
          clear hoT hb4 z0 hcv
          by_cases hcm : cv = -1
          · have HL := Lib.hid (show lessB os t = true by rw [lessB, ← Hcv.out, hcm]; rfl)
            have hcb : (cv != -1) = false := by simp [hcm]
            subst hcm
            go_wp2_with fail
            refine (kC.out).mono ?_
            rintro ee w5 ⟨rfl, hb5⟩
            have Hb5 := Lib.hid (Hb4.out.trans (hb5.mono Hb4.out.size))
            clear hb5
            go_wp2_with fail
            go_roundg (gk - 1)
            case measure => have := Hgk.out; omega
            case rel =>
              refine ⟨k + 1, by have := Hgk.out; omega, by go_num, fun j t' hj ht' => ?_, Hb5.out⟩
              by_cases hjk : j = k
              · subst hjk
                have h9 := Ht'.out.symm.trans ht'
                cases h9
                exact HL.out
              · exact HE.out j t' (by omega) ht'
          · have hoF : o = false := by rw [Ho.out]; exact endB_at Ht'.out (by rw [lessB, ← Hcv.out]; exact decide_eq_false hcm)
            have hcb : (cv != -1) = true := by simp [hcm]
            subst hoF
            clear hcm
            go_wp2_with fail
            refine (kC.out).mono ?_
            rintro ee w5 ⟨rfl, hb5⟩
            have Hb5 := Lib.hid (Hb4.out.trans (hb5.mono Hb4.out.size))
            clear hb5
            go_wp2_with fail
            go_ret
            exact ⟨rfl, Hb5.out⟩
        · obtain rfl : k = n0 := by omega
          have hoT : o = true := by rw [Ho.out]; exact endB_all Ht.out Hw.out (fun j t hj => HE.out j t (by rw [← H0.out.1]; exact (List.getElem?_eq_some_iff.1 hj).1) hj)
          have Hbel := Lib.hid hbel
          subst hoT
          clear hbel
          go_wp2_with fail
          go_ret
          exact ⟨rfl, Hbel.out⟩
    · rw [hw] at kW
      have hoF : o = false := by rw [Ho.out]; exact endB_w hw
      subst hoF
      clear hw
      go_wp2_with fail
      refine (kW.out).mono ?_
      rintro ee w2 ⟨rfl, hb2⟩
      have Hb2 := Lib.hid (Hb1.out.trans (hb2.mono Hb1.out.size))
      clear hb2
      go_wp2_with fail
      go_ret
      exact ⟨rfl, Hb2.out⟩
  · rw [ht] at kT
    rw [endB_t ht]
    clear ht
    go_enter Try.func39, Try.ntmps39
    go_wp2_with fail
    refine (kT.out).mono ?_
    rintro ee w1 ⟨rfl, hb1⟩
    have Hb1 := Lib.hid hb1
    clear hb1
    go_wp2_with fail
    go_ret
    exact ⟨rfl, Hb1.out⟩

end Go.Proofs.Ytjkkopjmpmbapaa

/- TrPS -/
/- TradesEnd of the model. -/
namespace Go.Proofs.Ytjkkopjmpmbapaa
set_option maxRecDepth 100000
open Go.RowKit

theorem l1Compare_row (a1 a2 : Option Addr) (n1 c1 n2 c2 : Nat) (xs ys : List Int) (w : World) (hx : Sl w a1 n1 c1 xs) (hy : Sl w a2 n2 c2 ys) (h1 : T.vldB xs = true) (h2 : T.vldB ys = true) :
    Calls Try.prog 58 #[.slice a1 n1 c1, .slice a2 n2 c2] w fun e w' => e = .returned (.int .i64 (T.cmpRow xs ys)) ∧ Below w.heap.size w w' := by
  rw [T.cmpRow_val h1 h2]
  obtain ⟨b1, o1, s, rfl, rfl, hs, hos, hat1, hn1, hl1, hp1, hc1, hm1⟩ := hx.valid h1
  obtain ⟨b2, o2, t, rfl, rfl, ht, hot, hat2, hn2, hl2, hp2, hc2, hm2⟩ := hy.valid h2
  rw [hos, hot]
  exact l1Compare_any (s.body.length + 1) b1 o1 c1 b2 o2 c2 n1 n2 s t w (by omega) hn1 hn2 (by omega) (by omega) hc1 hm1 hc2 hm2 hat1 hat2

theorem cmp_ge {xs ys : List Int} (h1 : T.vldB xs = true) (h2 : T.vldB ys = true) : (0 ≤ T.cmpRow xs ys) ↔ T.cmpRow xs ys ≠ -1 := by
  rw [T.cmpRow_val h1 h2]
  rcases T.cmp_vals (T.of xs) (T.of ys) with h | h | h <;> omega

set_option maxHeartbeats 4000000 in
theorem spec_TradesEnd (a0 : Option Addr) (n0 c0 : Nat) (ts : List Tr) (ao : Option Addr) (n c : Nat) (os : List (List Int)) (w : World) (hb0 : n0 ≤ 1048576) (hb : n ≤ 1048576) (h0 : SlT w a0 n0 c0 ts) (hS : SlR w ao n c os) :
    Calls Try.prog 38 #[.slice a0 n0 c0, .slice ao n c] w fun e w' => e = .returned (.bool (endB ts os)) ∧ Below w.heap.size w w' := by
  obtain ⟨i0, hi, hz0, hz1, hz2⟩ := info_parts info_int
  have H0 := Lib.hid h0
  have HS := Lib.hid hS
  obtain ⟨o, ho⟩ : ∃ o, o = endB ts os := ⟨_, rfl⟩
  rw [← ho]
  have Ho := Lib.hid ho
  obtain ⟨v, hv⟩ : ∃ v, v = tradesB ts := ⟨_, rfl⟩
  have Hv := Lib.hid hv
  clear h0 hS ho hv
  go_enter Try.func38, Try.ntmps38
  go_wp2_with fail
  go_loopg [5] n0 (fun gk i wr => ∃ (k : Nat), gk + k = n0 ∧ i = .int .i64 k ∧ (v = false → k = 0) ∧ Hid (∀ j t, j < k → ts[j]? = some t → lessB os t = true) ∧ Below w.heap.size w wr)
  case atStart => exact ⟨0, rfl, rfl, fun _ => rfl, fun j t hj => by omega, Below.refl _ _⟩
  case round =>
    obtain ⟨k, hgk, rfl, hv0, HE, hbel⟩ := hrel
    have Hgk := Lib.hid hgk
    have Hv0 := Lib.hid hv0
    have hk : k ≤ n0 := by omega
    have Hbel := Lib.hid hbel
    clear hgk hv0 hbel
    by_cases hlt : k < n0 ∧ v = true
    · obtain ⟨hlt, hvt⟩ := hlt
      subst hvt
      have kT := Lib.hid (spec_TradesValid a0 n0 c0 ts wr hb0 (H0.out.below Hbel.out))
      rw [← Hv.out] at kT
      obtain ⟨t, ht⟩ : ∃ t, ts[k]? = some t := ⟨ts[k]'(by rw [H0.out.1]; exact hlt), List.getElem?_eq_getElem _⟩
      have Ht := Lib.hid ht
      clear ht
      go_wp2_with fail
      refine (kT.out).mono ?_
      rintro ee w1 ⟨rfl, hb1⟩
      have Hb1 := Lib.hid (Hbel.out.trans (hb1.mono Hbel.out.size))
      obtain ⟨b, off, rfl, hat⟩ := (H0.out.below Hb1.out).2.2.2 (by omega)
      obtain ⟨a1, n1, c1, a2, n2, c2, e1, e2, s1, s2⟩ := hat k t Ht.out
      have kK := Lib.hid (spec_HeapsOrd a1 n1 c1 t.take ao n c os w1 hb s1 (HS.out.below Hb1.out))
      unfold TdPost at kK
      obtain ⟨rt, hrt⟩ : ∃ r, r = hordR t.take os := ⟨_, rfl⟩
      obtain ⟨ot, hot⟩ : ∃ o, o = hordB t.take os := ⟨_, rfl⟩
      rw [← hrt, ← hot] at kK
      have Hrt := Lib.hid hrt
      have Hot := Lib.hid hot
      have S2 := Lib.hid s2
      have E2 := Lib.hid e2
      clear hb1 hat s1 s2 hrt hot
      go_wp2_with fail
      refine (kK.out).mono ?_
      rintro ee w3 ⟨aT, cT, rfl, hoT, hb3⟩
      have Hb3 := Lib.hid (Hb1.out.trans (hb3.mono Hb1.out.size))
      have kG := Lib.hid (spec_HeapsOrd a2 n2 c2 t.give ao n c os w3 hb (S2.out.below hb3) (HS.out.below Hb3.out))
      unfold TdPost at kG
      obtain ⟨rg, hrg⟩ : ∃ r, r = hordR t.give os := ⟨_, rfl⟩
      obtain ⟨og, hog⟩ : ∃ o, o = hordB t.give os := ⟨_, rfl⟩
      rw [← hrg, ← hog] at kG
      have Hrg := Lib.hid hrg
      have Hog := Lib.hid hog
      have HT3 := Lib.hid (Sl.of_own hoT)
      have z1 := (hb3.cell (cell_in E2.out)).trans E2.out
      clear hoT hb3 hrg hog e1 e2
      go_wp2_with fail
      refine (kG.out).mono ?_
      rintro ee w4 ⟨aG, cG, rfl, hoG, hb4⟩
      have Hb4 := Lib.hid (Hb3.out.trans (hb4.mono Hb3.out.size))
      have HT4 := Lib.hid (HT3.out.below hb4)
      have HG4 := Lib.hid (Sl.of_own hoG)
      clear hoG hb4 z1
      cases ot with
      | false =>
        have hoF : o = false := by rw [Ho.out]; exact endB_at Ht.out (less_bad (.inr Hot.out.symm))
        subst hoF
        go_wp2_with fail
        go_ret
        exact ⟨rfl, Hb4.out⟩
      | true =>
        cases og with
        | false =>
          have hoF : o = false := by rw [Ho.out]; exact endB_at Ht.out (less_bad (.inl Hog.out.symm))
          subst hoF
          go_wp2_with fail
          go_ret
          exact ⟨rfl, Hb4.out⟩
        | true =>
          have v1 : T.vldB rg = true := by rw [Hrg.out]; exact hordR_vld Hog.out.symm
          have v2 : T.vldB rt = true := by rw [Hrt.out]; exact hordR_vld Hot.out.symm
          have kC := Lib.hid (l1Compare_row aG aT rg.length cG rt.length cT rg rt w4 HG4.out HT4.out v1 v2)
          have hge := cmp_ge v1 v2
          obtain ⟨cv, hcv⟩ : ∃ x, x = T.cmpRow rg rt := ⟨_, rfl⟩
          rw [← hcv] at kC hge
          have Hcv := Lib.hid (show cv = T.cmpRow (hordR t.give os) (hordR t.take os) by rw [hcv, Hrg.out, Hrt.out])
          have Hge := Lib.hid hge
          clear v1 v2 hcv hge
          by_cases hcm : cv = -1
          · have HL := Lib.hid (show lessB os t = true by rw [lessB, ← Hcv.out, hcm]; rfl)
            subst hcm
            go_wp2_with fail
            refine (kC.out).mono ?_
            rintro ee w5 ⟨rfl, hb5⟩
            have Hb5 := Lib.hid (Hb4.out.trans (hb5.mono Hb4.out.size))
            clear hb5
            go_wp2_with fail
            go_roundg (gk - 1)
            case measure => have := Hgk.out; omega
            case rel =>
              refine ⟨k + 1, by have := Hgk.out; omega, by go_num, (fun h => by cases h), fun j t' hj ht' => ?_, Hb5.out⟩
              by_cases hjk : j = k
              · subst hjk
                have h9 := Ht.out.symm.trans ht'
                cases h9
                exact HL.out
              · exact HE.out j t' (by omega) ht'
          · have hoF : o = false := by rw [Ho.out]; exact endB_at Ht.out (by rw [lessB, ← Hcv.out]; exact decide_eq_false hcm)
            have hcb : 0 ≤ cv := Hge.out.2 hcm
            subst hoF
            clear hcm
            go_wp2_with fail
            refine (kC.out).mono ?_
            rintro ee w5 ⟨rfl, hb5⟩
            have Hb5 := Lib.hid (Hb4.out.trans (hb5.mono Hb4.out.size))
            clear hb5
            go_wp2_with fail
            go_ret
            exact ⟨rfl, Hb5.out⟩
    · have hfin : o = (worthB os && v) := by
        rw [Ho.out, Hv.out]
        cases hvv : tradesB ts with
        | false => rw [endB_t hvv, Bool.and_false]
        | true =>
          have hkn : k = n0 := by
            by_cases hkn : k < n0
            · exact absurd ⟨hkn, by rw [Hv.out]; exact hvv⟩ hlt
            · omega
          cases hww : worthB os with
          | false => exact endB_w hww
          | true =>
            exact endB_all hvv hww (fun j t hj => HE.out j t (by rw [hkn, ← H0.out.1]; exact (List.getElem?_eq_some_iff.1 hj).1) hj)
      have Hfin := Lib.hid hfin
      have hmake : ∀ wx, Below w.heap.size w wx → Hid (∀ wm, wm.ownsRow wx.heap.size 3 1 (.slice (some ⟨wx.heap.size, 0, none⟩) 3 3) 3 (ints [0, 0, 0]) → Below wx.heap.size wx wm → Calls Try.prog 33 #[.slice (some ⟨wx.heap.size, 0, none⟩) 3 3, .slice ao n c] wm fun e w' => (∃ a c' r, e = .returned (.tuple #[.slice a r c', .bool (worthB os)])) ∧ Below w.heap.size w w') := by
        intro wx hbx
        refine Lib.hid (fun wm hom hbm => ?_)
        have hbm' := hbx.trans (hbm.mono hbx.size)
        refine (spec_HeapsOrd (some ⟨wx.heap.size, 0, none⟩) 3 3 [0, 0, 0] ao n c os wm hb (Sl.of_own hom) (HS.out.below hbm')).mono ?_
        rintro e w' ⟨a, c', rfl, _, hb'⟩
        rw [hordB_zero]
        exact ⟨⟨a, c', _, rfl⟩, hbm'.trans (hb'.mono hbm'.size)⟩
      obtain ⟨wb, hwb⟩ : ∃ x, x = worthB os := ⟨_, rfl⟩
      rw [← hwb] at hmake hfin
      have Hmk := Lib.hid hmake
      have hO : o = (wb && v) := hfin
      clear hfin hmake hwb
      subst hO
      by_cases hkn : k < n0
      · obtain rfl : v = false := by cases v with
          | false => rfl
          | true => exact absurd ⟨hkn, rfl⟩ hlt
        have kT := Lib.hid (spec_TradesValid a0 n0 c0 ts wr hb0 (H0.out.below Hbel.out))
        rw [← Hv.out] at kT
        clear hlt
        go_wp2_with fail
        refine (kT.out).mono ?_
        rintro ee w1 ⟨rfl, hb1⟩
        have Hb1 := Lib.hid (Hbel.out.trans (hb1.mono Hbel.out.size))
        clear hb1
        go_wp2_with (first
          | (at_make; refine wpList_make_full _ rfl (.const (.int .i64 3)) (.const (.int .i64 3)) 22 rfl w1.heap.size 3 i0 _ 1 Try.underlying22 hi hz0 hz1 .i64 .i64 _ _ 3 rfl rfl rfl rfl (by rw [hz2]; omega) (by unfold maxLen; omega) (Nat.le_refl _) ?_; intro wm hown hgm))
        have hbm := (Below.refl w1.heap.size w1).grown hgm (Nat.le_refl _) (fun k hk => by cases hk)
        have hom : wm.ownsRow w1.heap.size 3 1 (.slice (some ⟨w1.heap.size, 0, none⟩) 3 3) 3 (ints [0, 0, 0]) := by
          rw [show 3 * 1 = 3 from rfl, show (Value.int .i64 0).cells = #[Value.int .i64 0] from rfl, toList_madeCells_one] at hown
          exact hown
        have kZ := Lib.hid ((Hmk.out w1 Hb1.out).out wm hom hbm)
        clear hown hgm hbm hom
        go_wp2_with fail
        refine (kZ.out).mono ?_
        rintro ee wz ⟨⟨az, cz, rz, rfl⟩, hbz⟩
        have Hbz := Lib.hid hbz
        have kV := Lib.hid (spec_TradesValid a0 n0 c0 ts wz hb0 (H0.out.below hbz))
        rw [← Hv.out] at kV
        clear hbz
        cases wb with
        | false =>
          go_wp2_with fail
          go_ret
          exact ⟨rfl, Hbz.out⟩
        | true =>
          go_wp2_with fail
          refine (kV.out).mono ?_
          rintro ee wy ⟨rfl, hby⟩
          have Hby := Lib.hid (Hbz.out.trans (hby.mono Hbz.out.size))
          clear hby
          go_wp2_with fail
          go_ret
          exact ⟨rfl, Hby.out⟩
      · obtain rfl : k = n0 := by omega
        clear hlt hkn
        go_wp2_with (first
          | (at_make; refine wpList_make_full _ rfl (.const (.int .i64 3)) (.const (.int .i64 3)) 22 rfl wr.heap.size 3 i0 _ 1 Try.underlying22 hi hz0 hz1 .i64 .i64 _ _ 3 rfl rfl rfl rfl (by rw [hz2]; omega) (by unfold maxLen; omega) (Nat.le_refl _) ?_; intro wm hown hgm))
        have hbm := (Below.refl wr.heap.size wr).grown hgm (Nat.le_refl _) (fun k hk => by cases hk)
        have hom : wm.ownsRow wr.heap.size 3 1 (.slice (some ⟨wr.heap.size, 0, none⟩) 3 3) 3 (ints [0, 0, 0]) := by
          rw [show 3 * 1 = 3 from rfl, show (Value.int .i64 0).cells = #[Value.int .i64 0] from rfl, toList_madeCells_one] at hown
          exact hown
        have kZ := Lib.hid ((Hmk.out wr Hbel.out).out wm hom hbm)
        clear hown hgm hbm hom
        go_wp2_with fail
        refine (kZ.out).mono ?_
        rintro ee wz ⟨⟨az, cz, rz, rfl⟩, hbz⟩
        have Hbz := Lib.hid hbz
        have kV := Lib.hid (spec_TradesValid a0 k c0 ts wz hb0 (H0.out.below hbz))
        rw [← Hv.out] at kV
        clear hbz
        cases wb with
        | false =>
          go_wp2_with fail
          go_ret
          exact ⟨rfl, Hbz.out⟩
        | true =>
          go_wp2_with fail
          refine (kV.out).mono ?_
          rintro ee wy ⟨rfl, hby⟩
          have Hby := Lib.hid (Hbz.out.trans (hby.mono Hbz.out.size))
          clear hby
          go_wp2_with fail
          go_ret
          exact ⟨rfl, Hby.out⟩

end Go.Proofs.Ytjkkopjmpmbapaa

/- LawETradesEnd -/
/- FnExactTradesEnd: the walk of the law. -/
namespace Go.Proofs.Ytjkkopjmpmbapaa
set_option maxRecDepth 100000
open Go.RowKit

set_option maxHeartbeats 4000000 in
theorem exactTradesEnd_walk (a0 : Option Addr) (n0 c0 : Nat) (x0 : List Tr) (a1 : Option Addr) (n1 c1 : Nat) (x1 : List (List Int)) (w : World) (h0 : SlT w a0 n0 c0 x0) (h1 : SlR w a1 n1 c1 x1) :
    Calls Try.prog 8 #[.slice a0 n0 c0, .slice a1 n1 c1] w fun e w' => e = .returned (.bool true) ∧ Below w.heap.size w w' := by
  have H0 := Lib.hid h0
  have H1 := Lib.hid h1
  clear h0 h1
  obtain ⟨r, hr⟩ : ∃ r, r = endB x0 x1 := ⟨_, rfl⟩
  go_enter Try.func8, Try.ntmps8
  have k1 := Lib.hid (szTradeS_any a0 n0 c0 x0 (1048576 : Int) w H0.out (by omega) (by omega))
  go_wp2_with fail
  refine (k1.out).mono ?_
  rintro ee w1 ⟨rfl, hb1⟩
  have Z1 := Lib.hid hb1.size
  have Hb1 := Lib.hid (hb1)
  clear hb1
  by_cases hs0 : ((n0 + szTs x0 : Nat) : Int) ≤ (1048576 : Int)
  · rw [szI_yes hs0]
    obtain ⟨z0, ez0⟩ : ∃ q, q = (1048576 : Int) - ((n0 + szTs x0 : Nat) : Int) := ⟨_, rfl⟩
    have hz0 : ¬ (z0 < 0) := by omega
    have hn0 : n0 ≤ 1048576 := by omega
    have hb_0 := Lib.hid (szTs_bl (show szTs x0 ≤ 1048576 by omega))
    have ht0 : szTs x0 ≤ 1048576 := by omega
    rw [← ez0]
    have hzm0 : z0 ≤ 1048576 := by omega
    clear ez0 hs0
    have k2 := Lib.hid (szIntSS_any a1 n1 c1 x1 z0 w1 (H1.out.below Hb1.out) (by omega) (by omega))
    go_wp2_with fail
    refine (k2.out).mono ?_
    rintro ee w2 ⟨rfl, hb2⟩
    have Z2 := Lib.hid hb2.size
    have Hb2 := Lib.hid (Hb1.out.trans (hb2.mono Hb1.out.size))
    clear hb2
    by_cases hs1 : ((n1 + szRs x1 : Nat) : Int) ≤ z0
    · rw [szI_yes hs1]
      obtain ⟨z1, ez1⟩ : ∃ q, q = z0 - ((n1 + szRs x1 : Nat) : Int) := ⟨_, rfl⟩
      have hz1 : ¬ (z1 < 0) := by omega
      have hn1 : n1 ≤ 1048576 := by omega
      have hb_1 := Lib.hid (szRs_bl (show szRs x1 ≤ 1048576 by omega))
      have ht1 : szRs x1 ≤ 1048576 := by omega
      rw [← ez1]
      have hzm1 : z1 ≤ 1048576 := by omega
      clear ez1 hs1
      have HT0 := Lib.hid ht0
      clear ht0
      have HT1 := Lib.hid ht1
      clear ht1
      have kS := Lib.hid (fun (A0 : Option Addr) (A1 : Option Addr) w (s0 : SlT w A0 n0 n0 x0) (s1 : SlR w A1 n1 n1 x1) => spec_TradesEnd A0 n0 n0 x0 A1 n1 n1 x1 w hn0 hn1 s0 s1)
      have kI := Lib.hid (fun (A0 : Option Addr) (A1 : Option Addr) w (s0 : SlT w A0 n0 n0 x0) (s1 : SlR w A1 n1 n1 x1) => impl_TradesEnd A0 n0 n0 x0 A1 n1 n1 x1 w hn0 hb_0.out hn1 s0 s1)
      rw [← hr] at kS kI
      clear hr
      have k3 := Lib.hid (toTradeS_any a0 n0 c0 x0 w2 hn0 hb_0.out (H0.out.below Hb2.out))
      go_wp2_with fail
      refine (k3.out).mono ?_
      rintro ee w3 ⟨v3, rfl, hq3, hb3⟩
      have Z3 := Lib.hid hb3.size
      have Hb3 := Lib.hid (Hb2.out.trans (hb3.mono Hb2.out.size))
      obtain ⟨g3, e3, _⟩ := hq3.parts
      subst e3
      have OX0_3 := Lib.hid hq3
      clear hq3 hb3
      have k4 := Lib.hid (toIntSS_any a1 n1 c1 x1 w3 hn1 hb_1.out (H1.out.below Hb3.out))
      go_wp2_with fail
      refine (k4.out).mono ?_
      rintro ee w4 ⟨v4, rfl, hq4, hb4⟩
      have Z4 := Lib.hid hb4.size
      have Hb4 := Lib.hid (Hb3.out.trans (hb4.mono Hb3.out.size))
      have OX0_4 := Lib.hid (TsCopy.below OX0_3.out hb4)
      obtain ⟨g4, e4, _⟩ := hq4.parts
      subst e4
      have OX1_4 := Lib.hid hq4
      clear hq4 hb4
      have k5 := Lib.hid (kS.out (some ⟨g3, 0, none⟩) (some ⟨g4, 0, none⟩) w4 OX0_4.out.sl OX1_4.out.sl)
      go_wp2_with fail
      refine (k5.out).mono ?_
      rintro ee w5 ⟨rfl, hb5⟩
      have Z5 := Lib.hid hb5.size
      have Hb5 := Lib.hid (Hb4.out.trans (hb5.mono Hb4.out.size))
      have OX0_5 := Lib.hid (TsCopy.below OX0_4.out hb5)
      have OX1_5 := Lib.hid (RsCopy.below OX1_4.out hb5)
      clear hb5
      have k6 := Lib.hid (toTradeS_any a0 n0 c0 x0 w5 hn0 hb_0.out (H0.out.below Hb5.out))
      go_wp2_with fail
      refine (k6.out).mono ?_
      rintro ee w6 ⟨v6, rfl, hq6, hb6⟩
      have Z6 := Lib.hid hb6.size
      have Hb6 := Lib.hid (Hb5.out.trans (hb6.mono Hb5.out.size))
      obtain ⟨g6, e6, _⟩ := hq6.parts
      subst e6
      have OX0_6 := Lib.hid hq6
      clear hq6 hb6
      have k7 := Lib.hid (toIntSS_any a1 n1 c1 x1 w6 hn1 hb_1.out (H1.out.below Hb6.out))
      go_wp2_with fail
      refine (k7.out).mono ?_
      rintro ee w7 ⟨v7, rfl, hq7, hb7⟩
      have Z7 := Lib.hid hb7.size
      have Hb7 := Lib.hid (Hb6.out.trans (hb7.mono Hb6.out.size))
      have OX0_7 := Lib.hid (TsCopy.below OX0_6.out hb7)
      obtain ⟨g7, e7, _⟩ := hq7.parts
      subst e7
      have OX1_7 := Lib.hid hq7
      clear hq7 hb7
      have k8 := Lib.hid (kI.out (some ⟨g6, 0, none⟩) (some ⟨g7, 0, none⟩) w7 OX0_7.out.sl OX1_7.out.sl)
      go_wp2_with fail
      refine (k8.out).mono ?_
      rintro ee w8 ⟨rfl, hb8⟩
      have Z8 := Lib.hid hb8.size
      have Hb8 := Lib.hid (Hb7.out.trans (hb8.mono Hb7.out.size))
      have OX0_8 := Lib.hid (TsCopy.below OX0_7.out hb8)
      have OX1_8 := Lib.hid (RsCopy.below OX1_7.out hb8)
      clear hb8
      have hne : (r != r) = false := by simp
      have k9 := Lib.hid (toTradeS_any a0 n0 c0 x0 w8 hn0 hb_0.out (H0.out.below Hb8.out))
      go_wp2_with fail
      refine (k9.out).mono ?_
      rintro ee w9 ⟨v9, rfl, hq9, hb9⟩
      have Z9 := Lib.hid hb9.size
      have Hb9 := Lib.hid (Hb8.out.trans (hb9.mono Hb8.out.size))
      have OX0_9 := Lib.hid (TsCopy.below OX0_8.out hb9)
      have OX1_9 := Lib.hid (RsCopy.below OX1_8.out hb9)
      obtain ⟨g9, e9, _⟩ := hq9.parts
      subst e9
      have OT_9 := Lib.hid hq9
      clear hq9 hb9
      have k10 := Lib.hid (eqTradeS_same (some ⟨g6, 0, none⟩) (some ⟨g9, 0, none⟩) n0 n0 n0 x0 w9 hn0 hb_0.out OX0_9.out.sl OT_9.out.sl)
      go_wp2_with fail
      refine (k10.out).mono ?_
      rintro ee w10 ⟨rfl, hb10⟩
      have Z10 := Lib.hid hb10.size
      have Hb10 := Lib.hid (Hb9.out.trans (hb10.mono Hb9.out.size))
      have OX0_10 := Lib.hid (TsCopy.below OX0_9.out hb10)
      have OX1_10 := Lib.hid (RsCopy.below OX1_9.out hb10)
      have OT_10 := Lib.hid (TsCopy.below OT_9.out hb10)
      clear hb10
      have k11 := Lib.hid (toIntSS_any a1 n1 c1 x1 w10 hn1 hb_1.out (H1.out.below Hb10.out))
      go_wp2_with fail
      refine (k11.out).mono ?_
      rintro ee w11 ⟨v11, rfl, hq11, hb11⟩
      have Z11 := Lib.hid hb11.size
      have Hb11 := Lib.hid (Hb10.out.trans (hb11.mono Hb10.out.size))
      have OX0_11 := Lib.hid (TsCopy.below OX0_10.out hb11)
      have OX1_11 := Lib.hid (RsCopy.below OX1_10.out hb11)
      obtain ⟨g11, e11, _⟩ := hq11.parts
      subst e11
      have OT_11 := Lib.hid hq11
      clear hq11 hb11
      have k12 := Lib.hid (eqIntSSa_same (some ⟨g7, 0, none⟩) (some ⟨g11, 0, none⟩) n1 n1 n1 x1 w11 hn1 hb_1.out OX1_11.out.sl OT_11.out.sl)
      go_wp2_with fail
      refine (k12.out).mono ?_
      rintro ee w12 ⟨rfl, hb12⟩
      have Z12 := Lib.hid hb12.size
      have Hb12 := Lib.hid (Hb11.out.trans (hb12.mono Hb11.out.size))
      have OX0_12 := Lib.hid (TsCopy.below OX0_11.out hb12)
      have OX1_12 := Lib.hid (RsCopy.below OX1_11.out hb12)
      have OT_12 := Lib.hid (RsCopy.below OT_11.out hb12)
      clear hb12
      go_wp2_with fail
      go_ret
      exact ⟨rfl, Hb12.out⟩
    · rw [szI_no hs1]
      go_wp2_with fail
      go_ret
      exact ⟨rfl, Hb2.out⟩
  · rw [szI_no hs0]
    go_wp2_with fail
    go_ret
    exact ⟨rfl, Hb1.out⟩

end Go.Proofs.Ytjkkopjmpmbapaa
