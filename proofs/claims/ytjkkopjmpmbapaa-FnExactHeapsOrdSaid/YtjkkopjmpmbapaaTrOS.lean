/- HeapsOrd of the model. -/
import Derived.Test.YtjkkopjmpmbapaaTrO
namespace Go.Proofs.Ytjkkopjmpmbapaa
set_option maxRecDepth 100000
open Go.RowKit

set_option maxHeartbeats 4000000 in
theorem l8Ord_any (a0 : Option Addr) (c0 : Nat) (h : List Int) (ao : Option Addr) (c : Nat) (os : List (List Int)) (mx : Int) (hmx : mx ≤ 1000) (w : World) (hh : listB mx h = true) (h0 : Sl w a0 3 c0 h) (hS : SlR w ao 3 c os) :
    Calls Try.prog 54 #[.slice a0 3 c0, .slice ao 3 c] w fun e w' => ∃ a c', e = .returned (.slice a ((ordN (stackO h os 3)).getD []).length c') ∧ w'.ownsRow w.heap.size 3 1 (.slice a ((ordN (stackO h os 3)).getD []).length c') ((ordN (stackO h os 3)).getD []).length (ints ((ordN (stackO h os 3)).getD [])) ∧ Below w.heap.size w w' := by
  have H0 := Lib.hid h0
  have HS := Lib.hid hS
  have Hh := Lib.hid hh
  obtain ⟨r, hr⟩ : ∃ r, r = (ordN (stackO h os 3)).getD [] := ⟨_, rfl⟩
  rw [← hr]
  have Hr := Lib.hid hr
  have Ho2 := Lib.hid (show (w.alloc (.cells #[.int .i64 0] 3)).ownsRow w.heap.size 3 1 (.slice (some ⟨w.heap.size, 0, none⟩) 1 1) 1 (ints [0]) from World.ownsRow_lit w #[.int .i64 0] 1 (Nat.le_refl _) (by simp [maxLen]) rfl)
  have Hb2 := Lib.hid (show Below w.heap.size w (w.alloc (.cells #[.int .i64 0] 3)) from (Below.refl _ _).alloc (Nat.le_refl _) _)
  have Hmx := Lib.hid hmx
  clear hr hh h0 hS hmx
  go_enter Try.func54, Try.ntmps54
  go_wp2_with fail
  go_loopg [5, 6] 3 (fun gk v6 i wr => ∃ (k m : Nat) (s : List Int) (ak : Option Addr) (ck : Nat), gk + k = 3 ∧ i = .int .i64 k ∧ v6 = .slice ak m ck ∧ Hid (ordN (stackO h os k) = some s ∧ m = s.length) ∧ wr.ownsRow w.heap.size 3 1 (.slice ak m ck) m (ints s) ∧ Below w.heap.size w wr)
  case atStart => exact ⟨0, 1, [0], some ⟨w.heap.size, 0, none⟩, 1, rfl, rfl, rfl, Lib.hid ⟨rfl, rfl⟩, Ho2.out, Hb2.out⟩
  case round =>
    obtain ⟨k, m, s, ak, ck, hgk, rfl, rfl, HR, hrow, hbel⟩ := hrel
    obtain ⟨GK, hGK⟩ : ∃ G, G = gk := ⟨_, rfl⟩
    rw [← hGK] at hgk
    have HGK := Lib.hid hGK
    clear hGK
    have Hgk := Lib.hid hgk
    have hk3 : k ≤ 3 := by omega
    clear hgk
    by_cases hlt : k < 3
    · obtain ⟨bh, oh, rfl, hath⟩ := H0.out.2.2.2 (by decide)
      have hxb := listB_get Hh.out hlt
      have Hxc := Lib.hid (hath.below (Below.refl _ w) (hath.lt (by have h3 := (listB_true.1 Hh.out).1; intro h'; rw [h'] at h3; simp at h3)))
      obtain ⟨x, hx⟩ : ∃ x, x = h.getD k 0 := ⟨_, rfl⟩
      rw [← hx] at hxb
      obtain ⟨X, hXX⟩ : ∃ X : Nat, x = X := ⟨x.toNat, by omega⟩
      have Hx := Lib.hid (hx.symm.trans hXX)
      have HH := Lib.hid hath
      have Hrow := Lib.hid hrow
      have Hbel := Lib.hid hbel
      have hx4 : (X : Int) ≤ 1000 := by have := hxb.2; have := Hmx.out; omega
      have hdk : decide ((k : Int) < 3) = true := decide_eq_true (by omega)
      clear hx hath hrow hbel hxb
      subst hXX
      go_wp2_with fail
      go_loopg [5, 7] X (fun gj v6 i wz => ∃ (j m : Nat) (s : List Int) (ak : Option Addr) (ck : Nat), gj + j = X ∧ i = .int .i64 j ∧ v6 = .slice ak m ck ∧ Hid (ordN (stackO h os k ++ List.replicate j (os.getD k [])) = some s ∧ m = s.length) ∧ wz.ownsRow w.heap.size 3 1 (.slice ak m ck) m (ints s) ∧ Below w.heap.size w wz)
      case atStart => exact ⟨0, m, s, ak, ck, by omega, rfl, rfl, Lib.hid (by simpa using HR.out), Hrow.out, Hbel.out⟩
      case round =>
        obtain ⟨j, m', s', ak', ck', hgj, rfl, rfl, HR', hrow', hbel'⟩ := hrel
        have Hgj := Lib.hid hgj
        have hxc : wr.cell? ⟨bh, oh + k, none⟩ = some (.int .i64 X) := by
          have h1 := HH.out k (by rw [H0.out.1]; exact hlt)
          rw [Hx.out] at h1
          exact (hbel'.cell (cell_in h1)).trans h1
        by_cases hjx : j < X
        · obtain ⟨y, hy⟩ : ∃ y, os[k]? = some y := ⟨os[k]'(by rw [HS.out.1]; exact hlt), List.getElem?_eq_getElem _⟩
          obtain ⟨bo, oo, rfl, hato⟩ := (HS.out.below hbel').2.2.2 (by decide)
          obtain ⟨a1, n1, c1, e1, s1⟩ := hato k y hy
          have hgd : os.getD k [] = y := by simp [List.getD, hy]
          have kN := Lib.hid (spec_OrdNatural ak' a1 m' ck' n1 c1 s' y wr (Sl.of_own hrow') s1)
          unfold OrdOkPost at kN
          have hnext : ordN (stackO h os k ++ List.replicate (j + 1) (os.getD k [])) = addO (some s') y := by
            rw [List.replicate_succ', ← List.append_assoc, ordN_snoc, HR'.out.1, hgd]
          obtain ⟨rest, hrest⟩ := stackO_pre h os hlt (j := j + 1) (by rw [Hx.out]; push_cast; omega)
          have Hbel' := Lib.hid hbel'
          obtain ⟨q, hq⟩ : ∃ q, q = T.natOk s' y := ⟨_, rfl⟩
          obtain ⟨u, hu⟩ : ∃ u, u = T.natRow s' y := ⟨_, rfl⟩
          rw [← hq, ← hu] at kN
          cases q with
          | true =>
            have Hnx := Lib.hid (show ordN (stackO h os k ++ List.replicate (j + 1) (os.getD k [])) = some u by rw [hnext, addO_yes hq.symm, ← hu])
            clear hy hato s1 hgd hnext hrest hq hu hgj hrow' hbel'
            go_wp2_with fail
            refine (kN.out).mono ?_
            rintro ee w4 ⟨aR, cR, rfl, hoR, hb4⟩
            have HoR := Lib.hid (Joins.ownsRow_le hoR Hbel'.out.size)
            have Hb4 := Lib.hid (Hbel'.out.trans (hb4.mono Hbel'.out.size))
            clear hoR hb4
            go_wp2_with fail
            go_roundg (gk - 1)
            case measure => have := Hgj.out; omega
            case rel => exact ⟨j + 1, u.length, u, aR, cR, by have := Hgj.out; omega, by go_num, rfl, Lib.hid ⟨Hnx.out, rfl⟩, HoR.out, Hb4.out⟩
          | false =>
            have hn : ordN (stackO h os 3) = none := by rw [hrest]; exact ordN_fail (by rw [hnext]; exact addO_no hq.symm)
            have hrN : r = [] := by rw [Hr.out, hn]; rfl
            subst hrN
            clear hy hato s1 hgd hnext hrest hq hu hgj hrow' hbel' hn
            go_wp2_with fail
            refine (kN.out).mono ?_
            rintro ee w4 ⟨aR, cR, rfl, hoR, hb4⟩
            have Hb4 := Lib.hid (Hbel'.out.trans (hb4.mono Hbel'.out.size))
            clear hoR hb4
            go_wp2_with fail
            go_ret
            exact ⟨_, 0, rfl, World.ownsRow_lit w4 #[] 0 (by have := Hb4.out.size; omega) (by simp [maxLen]) rfl, Hb4.out.alloc (by have := Hb4.out.size; omega) _⟩
        · obtain rfl : j = X := by omega
          have HR2 := Lib.hid (show ordN (stackO h os (k + 1)) = some s' ∧ m' = s'.length by
            have h1 := HR'.out
            rw [stackO, Hx.out, Int.toNat_natCast]
            exact h1)
          have Hrow' := Lib.hid hrow'
          have Hbel' := Lib.hid hbel'
          clear hgj hrow' hbel'
          go_wp2_with fail
          go_roundg (GK - 1)
          case measure => have h1 := Hgk.out; have h2 := HGK.out; omega
          case rel => exact ⟨k + 1, m', s', ak', ck', by have := Hgk.out; omega, by go_num, rfl, HR2.out, Hrow'.out, Hbel'.out⟩
    · obtain rfl : k = 3 := by omega
      obtain ⟨hR1, hR2⟩ := HR.out
      have hrs : r = s := by rw [Hr.out, hR1]; rfl
      subst hR2 hrs
      have Hrow := Lib.hid hrow
      have Hbel := Lib.hid hbel
      clear hR1 hrow hbel
      go_wp2_with fail
      go_ret
      exact ⟨ak, ck, rfl, Hrow.out, Hbel.out⟩

set_option maxHeartbeats 4000000 in
theorem spec_HeapsOrd (a0 : Option Addr) (n0 c0 : Nat) (h : List Int) (ao : Option Addr) (n c : Nat) (os : List (List Int)) (w : World) (hb : n ≤ 1048576) (h0 : Sl w a0 n0 c0 h) (hS : SlR w ao n c os) :
    Calls Try.prog 33 #[.slice a0 n0 c0, .slice ao n c] w (TdPost w (hordR h os) (hordB h os)) := by
  have kH := Lib.hid (spec_HeapsValid a0 n0 c0 h w h0)
  have H0 := Lib.hid h0
  have HS := Lib.hid hS
  clear h0 hS
  rcases list_tf 40 h with hh | hh
  · rw [hh] at kH
    obtain rfl : n0 = 3 := by rw [← H0.out.1]; exact (listB_true.1 hh).1
    by_cases hn3 : n = 3
    · subst hn3
      obtain ⟨r, hr⟩ : ∃ r, r = hordR h os := ⟨_, rfl⟩
      obtain ⟨o, ho⟩ : ∃ o, o = hordB h os := ⟨_, rfl⟩
      rw [← hr, ← ho]
      have Hr := Lib.hid hr
      have Ho := Lib.hid ho
      have Hh := Lib.hid hh
      clear hr ho hh
      go_enter Try.func33, Try.ntmps33
      go_wp2_with fail
      refine (kH.out).mono ?_
      rintro ee wx ⟨rfl, rfl⟩
      go_wp2_with fail
      go_loopg [6] 3 (fun gk i wr => ∃ (k : Nat), gk + k = 3 ∧ i = .int .i64 k ∧ Hid (∀ j x, j < k → os[j]? = some x → T.vldB x = true) ∧ Below w.heap.size w wr)
      case atStart => exact ⟨0, rfl, rfl, fun j t hj => by omega, Below.refl _ _⟩
      case round =>
        obtain ⟨k, hgk, rfl, HE, hbel⟩ := hrel
        have Hgk := Lib.hid hgk
        have hk : k ≤ 3 := by omega
        clear hgk
        by_cases hlt : k < 3
        · obtain ⟨x, hx⟩ : ∃ x, os[k]? = some x := ⟨os[k]'(by rw [HS.out.1]; exact hlt), List.getElem?_eq_getElem _⟩
          obtain ⟨b, off, rfl, hat⟩ := (HS.out.below hbel).2.2.2 (by omega)
          obtain ⟨a1, n1, c1, e1, s1⟩ := hat k x hx
          have kV := Lib.hid (spec_OrdValid a1 n1 c1 x wr s1)
          have Hbel := Lib.hid hbel
          rcases vld_tf x with hv | hv
          · rw [hv] at kV
            have HV := Lib.hid hv
            have Hx := Lib.hid hx
            clear hx s1 hat hv hbel
            go_wp2_with fail
            refine (kV.out).mono ?_
            rintro ee w2 ⟨rfl, hb2⟩
            have Hb2 := Lib.hid (Hbel.out.trans (hb2.mono Hbel.out.size))
            clear hb2
            go_wp2_with fail
            go_roundg (gk - 1)
            case measure => have := Hgk.out; omega
            case rel =>
              refine ⟨k + 1, by have := Hgk.out; omega, by go_num, fun j x' hj hx' => ?_, Hb2.out⟩
              by_cases hjk : j = k
              · subst hjk
                have h9 := Hx.out.symm.trans hx'
                cases h9
                exact HV.out
              · exact HE.out j x' (by omega) hx'
          · rw [hv] at kV
            have hoF : o = false := by rw [Ho.out]; exact hordB_w (worthB_at hx hv)
            have hrN : r = [] := by rw [Hr.out]; exact hordR_no (by rw [← Ho.out]; exact hoF)
            subst hoF hrN
            clear hx s1 hat hv hbel
            go_wp2_with fail
            refine (kV.out).mono ?_
            rintro ee w2 ⟨rfl, hb2⟩
            have Hb2 := Lib.hid (Hbel.out.trans (hb2.mono Hbel.out.size))
            clear hb2
            go_wp2_with fail
            go_ret2
            exact td_lit Hb2.out
        · obtain rfl : k = 3 := by omega
          have hw := worthB_all HS.out.1 (fun j x hj => HE.out j x (by rw [← HS.out.1]; exact (List.getElem?_eq_some_iff.1 hj).1) hj)
          have kO := Lib.hid (l8Ord_any a0 c0 h ao c os 40 (by decide) wr Hh.out (H0.out.below hbel) (HS.out.below hbel))
          have Hbel := Lib.hid hbel
          cases hN : ordN (stackO h os 3) with
          | none =>
            have hoF : o = false := by rw [Ho.out]; exact hordB_n hN
            have hrN : r = [] := by rw [Hr.out]; exact hordR_no (by rw [← Ho.out]; exact hoF)
            rw [hN] at kO
            subst hoF hrN
            clear hN hw hbel
            go_wp2_with fail
            refine (kO.out).mono ?_
            rintro ee w2 ⟨a2, c2, rfl, ho2, hb2⟩
            have HF := Lib.hid (show TdPost w [] false (.returned (.tuple #[.slice a2 0 c2, .bool false])) w2 from ⟨a2, c2, rfl, Joins.ownsRow_le ho2 Hbel.out.size, Hbel.out.trans (hb2.mono Hbel.out.size)⟩)
            clear ho2 hb2
            go_wp2_with fail
            go_ret2
            exact HF.out
          | some s =>
            obtain ⟨e1, e2⟩ := hordB_yes Hh.out hw hN
            rw [← Ho.out] at e1
            rw [← Hr.out] at e2
            have hs1 := (vld_len (ordN_vld hN)).1
            rw [hN] at kO
            subst e1 e2
            have kO' : Hid (Calls Try.prog 54 #[.slice a0 3 c0, .slice ao 3 c] wr fun e w' => ∃ a c', e = .returned (.slice a r.length c') ∧ w'.ownsRow wr.heap.size 3 1 (.slice a r.length c') r.length (ints r) ∧ Below wr.heap.size wr w') := kO
            have hs2 : 0 < r.length := by omega
            clear hN hw hbel kO
            go_wp2_with fail
            refine (kO'.out).mono ?_
            rintro ee w2 ⟨a2, c2, rfl, ho2, hb2⟩
            have HF := Lib.hid (show TdPost w r true (.returned (.tuple #[.slice a2 r.length c2, .bool true])) w2 from ⟨a2, c2, rfl, Joins.ownsRow_le ho2 Hbel.out.size, Hbel.out.trans (hb2.mono Hbel.out.size)⟩)
            clear ho2 hb2
            go_wp2_with fail
            go_ret2
            exact HF.out
    · have hw : hordB h os = false := hordB_w (worthB_len (by rw [HS.out.1]; exact hn3))
      rw [hw, hordR_no hw]
      have hne : ((n : Int) != 3) = true := by simp; omega
      clear hw
      go_enter Try.func33, Try.ntmps33
      go_wp2_with fail
      refine (kH.out).mono ?_
      rintro ee wx ⟨rfl, rfl⟩
      go_wp2_with fail
      go_ret2
      exact td_lit (Below.refl _ _)
  · rw [hh] at kH
    rw [hordB_h hh, hordR_no (hordB_h hh)]
    go_enter Try.func33, Try.ntmps33
    go_wp2_with fail
    refine (kH.out).mono ?_
    rintro ee wx ⟨rfl, rfl⟩
    go_wp2_with fail
    go_ret2
    exact td_lit (Below.refl _ _)

end Go.Proofs.Ytjkkopjmpmbapaa
