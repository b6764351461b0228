/- TradesRun of the model. -/
import Derived.Test.YtjkkopjmpmbapaaTrR
namespace Go.Proofs.Ytjkkopjmpmbapaa
set_option maxRecDepth 100000
open Go.RowKit

set_option maxHeartbeats 4000000 in
theorem spec_TradesRun (a0 : Option Addr) (n0 c0 : Nat) (h : List Int) (ao : Option Addr) (n c : Nat) (ts : List Tr) (al : Option Addr) (m d : Nat) (l : List Int) (w : World) (hb : n ≤ 1048576) (h0 : Sl w a0 n0 c0 h) (hS : SlT w ao n c ts) (hL : Sl w al m d l) :
    Calls Try.prog 40 #[.slice a0 n0 c0, .slice ao n c, .slice al m d] w (TdPost w (runR h ts l) (runB h ts l)) := by
  obtain ⟨i0, hi, hz0, hz1, hz2⟩ := info_parts info_int
  have kH := Lib.hid (spec_HeapsValid a0 n0 c0 h w h0)
  have kT := Lib.hid (spec_TradesValid ao n c ts w hb hS)
  have hm9 : m ≤ 9223372036854775807 := by have h1 := hL.2.1; have h2 := hL.2.2.1; unfold maxLen at h2; omega
  have H0 := Lib.hid h0
  have HS := Lib.hid hS
  have HL := Lib.hid hL
  clear h0 hS hL
  rcases list_tf 40 h with hh | hh
  · rw [hh] at kH
    rcases tradesB_tf ts with ht | ht
    · rw [ht] at kT
      by_cases h99 : m ≤ 99
      · obtain rfl : n0 = 3 := by rw [← H0.out.1]; exact (listB_true.1 hh).1
        obtain ⟨r, hr⟩ : ∃ r, r = runR h ts l := ⟨_, rfl⟩
        obtain ⟨o, ho⟩ : ∃ o, o = runB h ts l := ⟨_, rfl⟩
        rw [← hr, ← ho]
        have Hr := Lib.hid hr
        have Ho := Lib.hid ho
        have Hh := Lib.hid hh
        have Ht := Lib.hid ht
        clear hr ho hh ht
        go_enter Try.func40, Try.ntmps40
        go_wp2_with fail
        refine (kH.out).mono ?_
        rintro ee wx ⟨rfl, rfl⟩
        go_wp2_with fail
        refine (kT.out).mono ?_
        rintro ee w1 ⟨rfl, hb1⟩
        obtain ⟨b0, f0, rfl, hat0⟩ := (H0.out.below hb1).2.2.2 (by decide)
        have hl3 : h.length = 3 := H0.out.1
        have HLn := Lib.hid (show (ints h).length = 3 * 1 by rw [ints_len]; exact hl3)
        have HN := Lib.hid (show ∀ j u, (ints h)[j]? = some u → (w1.alloc (.cells #[] 3)).cell? ((⟨b0, f0, none⟩ : Addr).add j) = some u by
          intro j u hj
          have hjl := (List.getElem?_eq_some_iff.1 hj).1
          rw [ints_len] at hjl
          rw [ints_get h j hjl] at hj
          cases hj
          rw [Addr.add_lit, ((Below.refl w1.heap.size w1).alloc (Nat.le_refl _) (.cells #[] 3)).cell (hat0.lt (by intro h'; rw [h'] at hl3; simp at hl3))]
          exact hat0 j hjl)
        have HO := Lib.hid (World.ownsRow_lit (base := w1.heap.size) (e := 3) (size := 1) w1 #[] 0 (Nat.le_refl _) (by simp [maxLen]) rfl)
        have Hb1 := Lib.hid hb1
        have hws := hb1.size
        clear hb1 hat0 hl3
        go_wp2_with (first
          | (at_builtin; refine wpList_append_own _ rfl (.tmp 26) (.tmp 27) 22 rfl w1.heap.size 3 i0 (.int .i64 0) 1 8 Try.underlying22 hi hz0 hz1 hz2 rfl (by decide) _ 0 [] rfl HO.out ⟨b0, f0, none⟩ 3 c0 (ints h) rfl HLn.out HN.out (ints_oneCell _ h) (by unfold maxLen; omega) (by omega) (by simp) ?_; intro v2 w2 ho2 hg2 _))
        obtain ⟨g2, c2, rfl⟩ := Joins.ownsRow_form ho2 (by omega)
        have hst : w2.ownsRow w.heap.size 3 1 (.slice (some ⟨g2, 0, none⟩) 3 c2) 3 (ints h) ∧ Below w.heap.size w w2 := by
          refine ⟨Joins.ownsRow_le (by simpa using ho2) Hb1.out.size, ?_⟩
          exact (Hb1.out.alloc Hb1.out.size _).grown hg2 (by simp; omega) (fun r e => by have := (HO.out.lt r e).1; omega)
        have Hst := Lib.hid hst
        clear ho2 hg2 hst
        go_wp2_with fail
        go_loopg [8, 9] m (fun gk v8 i wr => ∃ (k : Nat) (hk : List Int) (ak : Option Addr) (ck : Nat), gk + k = m ∧ i = .int .i64 k ∧ v8 = .slice ak 3 ck ∧ Hid (runN ts h (l.take k) = some hk) ∧ wr.ownsRow w.heap.size 3 1 (.slice ak 3 ck) 3 (ints hk) ∧ Below w.heap.size w wr)
        case atStart => exact ⟨0, h, some ⟨g2, 0, none⟩, c2, rfl, rfl, rfl, rfl, Hst.out.1, Hst.out.2⟩
        case round =>
          obtain ⟨k, hk, ak, ck, hgk, rfl, rfl, HR, hrow, hbel⟩ := hrel
          have Hgk := Lib.hid hgk
          have hkm : k ≤ m := by omega
          clear hgk
          by_cases hlt : k < m
          · have hkl : k < l.length := by rw [HL.out.1]; exact hlt
            obtain ⟨b, off, rfl, hat⟩ := (HL.out.below hbel).2.2.2 (by omega)
            have hx : wr.cell? ⟨b, off + k, none⟩ = some (.int .i64 (l.getD k 0)) := hat k hkl
            have hstep := runN_take (ts := ts) (h := h) hkl
            rw [HR.out] at hstep
            obtain ⟨x, hxe⟩ : ∃ x, x = l.getD k 0 := ⟨_, rfl⟩
            rw [← hxe] at hx hstep
            have hstep' : runN ts h (l.take (k + 1)) = stepR ts hk x := hstep
            have Hbel := Lib.hid hbel
            by_cases hx0 : x < 0 ∨ (n : Int) - 1 < x
            · have hn : stepR ts hk x = none := by
                by_cases hneg : x < 0
                · exact stepR_neg hneg
                · obtain ⟨j, rfl⟩ : ∃ j : Nat, x = j := ⟨x.toNat, by omega⟩
                  exact stepR_far (by rw [HS.out.1]; omega)
              have hn' : runN ts h l = none := runN_fail (hstep'.trans hn)
              have hoF : o = false := by rw [Ho.out]; exact runB_n hn'
              have hrN : r = [] := by rw [Hr.out]; exact runR_no (by rw [← Ho.out]; exact hoF)
              subst hoF hrN
              have ci := Lib.hid (l1In_no x 0 ((n : Int) - 1) wr hx0)
              clear hat hkl hstep hstep' hxe hrow hbel hn hn' hx0
              go_wp2_with fail
              refine (ci.out).mono ?_
              rintro ee wx ⟨rfl, rfl⟩
              go_wp2_with fail
              go_ret2
              exact td_lit Hbel.out
            · obtain ⟨j, rfl⟩ : ∃ j : Nat, x = j := ⟨x.toNat, by omega⟩
              have hjn : j < n := by omega
              have ci := Lib.hid (l1In_yes (j : Int) 0 ((n : Int) - 1) wr (by omega) (by omega))
              obtain ⟨t, ht'⟩ : ∃ t, ts[j]? = some t := ⟨ts[j]'(by rw [HS.out.1]; exact hjn), List.getElem?_eq_getElem _⟩
              obtain ⟨bt, ft, rfl, hatt⟩ := (HS.out.below hbel).2.2.2 (by omega)
              obtain ⟨a1, n1, c1, a2, n2, c2', e1, e2, s1, s2⟩ := hatt j t ht'
              have kD := Lib.hid (spec_TradeDo ak a1 a2 3 ck n1 c1 n2 c2' hk t wr (Sl.of_own hrow) s1 s2)
              unfold TdPost at kD
              have hjn' : (j : Int) < n := by omega
              rcases can_tf hk t with hc | hc
              · have hy := stepR_yes ht' hc
                have hl3 := doR_len hc
                obtain ⟨y, hyy⟩ : ∃ y, y = doR hk t := ⟨_, rfl⟩
                rw [← hyy] at kD hy hl3
                rw [hc, hl3] at kD
                have Hstep := Lib.hid (hstep'.trans hy)
                clear hat hkl hstep hstep' hxe hrow hbel hx0 hatt s1 s2 ht' hc hy hl3 hyy
                go_wp2_with fail
                refine (ci.out).mono ?_
                rintro ee wx ⟨rfl, rfl⟩
                go_wp2_with fail
                refine (kD.out).mono ?_
                rintro ee w3 ⟨aR, cR, rfl, hoR, hb3⟩
                have HoR := Lib.hid (Joins.ownsRow_le hoR Hbel.out.size)
                have Hb3 := Lib.hid (Hbel.out.trans (hb3.mono Hbel.out.size))
                clear hoR hb3
                go_wp2_with fail
                go_roundg (gk - 1)
                case measure => have := Hgk.out; omega
                case rel => exact ⟨k + 1, y, aR, cR, by have := Hgk.out; omega, by go_num, rfl, Hstep.out, HoR.out, Hb3.out⟩
              · have hy := stepR_no ht' hc
                have hn' : runN ts h l = none := runN_fail (hstep'.trans hy)
                have hoF : o = false := by rw [Ho.out]; exact runB_n hn'
                have hrN : r = [] := by rw [Hr.out]; exact runR_no (by rw [← Ho.out]; exact hoF)
                subst hoF hrN
                rw [hc, doR_no hc] at kD
                clear hat hkl hstep hstep' hxe hrow hbel hx0 hatt s1 s2 ht' hc hy hn'
                go_wp2_with fail
                refine (ci.out).mono ?_
                rintro ee wx ⟨rfl, rfl⟩
                go_wp2_with fail
                refine (kD.out).mono ?_
                rintro ee w3 ⟨aR, cR, rfl, hoR, hb3⟩
                have Hb3 := Lib.hid (Hbel.out.trans (hb3.mono Hbel.out.size))
                clear hoR hb3
                go_wp2_with fail
                go_ret2
                exact td_lit Hb3.out
          · obtain rfl : k = m := by omega
            have hfin := HR.out
            rw [List.take_of_length_le (by rw [HL.out.1]; exact Nat.le_refl _)] at hfin
            obtain ⟨e1, e2⟩ := runB_yes Hh.out Ht.out (by rw [HL.out.1]; exact h99) hfin
            rw [← Ho.out] at e1
            rw [← Hr.out] at e2
            have hk3 : hk.length = 3 := (listB_true.1 (runN_ok Hh.out hfin)).1
            subst e1 e2
            have HF := Lib.hid (show TdPost w r true (.returned (.tuple #[.slice ak 3 ck, .bool true])) wr from ⟨ak, ck, by rw [hk3], by rw [hk3]; exact hrow, hbel⟩)
            clear hfin hk3 hrow hbel
            go_wp2_with fail
            go_ret2
            exact HF.out
      · have hb' := runB_l (h := h) (ts := ts) (l := l) (by rw [HL.out.1]; exact h99)
        rw [hb', runR_no hb']
        have h99' : (99 : Int) < m := by omega
        clear hb'
        go_enter Try.func40, Try.ntmps40
        go_wp2_with fail
        refine (kH.out).mono ?_
        rintro ee wx ⟨rfl, rfl⟩
        go_wp2_with fail
        refine (kT.out).mono ?_
        rintro ee w1 ⟨rfl, hb1⟩
        have Hb1 := Lib.hid hb1
        clear hb1
        go_wp2_with fail
        go_ret2
        exact td_lit Hb1.out
    · rw [ht] at kT
      rw [runB_t ht, runR_no (runB_t ht)]
      go_enter Try.func40, Try.ntmps40
      go_wp2_with fail
      refine (kH.out).mono ?_
      rintro ee wx ⟨rfl, rfl⟩
      go_wp2_with fail
      refine (kT.out).mono ?_
      rintro ee w1 ⟨rfl, hb1⟩
      have Hb1 := Lib.hid hb1
      clear hb1
      go_wp2_with fail
      go_ret2
      exact td_lit Hb1.out
  · rw [hh] at kH
    rw [runB_h hh, runR_no (runB_h hh)]
    go_enter Try.func40, Try.ntmps40
    go_wp2_with fail
    refine (kH.out).mono ?_
    rintro ee wx ⟨rfl, rfl⟩
    go_wp2_with fail
    go_ret2
    exact td_lit (Below.refl _ _)

end Go.Proofs.Ytjkkopjmpmbapaa
