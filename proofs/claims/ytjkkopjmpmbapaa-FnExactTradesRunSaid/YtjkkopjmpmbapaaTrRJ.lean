/- TradesRun of the program. -/
import Derived.Test.YtjkkopjmpmbapaaTrR
namespace Go.Proofs.Ytjkkopjmpmbapaa
set_option maxRecDepth 100000
open Go.RowKit

set_option maxHeartbeats 4000000 in
theorem impl_TradesRun (a0 : Option Addr) (n0 c0 : Nat) (h : List Int) (ao : Option Addr) (n c : Nat) (ts : List Tr) (al : Option Addr) (m d : Nat) (l : List Int) (w : World) (hb0 : n0 ≤ 1048576) (hb : n ≤ 1048576) (hbl : ∀ t ∈ ts, t.take.length ≤ 1048576 ∧ t.give.length ≤ 1048576)
    (hl : ∀ x ∈ l, -9223372036854775808 ≤ x ∧ x ≤ 9223372036854775807) (h0 : Sl w a0 n0 c0 h) (hS : SlT w ao n c ts) (hL : Sl w al m d l) :
    Calls Try.prog 41 #[.slice a0 n0 c0, .slice ao n c, .slice al m d] w (TdPost w (runR h ts l) (runB h ts l)) := by
  have kH := Lib.hid (impl_HeapsValid a0 n0 c0 h w (by omega) h0)
  have kT := Lib.hid (impl_TradesValid ao n c ts w hb hbl hS)
  have hm9 : m ≤ 9223372036854775807 := by have h1 := hL.2.1; have h2 := hL.2.2.1; unfold maxLen at h2; omega
  have H0 := Lib.hid h0
  have HS := Lib.hid hS
  have HL := Lib.hid hL
  have HBL := Lib.hid hbl
  have HLB := Lib.hid hl
  clear h0 hS hL hbl hl
  rcases list_tf 40 h with hh | hh
  · rw [hh] at kH
    rcases tradesB_tf ts with ht | ht
    · rw [ht] at kT
      by_cases h99 : m ≤ 99
      · obtain rfl : n0 = 3 := by rw [← H0.out.1]; exact (listB_true.1 hh).1
        obtain ⟨r, hr⟩ : ∃ r, r = runR h ts l := ⟨_, rfl⟩
        obtain ⟨o, ho⟩ : ∃ o, o = runB h ts l := ⟨_, rfl⟩
        rw [← hr, ← ho]
        have Hr := Lib.hid hr
        have Ho := Lib.hid ho
        have Hh := Lib.hid hh
        have Ht := Lib.hid ht
        clear hr ho hh ht
        go_enter Try.func41, Try.ntmps41
        go_wp2_with fail
        refine (kH.out).mono ?_
        rintro ee wx ⟨rfl, rfl⟩
        go_wp2_with fail
        refine (kT.out).mono ?_
        rintro ee w1 ⟨rfl, hb1⟩
        have kC := Lib.hid (clone3_any a0 3 c0 h w1 (by decide) (by decide) (H0.out.below hb1))
        have Hb1 := Lib.hid hb1
        clear hb1
        go_wp2_with fail
        refine (kC.out).mono ?_
        rintro ee w2 ⟨g2, c2, rfl, ho2, hb2⟩
        have Ho2 := Lib.hid (Joins.ownsRow_le ho2 Hb1.out.size)
        have Hb2 := Lib.hid (Hb1.out.trans (hb2.mono Hb1.out.size))
        clear ho2 hb2
        go_wp2_with fail
        go_loopg [8, 30] m (fun gk v8 i wr => ∃ (k : Nat) (hk : List Int) (ak : Option Addr) (ck : Nat), gk + k = m ∧ i = .int .i64 k ∧ v8 = .slice ak 3 ck ∧ Hid (runN ts h (l.take k) = some hk) ∧ wr.ownsRow w.heap.size 3 1 (.slice ak 3 ck) 3 (ints hk) ∧ Below w.heap.size w wr)
        case atStart => exact ⟨0, h, some ⟨g2, 0, none⟩, c2, rfl, rfl, rfl, rfl, Ho2.out, Hb2.out⟩
        case round =>
          obtain ⟨k, hk, ak, ck, hgk, rfl, rfl, HR, hrow, hbel⟩ := hrel
          have Hgk := Lib.hid hgk
          have hkm : k ≤ m := by omega
          clear hgk
          by_cases hlt : k < m
          · have hkl : k < l.length := by rw [HL.out.1]; exact hlt
            obtain ⟨b, off, rfl, hat⟩ := (HL.out.below hbel).2.2.2 (by omega)
            have hx : wr.cell? ⟨b, off + k, none⟩ = some (.int .i64 (l.getD k 0)) := hat k hkl
            have hxb := HLB.out (l.getD k 0) (by simp [List.getD, hkl])
            have hstep := runN_take (ts := ts) (h := h) hkl
            rw [HR.out] at hstep
            obtain ⟨x, hxe⟩ : ∃ x, x = l.getD k 0 := ⟨_, rfl⟩
            rw [← hxe] at hx hxb hstep
            have kE := Lib.hid (exchange_any ak 3 ck hk ao n c ts x wr (by decide) hb HBL.out hxb.1 hxb.2 (Sl.of_own hrow) (HS.out.below hbel))
            have hstep' : runN ts h (l.take (k + 1)) = stepR ts hk x := hstep
            obtain ⟨q, hq⟩ : ∃ q, q = stepR ts hk x := ⟨_, rfl⟩
            rw [← hq] at kE hstep'
            have Hstep := Lib.hid hstep'
            have Hbel := Lib.hid hbel
            have hx0 := hxb.1
            have hx1 := hxb.2
            clear hat hkl hxb hstep hstep' hxe hq hrow hbel
            cases q with
            | some hk' =>
              go_wp2_with fail
              refine (kE.out).mono ?_
              rintro ee w3 (⟨aR, cR, ys, e1, rfl, hoR, hb3⟩ | ⟨e1, _⟩)
              · cases e1
                have HoR := Lib.hid (Joins.ownsRow_le hoR Hbel.out.size)
                have Hb3 := Lib.hid (Hbel.out.trans (hb3.mono Hbel.out.size))
                clear hoR hb3
                go_wp2_with fail
                go_roundg (gk - 1)
                case measure => have := Hgk.out; omega
                case rel => exact ⟨k + 1, hk', aR, cR, by have := Hgk.out; omega, by go_num, rfl, Hstep.out, HoR.out, Hb3.out⟩
              · cases e1
            | none =>
              have hn : runN ts h l = none := runN_fail Hstep.out
              have hoF : o = false := by rw [Ho.out]; exact runB_n hn
              have hrN : r = [] := by rw [Hr.out]; exact runR_no (by rw [← Ho.out]; exact hoF)
              subst hoF hrN
              clear hn
              go_wp2_with fail
              refine (kE.out).mono ?_
              rintro ee w3 (⟨aR, cR, ys, e1, _⟩ | ⟨_, rfl, hb3⟩)
              · cases e1
              · have Hb3 := Lib.hid (Hbel.out.trans (hb3.mono Hbel.out.size))
                clear hb3
                go_wp2_with fail
                go_ret2
                exact td_nil Hb3.out
          · obtain rfl : k = m := by omega
            have hfin := HR.out
            rw [List.take_of_length_le (by rw [HL.out.1]; exact Nat.le_refl _)] at hfin
            obtain ⟨e1, e2⟩ := runB_yes Hh.out Ht.out (by rw [HL.out.1]; exact h99) hfin
            rw [← Ho.out] at e1
            rw [← Hr.out] at e2
            have hk3 : hk.length = 3 := (listB_true.1 (runN_ok Hh.out hfin)).1
            subst e1 e2
            have HF := Lib.hid (show TdPost w r true (.returned (.tuple #[.slice ak 3 ck, .bool true])) wr from ⟨ak, ck, by rw [hk3], by rw [hk3]; exact hrow, hbel⟩)
            clear hfin hk3 hrow hbel
            go_wp2_with fail
            go_ret2
            exact HF.out
      · have hb' := runB_l (h := h) (ts := ts) (l := l) (by rw [HL.out.1]; exact h99)
        rw [hb', runR_no hb']
        have h99' : (99 : Int) < m := by omega
        clear hb'
        go_enter Try.func41, Try.ntmps41
        go_wp2_with fail
        refine (kH.out).mono ?_
        rintro ee wx ⟨rfl, rfl⟩
        go_wp2_with fail
        refine (kT.out).mono ?_
        rintro ee w1 ⟨rfl, hb1⟩
        have Hb1 := Lib.hid hb1
        clear hb1
        go_wp2_with fail
        go_ret2
        exact td_nil Hb1.out
    · rw [ht] at kT
      rw [runB_t ht, runR_no (runB_t ht)]
      go_enter Try.func41, Try.ntmps41
      go_wp2_with fail
      refine (kH.out).mono ?_
      rintro ee wx ⟨rfl, rfl⟩
      go_wp2_with fail
      refine (kT.out).mono ?_
      rintro ee w1 ⟨rfl, hb1⟩
      have Hb1 := Lib.hid hb1
      clear hb1
      go_wp2_with fail
      go_ret2
      exact td_nil Hb1.out
  · rw [hh] at kH
    rw [runB_h hh, runR_no (runB_h hh)]
    go_enter Try.func41, Try.ntmps41
    go_wp2_with fail
    refine (kH.out).mono ?_
    rintro ee wx ⟨rfl, rfl⟩
    go_wp2_with fail
    go_ret2
    exact td_nil (Below.refl _ _)

end Go.Proofs.Ytjkkopjmpmbapaa
